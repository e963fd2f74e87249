/- Acts that came in: what they keep is a list within its capacity. -/
import Derived.Test.YtonhoahnieoebabGreatDoorQLawKeeps
set_option maxHeartbeats 4000000
set_option maxRecDepth 100000
namespace Go.Proofs.YtonhoahnieoebabGreatDoor
open Go.RowKit Go.ChangeShapes Go.WideShapes
section
variable {H:Type} {enc:TypeId × Value→H}
theorem UR{w:World}{fuel:Nat}{v:Value}{x:DataW H × List MemPlace}(h:DataW.trod enc Tryz.prog w 0 (fun _=>true) true fuel 41 [v]=some x) :
  ∃ ka kl kc,v=.slice ka kl kc∧kl≤kc∧kc≤maxLen:=by
 rcases Go.Deep.open_bools Tryz.underlying41 Tryz.underlying4 (by kernel_rfl) h with⟨hcs,_⟩|⟨a,len,cap,Bf,hcs,_,hl,hm,_,_⟩
 ·have:v=.slice none 0 0:=by simpa using hcs
  exact⟨none,0,0,this,Nat.le_refl _,Nat.zero_le _⟩
 ·have:v=.slice (some a) len cap:=by simpa using hcs
  exact⟨some a,len,cap,this,hl,hm⟩
theorem Lu{w:World}{fuel:Nat}{cs:List Value}{x:DataW H × List MemPlace}(h:DataW.trod enc Tryz.prog w 0 (fun _=>true) true fuel 43 cs=some x) :
  ∃ ka kl kc,cs[6]?=some (.slice ka kl kc)∧kl≤kc∧kc≤maxLen:=by
 obtain⟨xs,n,_,_,hl,hlen,hf⟩:=DataW.trod_struct Tryz.underlying43 h
 have h7:cs.length=7:=by rw[hl];kernel_rfl
 have c3:Tryz.prog.cellsOf 3=1:=by kernel_rfl
 have c9:Tryz.prog.cellsOf 9=1:=by kernel_rfl
 have c45:Tryz.prog.cellsOf 41=1:=by kernel_rfl
 match cs,h7,xs,hlen with
 | [v0,v1,v2,v3,v4,v5,v6],_,[y0,y1,y2,y3,y4,y5,y6],_ =>
  have f6:DataW.trod enc Tryz.prog w 0 (fun _=>true) true n 41 [v6]=some y6:=by simpa [c3,c9,c45] using hf 6 _ rfl
  obtain⟨ka,kl,kc,rfl,e2,e3⟩:=UR f6
  exact⟨ka,kl,kc,rfl,e2,e3⟩
def wQ(xs:List aG):Prop:=∀ k,k<xs.length→(xs.getD k aG.none_).kl≤(xs.getD k aG.none_).kc∧(xs.getD k aG.none_).kc≤maxLen
theorem Uh{w:World}{la:Option Addr}{len cap fuel:Nat}{x:DataW H × List MemPlace}(h:DataW.trod enc Tryz.prog w 0 (fun _=>true) true fuel 23 [.slice la len cap]=some x) :
  ∃ xs,kM w la len xs∧len≤maxLen∧tV xs∧wQ xs:=by
 obtain⟨xs,hT,hl0,hB⟩:=PV h
 refine⟨xs,hT,hl0,hB,fun k hk=>?_⟩
 have hkl:k<len:=by have:=hT.1;omega
 obtain⟨b,off,e,hr,_⟩:=hT.2 k hkl
 rcases Go.Deep.open_slice Tryz.underlying23 h with⟨hcs,_⟩|⟨a,len',cap',m,n,D,Pl,hcs,_,hl,hm,hmm,_,hx⟩
 ·simp at hcs
  obtain⟨rfl,rfl,rfl⟩:=hcs
  omega
 ·simp at hcs
  obtain⟨rfl,rfl,rfl⟩:=hcs
  cases e
  have c47:Tryz.prog.cellsOf 43=7:=by kernel_rfl
  simp only[if_true] at hmm
  subst hmm
  obtain⟨cs',h1,h2⟩:=hx k (by omega)
  obtain⟨ka,kl,kc,e2,e3,e4⟩:=Lu h2
  obtain⟨_,_,hc⟩:=World.cells?_some h1
  rw[c47] at hc
  have h3:=hc 6 (by omega)
  rw[e2,Go.Deep.add_add,Go.WideShapes.add_plain] at h3
  have h4:=hr 6 (.slice (xs.getD k aG.none_).ka (xs.getD k aG.none_).kl (xs.getD k aG.none_).kc) rfl
  rw[show off+k*7+6=off+(k*7+6) by omega,h3] at h4
  have h5:=Option.some.inj h4
  injection h5 with _ h6 h7
  rw[← h6,← h7]
  exact⟨e3,e4⟩
end
end Go.Proofs.YtonhoahnieoebabGreatDoor
namespace Go.Proofs.YtonhoahnieoebabGreatDoor
open Go.RowKit Go.Maps
def CSt(B:Nat)(w0:World)(yp gp C q:Nat)(W:World):Prop:=∃ Y y G g,YGd B w0 W yp Y y gp G (4*C) g∧Kno y C (20+2000*q) g (1+q)
theorem CSt.below{B yp gp C q:Nat}{w0 W:World}(h:CSt B w0 yp gp C q W):Below B w0 W:=by
 obtain⟨Y,y,G,g,h1,_⟩:=h
 exact h1.bel
theorem CSt.next{B yp gp C q:Nat}{w0 W:World}(h:CSt B w0 yp gp C q W):CSt B w0 yp gp C (q+1) W:=by
 obtain⟨Y,y,G,g,h1,h2⟩:=h
 exact⟨Y,y,G,g,h1,h2.more (by omega) (by omega)⟩
theorem CSt.later{B yp gp C q:Nat}{w0 W W':World}(h:CSt B w0 yp gp C q W)(hb:Below W.heap.size W W'):CSt B w0 yp gp C q W':=by
 obtain⟨Y,y,G,g,h1,h2⟩:=h
 exact⟨Y,y,G,g,h1.below hb,h2⟩
theorem CSt.did{B yp gp C q:Nat}{w0 W:World}(hC:1≤C∧C≤32)(h:CSt B w0 yp gp C q W)(hq:q≤100)(x:aG)(hx:qM x)(hT:S4.Tab W) :
  Calls Tryz.prog 42 #[.pointer (some ⟨yp,0,none⟩),.pointer (some ⟨gp,0,none⟩),.agg #[.string x.kind,.int .i64 x.a,.int .i64 x.b,.int .i64 x.c,.int .i64 x.d,.string x.s,.slice x.ka x.kl x.kc]] W fun e w'=>e=.returned (.tuple #[])∧CSt B w0 yp gp C (q+1) w':=by
 obtain⟨Y,y,G,g,h1,h2⟩:=h
 refine(Ti C hC.1 hC.2 B w0 yp gp _ Y y G g x W h1 h2.saw.yg.ok hx hT (by omega) (h2.saw.lens (by omega))).mono fun e w' ⟨he,Y',G',y',g',hr,hy⟩=>⟨he,Y',y',G',g',hy,?_⟩
 exact(h2.act hr hx hC.2 (by omega)).more (by omega) (by omega)
theorem CSt.looks{B yp gp C q:Nat}{w0 W:World}(h:CSt B w0 yp gp C q W)(hC:C≤32)(hq:q≤100):∃ T:ByteArray,
  Calls Tryz.prog 44 #[.pointer (some ⟨yp,0,none⟩)] W fun e w1=>e=.returned (.int .i64 ((4*C:Nat):Int)) ∧
   Calls Tryz.prog 43 #[.pointer (some ⟨yp,0,none⟩),.int .i64 0,.int .i64 ((4*C:Nat):Int)] w1 fun e w2=>e=.returned (.tuple #[.string T,.nilIface]) ∧
    Calls Tryz.prog 45 #[.pointer (some ⟨gp,0,none⟩),.string T] w2 fun e w3=>e=.returned (.bool true)∧Below B w0 w3:=by
 obtain⟨Y,y,G,g,h1,h2⟩:=h
 obtain⟨t1,t2,t3⟩:=h2.saw.text
 refine⟨y.s.jZ y.l 0 ((4*C:Nat):Int),(BL W h1.dh h2.saw.yg.ok).mono fun e w1 ⟨e1,b1⟩=>⟨e1,?_⟩⟩
 have h1':=h1.below b1
 refine(Hf 0 ((4*C:Nat):Int) w1 h1'.dh h2.saw.yg.ok (by omega) (by omega)).mono fun e w2 ⟨e2,b2⟩=>⟨?_,?_⟩
 ·rw[e2,t1,aB]
 ·have h1'':=h1'.below b2
  refine(Ld _ w2 h1''.guest (by omega) t2 (fun k hk=>by rw[t3 k hk];exact h2.saw.now k hk) (fun k hk=>by have:=(h2.saw.len k hk).1;omega)).mono fun e w3 ⟨e3,hg⟩=>⟨e3,?_⟩
  obtain⟨G',h3⟩:=h1''.uV hg
  exact h3.bel
theorem PD{x:aG}{w w':World}{a:Option Addr}{cap B:Nat}(hk:x.kl≤x.kc)(hk2:x.kc≤maxLen)(hB:Bools w x.ka x.kl x.ks)(hb:Below w.heap.size w w')(ho:w'.ownsRow B 41 1 (.slice a 5 cap) 5 (jA x 5)):qj w' a 5 (yC x):=by
 refine⟨by simp[yC],fun i hi=>?_⟩
 obtain⟨g,cap2,hv,hc,_,_⟩:=qm ho i hi
 injection hv with hv1 hv2 hv3
 have hks:(yC x).getD i []=x.ks.drop (je x i):=by
  unfold yC
  rw[List.getD_eq_getElem?_getD,List.getElem?_map,List.getElem?_range hi];rfl
 refine⟨g,0,sU x (je x i),x.kl-je x i,x.kc-je x i,hv1,?_,?_,by omega⟩
 ·rw[Nat.zero_add,hc]
  unfold jA
  rw[List.getElem?_map,List.getElem?_range hi];rfl
 ·rw[hks]
  refine⟨by rw[List.length_drop,hB.1],fun j hj=>?_⟩
  obtain⟨b,off,e,hcell⟩:=(hB.below hb).2 (je x i+j) (by omega)
  refine⟨b,off+je x i,?_,?_⟩
  ·unfold sU
   rw[if_neg (by omega),e]
   show some (Addr.add _ _)=_
   rw[Go.WideShapes.add_plain]
  ·rw[Nat.add_assoc,hcell,List.getD_eq_getElem?_getD,List.getD_eq_getElem?_getD,List.getElem?_drop]
theorem CSt.crash{B yp gp C q:Nat}{w0 W:World}(h:CSt B w0 yp gp C q W)(hC:C≤32)(hq:q≤100){ka:Option Addr}{n kc:Nat}{ks:List (List Bool)}(hK:qj W ka n ks) :
  Calls Tryz.prog 33 #[.pointer (some ⟨yp,0,none⟩),.slice ka n kc] W fun e w0'=>∃ yq:Nat,e=.returned (.tuple #[.pointer (some ⟨yq,0,none⟩),.nilIface])∧∃ T:ByteArray,
   Calls Tryz.prog 44 #[.pointer (some ⟨yq,0,none⟩)] w0' fun e w1=>e=.returned (.int .i64 ((4*C:Nat):Int)) ∧
    Calls Tryz.prog 43 #[.pointer (some ⟨yq,0,none⟩),.int .i64 0,.int .i64 ((4*C:Nat):Int)] w1 fun e w2=>e=.returned (.tuple #[.string T,.nilIface]) ∧
     Calls Tryz.prog 46 #[.pointer (some ⟨gp,0,none⟩),.string T] w2 fun e w3=>e=.returned (.bool true) ∧
      Calls Tryz.prog 47 #[.pointer (some ⟨yq,0,none⟩)] w3 fun e w4=>∃ k f st lf:Int,e=.returned (.agg #[.int .i64 k,.int .i64 f,.int .i64 st,.int .i64 lf])∧(k=0∨st=2)∧CSt B w0 yq gp C q w4:=by
 obtain⟨Y,y,G,g,h1,h2⟩:=h
 obtain⟨c1,c2,c3,c4,c5⟩:=h2.crash (by omega) ks
 have hz:=h1.sizes
 refine(RX W h1.dh h2.saw.yg.ok hK).mono fun e wa hO=>?_
 obtain⟨hb,hO⟩:=hO
 have c1':mV (y.left ks) (ji y.top [])=0:=c1
 rcases hO with⟨hne,_⟩|⟨_,yq,Yq,rfl,hYq,hn,hj⟩
 ·exact absurd c1' hne
 have hYq':ay wa yq Yq (y.crash ks):=hYq
 have hgd:YGd B w0 wa yq Yq (y.crash ks) gp G (4*C) g:=by
  refine .at hYq' (h1.guest.below hb) (fun k hk hg=>?_) (fun q o e hg=>?_) (fun q o e=>(hj q o e).2) (fun k hk=>Nat.le_trans hz (hn k hk)) h1.bG (h1.bel.trans (hb.mono hz)) h1.size
  ·have:=hn k hk;have:=h1.guest.lt hg;omega
  ·have:=(hj q o e).1;have:=h1.guest.lt hg;omega
 obtain⟨t1,t2,t3⟩:=c5.saw.text
 refine⟨yq,rfl,(y.crash ks).s.jZ (y.crash ks).l 0 ((4*C:Nat):Int),(BL wa hYq' c5.saw.yg.ok).mono fun e w1 ⟨e1,b1⟩=>⟨e1,?_⟩⟩
 have h1':=hgd.below b1
 refine(Hf 0 ((4*C:Nat):Int) w1 h1'.dh c5.saw.yg.ok (by omega) (by omega)).mono fun e w2 ⟨e2,b2⟩=>⟨?_,?_⟩
 ·rw[e2,t1,aB]
 have h1'':=h1'.below b2
 refine(LM _ w2 h1''.guest (by omega) t2 (fun k hk=>by rw[t3 k hk];exact c3 k hk) (fun k hk=>by have:=(h2.saw.len k hk).2;omega)).mono fun e w3 ⟨e3,hg⟩=>⟨e3,?_⟩
 obtain⟨G',h3⟩:=h1''.uV hg
 refine(Md w3 h3.dh c5.saw.yg.ok).mono fun e w4 ⟨e4,b4⟩=>?_
 have hst:CSt B w0 yq gp C q w4:=by
  refine⟨Yq,_,G',_,h3.below b4,?_⟩
  have eg:ng ((y.crash ks).s.jZ (y.crash ks).l 0 ((4*C:Nat):Int)) g (4*C)=vX (y.crash ks) C g:=by
   unfold ng vX jh
   congr 1
   ·funext i
    by_cases e:i<4*C
    ·rw[if_pos e,if_pos e,t3 i e]
    ·rw[if_neg e,if_neg e]
   ·funext i
    by_cases e:i<4*C
    ·rw[if_pos e,if_pos e,t3 i e]
    ·rw[if_neg e,if_neg e]
  rw[eg]
  exact c5
 cases hjj:(y.crash ks).j with
 | none =>
  rw[hjj] at e4
  exact⟨0,-1,0,0,e4,.inl rfl,hst⟩
 | some j =>
  rw[hjj] at e4
  refine⟨j.kind,j.file,j.state,((S4.cnt j.x 64:Nat):Int),e4,.inr ?_,hst⟩
  have:=c4 j hjj
  unfold JV.state
  rw[if_neg (by omega)]
  exact this
attribute [local go_sem ↓] Go.wp_at_zero Go.wp_at_succ
theorem Tf(c p:Int)(la:Option Addr)(len cap:Nat)(xs:List aG)(w:World)(hA:kM w la len xs)(hlen:len≤maxLen)(hB:tV xs)(hK:wQ xs)(hl:lJ xs 60=true)(hM:uy c p=true)(hT:S4.Tab w) :
  Calls Tryz.prog 8 #[.int .i64 c,.int .i64 p,.slice la len cap] w fun e w'=>e=.returned (.bool true)∧Below w.heap.size w w':=by
 have hM':1≤c∧c≤32∧0≤p∧p≤40:=of_decide_eq_true hM
 have hC:1≤c.toNat∧c.toNat≤32:=by omega
 have HLA:Hid (Calls Tryz.prog 13 #[.slice la len cap,.int .i64 60] w fun e w'=>e=.returned (.bool true)∧w'=w):=by
  have:=Bh la len cap 60 xs w hA hlen (by omega)
  rw[hl] at this;exact this
 have hli:len≤60∧∀ k,k<len→(xs.getD k aG.none_).s.size≤700:=by
  unfold lJ at hl
  simp only[decide_eq_true_eq] at hl
  have:=hA.1
  exact⟨by omega,fun k hk=>(hl.2 k (by omega)).1⟩
 have h60:len≤60:=hli.1
 have h0:0<w.heap.size:=World.block_lt_of_cell? w _ (hT 0 (by decide))
 have HMD:Hid (Calls Tryz.prog 41 #[.int .i64 c,.int .i64 p] w fun e w'=>∃(yp gp:Nat),e=.returned (.tuple #[.pointer (some ⟨yp,0,none⟩),.pointer (some ⟨gp,0,none⟩),.bool true])∧CSt w.heap.size w yp gp c.toNat 0 w') :=
  (Uj c p w hM).mono fun e w' ⟨yp,gp,Y,G,he,hy⟩=>⟨yp,gp,he,Y,_,G,_,hy,Kno.made (yh c p hM').1 (yh c p hM').2⟩
 have HIN:Hid (∀ k,k<len→∀ W:World,Below w.heap.size w W→∃ blk off,la=some ⟨blk,off,none⟩∧W.rangeAt blk (off+k*7) (xs.getD k aG.none_).cells∧qM (xs.getD k aG.none_)∧(∀ x,x=xs.getD k aG.none_→Calls Tryz.prog 32 #[.agg #[.string x.kind,.int .i64 x.a,.int .i64 x.b,.int .i64 x.c,.int .i64 x.d,.string x.s,.slice x.ka x.kl x.kc]] W fun e w'=>∃(a:Option Addr) (cap:Nat) (ks:List (List Bool)),e=.returned (.slice a 5 cap)∧qj w' a 5 ks∧Below W.heap.size W w')):=fun k hk W hb=>by
  obtain⟨blk,off,e,hr,hok⟩:=(hA.below hb).2 k hk
  obtain⟨k1,k2⟩:=hK k (by have:=hA.1;omega)
  refine⟨blk,off,e,hr,⟨hok.a1,hli.2 k hk,hB k (by have:=hA.1;omega)⟩,fun x hx=>?_⟩
  subst hx
  exact(Kq _ W k1 k2 hok.a1).mono fun e w' ⟨a,cp,h1,h2,h3⟩=>⟨a,cp,_,h1,PD k1 k2 hok.keep h3 h2,h3⟩
 have HDD:Hid (∀(yp gp q:Nat) (x:aG) (W:World),CSt w.heap.size w yp gp c.toNat q W→q≤100→qM x→Calls Tryz.prog 42 #[.pointer (some ⟨yp,0,none⟩),.pointer (some ⟨gp,0,none⟩),.agg #[.string x.kind,.int .i64 x.a,.int .i64 x.b,.int .i64 x.c,.int .i64 x.d,.string x.s,.slice x.ka x.kl x.kc]] W fun e w'=>e=.returned (.tuple #[])∧CSt w.heap.size w yp gp c.toNat (q+1) w'):=fun yp gp q x W h hq hx=>h.did hC hq x hx (hT.below h.below h0)
 have hC2:=hC.2
 generalize hCn:c.toNat=C at HMD HDD hC2
 clear hA hlen hB hl hM hT hli hM' hCn hK hC
 go_enter Tryz.func8,Tryz.ntmps8
 go_wp2_with fail
 refine HLA.out.mono ?_
 rintro e w' ⟨rfl,hw⟩
 have hw':=hw.symm
 subst hw'
 clear hw HLA
 go_wp2_with fail
 refine HMD.out.mono ?_
 rintro e w1 ⟨yp0,gp,rfl,hS⟩
 have HS:=ah hS
 clear hS HMD
 go_wp2
 go_loopw [7,10] (fun u i wr=>∃(yp q:Nat),q≤len∧u=.pointer (some ⟨yp,0,none⟩)∧i=.int .i64 (q:Int)∧CSt w.heap.size w yp gp C q wr) (fun _ i _=>len-(intOf i).toNat)
 case atStart=>exact⟨yp0,0,Nat.zero_le _,rfl,rfl,HS.out⟩
 case round =>
  clear HS
  obtain⟨yp,q,hq,rfl,rfl,hy⟩:=hrel
  have HYK:=ah hy
  have HBK:=ah hy.below
  clear hy
  by_cases hlt:q<len
  ·obtain⟨blk,off,hla,hrg,hin,hkp⟩:=HIN.out q hlt _ HBK.out
   generalize xs.getD q aG.none_=y at hrg hin hkp
   have HKP:=ah (hkp y rfl)
   subst hla
   have HRG:=ah hrg
   have c0:wr.cell? ⟨blk,off+q*7,none⟩=some (.string y.kind):=hrg 0 _ rfl
   have HI2:Hid ((Tryz.prog.info? 43).map (·.size)=some y.cells.length):=OB
   have HCK:=ah (HDD.out _ _ _ y wr HYK.out (by omega) hin)
   clear hrg hin HDD HIN hkp
   have j0:(0:Int)≤(q:Int):=by omega
   have j1:(q:Int)<(len:Int):=by omega
   by_cases e4:y.kind.toList=[99,114,97,115,104]
   ·have g4:(y.kind.toList==[99,114,97,115,104])=true:=beq_iff_eq.2 e4
    clear e4 HCK
    go_wp2_with (refine wpList_load_mid (by rfl) 43 (.tmp 66) (by rfl) blk (off+q*7) (by rfl) y.cells _ HRG.out Tryz.underlying43 rfl HI2.out ?_)
    refine HKP.out.mono ?_
    rintro e w2 ⟨ka,kc,ks,rfl,hkl,hb2⟩
    have HCR:=ah ((HYK.out.later hb2).crash (kc:=kc) hC2 (by omega) hkl)
    clear hkl hb2 HKP HYK HRG c0
    go_wp2_with fail
    refine HCR.out.mono ?_
    rintro e w3 ⟨yq,rfl,T,hsc⟩
    have H3:=ah hsc
    clear hsc HCR
    go_wp2_with fail
    refine H3.out.mono ?_
    rintro e w4 ⟨rfl,h4⟩
    have H4:=ah h4
    clear h4 H3
    go_wp2_with fail
    refine H4.out.mono ?_
    rintro e w5 ⟨rfl,h5⟩
    have H5:=ah h5
    clear h5 H4
    go_wp2_with fail
    refine H5.out.mono ?_
    rintro e w6 ⟨rfl,h6⟩
    have H6:=ah h6
    clear h6 H5
    go_wp2_with fail
    refine H6.out.mono ?_
    rintro e w7 ⟨sk,sf,st,sl,rfl,hkst,hst⟩
    have H7:=ah (CSt.next (hst.later (W':=w7.alloc (.cells #[.int .i64 sk,.int .i64 sf,.int .i64 st,.int .i64 sl] 56)) ((Below.refl _ _).alloc (Nat.le_refl _) _)))
    have b0:(w7.alloc (.cells #[.int .i64 sk,.int .i64 sf,.int .i64 st,.int .i64 sl] 56)).cell? ⟨w7.heap.size,0,none⟩=some (.int .i64 sk):=by rw[cell_of_row _ _ _ _ _ _ (heap_alloc_new w7 _)];rfl
    have b2:(w7.alloc (.cells #[.int .i64 sk,.int .i64 sf,.int .i64 st,.int .i64 sl] 56)).cell? ⟨w7.heap.size,2,none⟩=some (.int .i64 st):=by rw[cell_of_row _ _ _ _ _ _ (heap_alloc_new w7 _)];rfl
    clear hst H6
    by_cases hsk:sk=0
    ·have g5:(sk != 0)=false:=by simpa using hsk
     clear hkst hsk
     go_wp2
     go_roundw
     case rel =>
      have fin:∃ yp1 q1:Nat,q1≤len∧Value.pointer (some ⟨yq,0,none⟩)=.pointer (some ⟨yp1,0,none⟩)∧Value.int .i64 ((q:Int)+1)=.int .i64 (q1:Int)∧CSt w.heap.size w yp1 gp C q1 _:=⟨yq,q+1,by omega,rfl,by go_num,H7.out⟩
      first|exact fin|((repeat apply Exists.intro);exact⟨fin,rfl⟩)
     case measure=>simp[intOf];omega
    ·have g5:(sk != 0)=true:=by simpa using hsk
     have g6:(st != 2)=false:=by
      rcases hkst with e|e
      ·exact absurd e hsk
      ·rw[e];rfl
     clear hkst hsk
     go_wp2
     go_roundw
     case rel =>
      have fin:∃ yp1 q1:Nat,q1≤len∧Value.pointer (some ⟨yq,0,none⟩)=.pointer (some ⟨yp1,0,none⟩)∧Value.int .i64 ((q:Int)+1)=.int .i64 (q1:Int)∧CSt w.heap.size w yp1 gp C q1 _:=⟨yq,q+1,by omega,rfl,by go_num,H7.out⟩
      first|exact fin|((repeat apply Exists.intro);exact⟨fin,rfl⟩)
     case measure=>simp[intOf];omega
   ·have g4:(y.kind.toList==[99,114,97,115,104])=false:=beq_eq_false_iff_ne.2 e4
    clear e4 HKP
    go_wp2_with (refine wpList_load_mid (by rfl) 43 (.tmp 59) (by rfl) blk (off+q*7) (by rfl) y.cells _ HRG.out Tryz.underlying43 rfl HI2.out ?_)
    refine HCK.out.mono ?_
    rintro e w6 ⟨rfl,hy6⟩
    have H9:=ah hy6
    clear hy6 HCK HYK HBK HRG c0
    go_wp2
    go_roundw
    case rel =>
     have fin:∃ yp1 q1:Nat,q1≤len∧Value.pointer (some ⟨yp,0,none⟩)=.pointer (some ⟨yp1,0,none⟩)∧Value.int .i64 ((q:Int)+1)=.int .i64 (q1:Int)∧CSt w.heap.size w yp1 gp C q1 _:=⟨yp,q+1,by omega,rfl,by go_num,H9.out⟩
     first|exact fin|((repeat apply Exists.intro);exact⟨fin,rfl⟩)
    case measure=>simp[intOf];omega
  ·have gk:decide ((q:Int)<(len:Int))=false:=decide_eq_false (by omega)
   obtain⟨T,hlk⟩:=HYK.out.looks hC2 (by omega)
   have HLK6:=ah hlk
   clear hlk HYK HBK HIN HDD
   go_wp2_with fail
   refine HLK6.out.mono ?_
   rintro e w7 ⟨rfl,h7⟩
   have H7:=ah h7
   clear h7 HLK6
   go_wp2_with fail
   refine H7.out.mono ?_
   rintro e w8 ⟨rfl,h8⟩
   have H8:=ah h8
   clear h8 H7
   go_wp2_with fail
   refine H8.out.mono ?_
   rintro e w9 ⟨rfl,h9⟩
   have H9:=ah h9
   clear h9 H8
   go_wp2
   go_ret
   exact⟨rfl,H9.out⟩
theorem NR(c p:Int)(la:Option Addr)(len cap:Nat)(xs:List aG)(w:World)(hA:kM w la len xs)(hlen:len≤maxLen)(hl:lJ xs 60=false) :
  Calls Tryz.prog 8 #[.int .i64 c,.int .i64 p,.slice la len cap] w fun e w'=>e=.returned (.bool true)∧Below w.heap.size w w':=by
 have HLA:Hid (Calls Tryz.prog 13 #[.slice la len cap,.int .i64 60] w fun e w'=>e=.returned (.bool false)∧w'=w):=by
  have:=Bh la len cap 60 xs w hA hlen (by omega)
  rw[hl] at this;exact this
 clear hA hl hlen
 go_enter Tryz.func8,Tryz.ntmps8
 go_wp2_with fail
 refine HLA.out.mono ?_
 rintro e w' ⟨rfl,hw⟩
 have hw':=hw.symm
 subst hw'
 clear hw HLA
 go_wp2
 go_ret
 exact⟨rfl,Below.refl _ _⟩
theorem Ry(c p:Int)(la:Option Addr)(len cap:Nat)(xs:List aG)(w:World)(hA:kM w la len xs)(hlen:len≤maxLen)(hl:lJ xs 60=true)(hM:uy c p=false) :
  Calls Tryz.prog 8 #[.int .i64 c,.int .i64 p,.slice la len cap] w fun e w'=>e=.returned (.bool true)∧Below w.heap.size w w':=by
 have HLA:Hid (Calls Tryz.prog 13 #[.slice la len cap,.int .i64 60] w fun e w'=>e=.returned (.bool true)∧w'=w):=by
  have:=Bh la len cap 60 xs w hA hlen (by omega)
  rw[hl] at this;exact this
 have HMD:=ah (Io c p w hM)
 have hM':¬(1≤c∧c≤32∧0≤p∧p≤40):=of_decide_eq_false hM
 clear hA hl hlen hM
 by_cases h1:c<1
 ·have f1:decide (c<1)=true:=decide_eq_true h1
  clear hM'
  go_enter Tryz.func8,Tryz.ntmps8
  go_wp2_with fail
  refine HLA.out.mono ?_
  rintro e w' ⟨rfl,hw⟩
  have hw':=hw.symm
  subst hw'
  clear hw HLA
  go_wp2_with fail
  refine HMD.out.mono ?_
  rintro e w' ⟨rfl,hw⟩
  have hw':=hw.symm
  subst hw'
  clear hw HMD
  go_wp2
  go_ret
  exact⟨rfl,Below.refl _ _⟩
 have f1:decide (c<1)=false:=decide_eq_false h1
 by_cases h2:32<c
 ·have f2:decide (32<c)=true:=decide_eq_true h2
  clear hM'
  go_enter Tryz.func8,Tryz.ntmps8
  go_wp2_with fail
  refine HLA.out.mono ?_
  rintro e w' ⟨rfl,hw⟩
  have hw':=hw.symm
  subst hw'
  clear hw HLA
  go_wp2_with fail
  refine HMD.out.mono ?_
  rintro e w' ⟨rfl,hw⟩
  have hw':=hw.symm
  subst hw'
  clear hw HMD
  go_wp2
  go_ret
  exact⟨rfl,Below.refl _ _⟩
 have f2:decide (32<c)=false:=decide_eq_false h2
 by_cases h3:p<0
 ·have f3:decide (p<0)=true:=decide_eq_true h3
  clear hM'
  go_enter Tryz.func8,Tryz.ntmps8
  go_wp2_with fail
  refine HLA.out.mono ?_
  rintro e w' ⟨rfl,hw⟩
  have hw':=hw.symm
  subst hw'
  clear hw HLA
  go_wp2_with fail
  refine HMD.out.mono ?_
  rintro e w' ⟨rfl,hw⟩
  have hw':=hw.symm
  subst hw'
  clear hw HMD
  go_wp2
  go_ret
  exact⟨rfl,Below.refl _ _⟩
 ·have f3:decide (p<0)=false:=decide_eq_false h3
  have f4:decide (40<p)=true:=decide_eq_true (by omega)
  clear hM'
  go_enter Tryz.func8,Tryz.ntmps8
  go_wp2_with fail
  refine HLA.out.mono ?_
  rintro e w' ⟨rfl,hw⟩
  have hw':=hw.symm
  subst hw'
  clear hw HLA
  go_wp2_with fail
  refine HMD.out.mono ?_
  rintro e w' ⟨rfl,hw⟩
  have hw':=hw.symm
  subst hw'
  clear hw HMD
  go_wp2
  go_ret
  exact⟨rfl,Below.refl _ _⟩
theorem SY(c p:Int)(la:Option Addr)(len cap:Nat)(xs:List aG)(w:World)(hA:kM w la len xs)(hlen:len≤maxLen)(hB:tV xs)(hK:wQ xs)(hT:S4.Tab w) :
  Calls Tryz.prog 8 #[.int .i64 c,.int .i64 p,.slice la len cap] w fun e w'=>e=.returned (.bool true)∧Below w.heap.size w w':=by
 cases h1:lJ xs 60 with
 | false=>exact NR c p la len cap xs w hA hlen h1
 | true =>
  cases h2:uy c p with
  | false=>exact Ry c p la len cap xs w hA hlen h1 h2
  | true=>exact Tf c p la len cap xs w hA hlen hB hK h1 h2 hT
end Go.Proofs.YtonhoahnieoebabGreatDoor
