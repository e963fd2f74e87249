/- A yard and its guest are made. -/
import Derived.Test.YtonhoahnieoebabGreatDoorQGuestP5
import Derived.OwnWalk
set_option maxHeartbeats 1000000
set_option maxRecDepth 100000
namespace Go.Proofs.YtonhoahnieoebabGreatDoor
open Go.RowKit Go.Maps
attribute [local go_sem ↓] Go.wp_at_zero Go.wp_at_succ
theorem ay.Tt{w:World}{yp:Nat}{Y:Yh}{y:YV}(h:ay w yp Y y)(hj:y.j=none)(b:Jh):ay w yp ⟨Y.ds,Y.tp,Y.xs,b⟩ y:=by
 refine⟨?_,h.img,h.dev,h.top,h.apart,h.apTop,fun j e=>by rw[hj] at e;cases e⟩
 have:=h.blk
 rw[hj] at this ⊢
 exact⟨this.is⟩
theorem Cj{yp:Nat}{Y:Yh}{y:YV}(hj:y.j=none){b:Jh}{k:Nat}(h:fpY yp ⟨Y.ds,Y.tp,Y.xs,b⟩ y k):fpY yp Y y k:=by
 rcases h with e|e|e|e
 ·exact .inl e
 ·exact .inr (.inl e)
 ·exact .inr (.inr (.inl e))
 ·exact absurd hj e.1
def gv0:GV:=⟨fun _=>[noughts],fun _=>[noughts]⟩
def uy(c p:Int):Bool:=decide (1≤c∧c≤32∧0≤p∧p≤40)
theorem yh(c p:Int)(h:1≤c∧c≤32∧0≤p∧p≤40):(newH c p).ok=true∧aJ (newH c p)≤200:=by
 refine⟨?_,?_⟩
 ·show decide (1≤c∧c≤32∧0≤p∧p≤40∧(-1:Int) ≤ -1∧(-1:Int)≤4)=true
  exact decide_eq_true (by omega)
 ·unfold aJ aK newH
  simp only[]
  unfold aA
  show 1+(c.toNat+7) / 8+4*p.toNat≤200
  omega
theorem Io(c p:Int)(w:World)(h:uy c p=false) :
  Calls Tryz.prog 41 #[.int .i64 c,.int .i64 p] w fun e w'=>e=.returned (.tuple #[.pointer none,.pointer none,.bool false])∧w'=w:=by
 have h':¬(1≤c∧c≤32∧0≤p∧p≤40):=of_decide_eq_false h
 clear h
 by_cases h1:c<1
 ·have f1:decide (c<1)=true:=decide_eq_true h1
  clear h'
  go_enter Tryz.func41,Tryz.ntmps41
  go_wp2
  go_ret3
  exact⟨rfl,rfl⟩
 by_cases h2:32<c
 ·have f1:decide (c<1)=false:=decide_eq_false h1
  have f2:decide (32<c)=true:=decide_eq_true h2
  clear h'
  go_enter Tryz.func41,Tryz.ntmps41
  go_wp2
  go_ret3
  exact⟨rfl,rfl⟩
 by_cases h3:p<0
 ·have f1:decide (c<1)=false:=decide_eq_false h1
  have f2:decide (32<c)=false:=decide_eq_false h2
  have f3:decide (p<0)=true:=decide_eq_true h3
  clear h'
  go_enter Tryz.func41,Tryz.ntmps41
  go_wp2
  go_ret3
  exact⟨rfl,rfl⟩
 ·have f1:decide (c<1)=false:=decide_eq_false h1
  have f2:decide (32<c)=false:=decide_eq_false h2
  have f3:decide (p<0)=false:=decide_eq_false h3
  have f4:decide (40<p)=true:=decide_eq_true (by omega)
  clear h'
  go_enter Tryz.func41,Tryz.ntmps41
  go_wp2
  go_ret3
  exact⟨rfl,rfl⟩
theorem Uj(c p:Int)(w:World)(h:uy c p=true) :
  Calls Tryz.prog 41 #[.int .i64 c,.int .i64 p] w fun e w'=>∃(yp gp:Nat) (Y:Yh) (G:Gh),e=.returned (.tuple #[.pointer (some ⟨yp,0,none⟩),.pointer (some ⟨gp,0,none⟩),.bool true])∧YGd w.heap.size w w' yp Y (jE c p) gp G (4*c.toNat) gv0:=by
 have h':1≤c∧c≤32∧0≤p∧p≤40:=of_decide_eq_true h
 clear h
 obtain⟨q1,q2,q3,q4⟩:=h'
 have f1:decide (c<1)=false:=decide_eq_false (by omega)
 have f2:decide (32<c)=false:=decide_eq_false (by omega)
 have f3:decide (p<0)=false:=decide_eq_false (by omega)
 have f4:decide (40<p)=false:=decide_eq_false (by omega)
 have HY:=ah (Td c p w (yh c p ⟨q1,q2,q3,q4⟩).1 (yh c p ⟨q1,q2,q3,q4⟩).2)
 have k4:IntKind.i64.wrap (4*c)=4*c:=IntWalk.i64_in _ (by omega)
 go_enter Tryz.func41,Tryz.ntmps41
 go_wp2_with fail
 refine HY.out.mono ?_
 rintro e w1 ⟨yp,Y,rfl,hY,hf,hb⟩
 have HI:Hid (ay w1 yp Y (jE c p)):=hY
 have HF:Hid (∀ b,fpY yp Y (jE c p) b→w.heap.size≤b):=hf
 have HB:Hid (Below w.heap.size w w1):=hb
 clear hY hf hb
 go_wp2_with fail
 have e4:4*c=((4*c.toNat:Nat):Int):=by omega
 rw[e4]
 refine(Jc (4*c.toNat) w1 (by omega)).mono ?_
 rintro e w2 ⟨gp,G,rfl,hG,hf2,hb2⟩
 have HG:Hid (IsG w2 gp G (4*c.toNat) gv0):=hG
 have HF2:Hid (∀ k,fpG gp G (4*c.toNat) k→w1.heap.size≤k):=hf2
 have HB2:Hid (Below w1.heap.size w1 w2):=hb2
 clear hG hf2 hb2
 go_wp2
 go_ret3
 have hj:(jE c p).j=none:=rfl
 refine⟨yp,gp,⟨Y.ds,Y.tp,Y.xs,⟨0,0,0,none,0⟩⟩,G,rfl,.at ((HI.out.Tt hj _).below HB2.out) HG.out (fun k hk hg=>?_) (fun q o e=>by cases e) (fun q o e=>by cases e) (fun k hk=>HF.out k (Cj hj hk)) (fun k hk=>Nat.le_trans HB.out.size (HF2.out k hk)) (HB.out.trans (HB2.out.mono HB.out.size)) (Nat.le_refl _)⟩
 have h1:=HI.out.iY (Cj hj hk)
 have h2:=HF2.out k hg
 omega
end Go.Proofs.YtonhoahnieoebabGreatDoor
namespace Go.Proofs.YtonhoahnieoebabGreatDoor
open Go.RowKit Go.ChangeShapes Go.WideShapes
section
variable {H:Type} {enc:TypeId × Value→H}
theorem Rf{w:World}{fuel:Nat}{cs:List Value}{x:DataW H × List MemPlace}(h:DataW.trod enc Tryz.prog w 0 (fun _=>true) true fuel 43 cs=some x) :
  ∃ b:Int,cs[2]?=some (.int .i64 b) ∧ -9223372036854775808≤b∧b≤9223372036854775807:=by
 obtain⟨xs,n,_,_,hl,hlen,hf⟩:=DataW.trod_struct Tryz.underlying43 h
 have h7:cs.length=7:=by rw[hl];kernel_rfl
 have c3:Tryz.prog.cellsOf 3=1:=by kernel_rfl
 have c9:Tryz.prog.cellsOf 9=1:=by kernel_rfl
 match cs,h7,xs,hlen with
 | [v0,v1,v2,v3,v4,v5,v6],_,[y0,y1,y2,y3,y4,y5,y6],_ =>
  have f2:DataW.trod enc Tryz.prog w 0 (fun _=>true) true n 3 [v2]=some y2:=by simpa [c3,c9] using hf 2 _ rfl
  obtain⟨a2,e2,_,w2⟩:=DataW.trod_int Tryz.underlying3 f2
  simp only[List.cons.injEq,and_true] at e2
  subst e2
  have b2:=bounds_i64 w2
  exact⟨a2,rfl,b2.1,b2.2⟩
def tV(xs:List aG):Prop:=∀ k,k<xs.length → -9223372036854775808≤(xs.getD k aG.none_).b∧(xs.getD k aG.none_).b≤9223372036854775807
theorem PV{w:World}{la:Option Addr}{len cap fuel:Nat}{x:DataW H × List MemPlace}(h:DataW.trod enc Tryz.prog w 0 (fun _=>true) true fuel 23 [.slice la len cap]=some x) :
  ∃ xs,kM w la len xs∧len≤maxLen∧tV xs:=by
 obtain⟨xs,hT,hl0⟩:=MV h
 refine⟨xs,hT,hl0,fun k hk=>?_⟩
 have hkl:k<len:=by have:=hT.1;omega
 obtain⟨b,off,e,hr,_⟩:=hT.2 k hkl
 rcases Go.Deep.open_slice Tryz.underlying23 h with⟨hcs,_⟩|⟨a,len',cap',m,n,D,Pl,hcs,_,hl,hm,hmm,_,hx⟩
 ·simp at hcs
  obtain⟨rfl,rfl,rfl⟩:=hcs
  omega
 ·simp at hcs
  obtain⟨rfl,rfl,rfl⟩:=hcs
  cases e
  have c47:Tryz.prog.cellsOf 43=7:=by kernel_rfl
  simp only[if_true] at hmm
  subst hmm
  obtain⟨cs',h1,h2⟩:=hx k (by omega)
  obtain⟨b2,e2,e3⟩:=Rf h2
  obtain⟨_,_,hc⟩:=World.cells?_some h1
  rw[c47] at hc
  have h3:=hc 2 (by omega)
  rw[e2,Go.Deep.add_add,Go.WideShapes.add_plain] at h3
  have h4:=hr 2 (.int .i64 (xs.getD k aG.none_).b) rfl
  rw[show off+k*7+2=off+(k*7+2) by omega,h3] at h4
  cases h4
  exact e3
end
end Go.Proofs.YtonhoahnieoebabGreatDoor
namespace Go.Proofs.YtonhoahnieoebabGreatDoor
open Go.RowKit Go.Maps
attribute [local go_sem ↓] Go.wp_at_zero Go.wp_at_succ
theorem OB:(Tryz.prog.info? 43).map (·.size)=some 7:=by kernel_rfl
end Go.Proofs.YtonhoahnieoebabGreatDoor
namespace Go.Proofs.YtonhoahnieoebabGreatDoor
open Go.RowKit Go.Maps
def Uw(C:Nat):Prop:=∀(B:Nat) (w0:World) (yp gp m:Nat) (Y:Yh) (y:YV) (G:Gh) (g:GV) (x:aG) (w:World),YGd B w0 w yp Y y gp G (4*C) g→YOk y C m→qM x→S4.Tab w→m+8000<1000000000→(∀ k,k<4*C→g.now k≠[]∧(g.now k).length≤1000∧(g.cr k).length≤1000) →
 Calls Tryz.prog 42 #[.pointer (some ⟨yp,0,none⟩),.pointer (some ⟨gp,0,none⟩),iy x] w fun e w'=>e=.returned (.tuple #[])∧∃ Y' G' y' g',iW (4*C) y g x y' g'∧YGd B w0 w' yp Y' y' gp G' (4*C) g'
theorem Saw.lens{y:YV}{C m L:Nat}{g:GV}(h:Saw y C m g L)(hL:L≤1000):∀ k,k<4*C→g.now k≠[]∧(g.now k).length≤1000∧(g.cr k).length≤1000:=fun k hk =>
 ⟨(fun e=>by have:=h.now k hk;rw[e] at this;cases this),by have:=(h.len k hk).1;omega,by have:=(h.len k hk).2;omega⟩
theorem Ti(C:Nat)(h1:1≤C)(h2:C≤32):Uw C:=fun _ _ _ _ _ _ _ _ _ x w hg hY hx hT hm hl=>Kv x w hg hY ⟨h1,h2⟩ rfl hx hT hm hl
end Go.Proofs.YtonhoahnieoebabGreatDoor
namespace Go.Proofs.YtonhoahnieoebabGreatDoor
open Go.RowKit
theorem Qo{B g cap:Nat}(l:List (Nat × List UInt8))(w:World)(h1:1≤l.length)(h2:l.length≤1000000000)(hl:∀ x∈l,x.2.length=16)
  (ho:w.ownsRow B 266 17 (.slice (some ⟨g,0,none⟩) l.length cap) l.length (gG l)) :
  Calls Tryz.prog 228 #[.slice (some ⟨g,0,none⟩) l.length cap] w fun e w' =>
   ∃ g' cap',e=.returned (.slice (some ⟨g',0,none⟩) l.length cap')∧w'.ownsRow w.heap.size 266 17 (.slice (some ⟨g',0,none⟩) l.length cap') l.length (gG l)∧Below w.heap.size w w':=by
 obtain⟨i0,hi,hz0,hz1,hz2⟩:=info_parts FY
 have hn:=zC ho
 have hlen:=Ns l hl
 have h1c:=zK l
 obtain⟨_,cur,hh,_⟩:=fP ho
 have hg:g<w.heap.size:=lt_of_some hh
 have HN:Hid (∀ j u,(gG l)[j]?=some u→(w.alloc (.cells #[] 266)).cell? ((⟨g,0,none⟩:Addr).add j)=some u):=fun j u hj=>by
  have:=hn j u hj
  rw[World.cell?_alloc_lt _ _ _ (World.block_lt_of_cell? w _ this)];exact this
 have hq:∀ w:World,(binOp .eql 262 (.slice (some ⟨g,0,none⟩) l.length cap) (.slice none 0 0)).run Tryz.prog w=.ok (.bool false) w:=fun w=>by
  simpa using Lib.run_eql_slice_nil (P:=Tryz.prog) w 262 266 (some ⟨g,0,none⟩) l.length cap 0 0 Tryz.underlying262
 clear hn hh
 go_enter Tryz.func228,Tryz.ntmps228
 go_wp2_with (at_builtin;refine wpList_append_lies _ rfl _ _ 262 rfl w.heap.size 266 i0 AP 17 24 Tryz.underlying262 hi hz0 hz1 hz2 rfl (by decide) _ 0 [] rfl (BQ w 266 17) ⟨g,0,none⟩ l.length cap (gG l) rfl hlen HN.out h1c (by omega) (by unfold maxLen;omega) (by omega) (by simp) _ rfl ?_;intro g' cap' w1 hown hgrow hat hlt)
 rw[Nat.zero_add] at hown
 go_ret
 exact⟨g',cap',rfl,by simpa using hown,((Below.refl _ _).alloc (Nat.le_refl _) _).grown (row:=some w.heap.size) hgrow (by simp) (fun k e=>by
  have:w.heap.size=k:=by simpa using e
  omega)⟩
theorem QE(w:World) :
  Calls Tryz.prog 228 #[.slice none 0 0] w fun e w'=>e=.returned (.slice none 0 0)∧w'=w:=by
 have hq:∀ w:World,(binOp .eql 262 (.slice none 0 0) (.slice none 0 0)).run Tryz.prog w=.ok (.bool true) w:=fun w=>by
  simpa using Lib.run_eql_slice_nil (P:=Tryz.prog) w 262 266 none 0 0 0 0 Tryz.underlying262
 go_enter Tryz.func228,Tryz.ntmps228
 go_wp2
 go_ret
 exact⟨rfl,rfl⟩
attribute [local go_sem ↓] Go.wp_at_zero Go.wp_at_succ
theorem NC{B:Nat}{h:Hd}{d:DV}(w:World)(hd:aI B w h d) :
  Calls Tryz.prog 228 #[h.v2] w fun e w' =>
   ∃ a c,e=.returned (.slice a d.pend.length c)∧w'.ownsRow w.heap.size 266 17 (.slice a d.pend.length c) d.pend.length (gG d.pend)∧Below w.heap.size w w'∧(d.pend=[]→(Value.slice a d.pend.length c)=.slice none 0 0):=by
 by_cases hp:d.pend=[]
 ·rw[hd.pn hp]
  refine(QE w).mono ?_
  rintro e w' ⟨rfl,rfl⟩
  rw[hp]
  exact⟨none,0,rfl,World.ownsRow_nil _ _ _ _,Below.refl _ _,fun _=>rfl⟩
 ·have h1:1≤d.pend.length:=List.length_pos_iff.2 hp
  obtain⟨g,cap,hv,_,_⟩:=hd.op.form h1
  have ho:=hd.op
  rw[hv] at ho ⊢
  refine(Qo d.pend w h1 (by have:=hd.ok.few;have:=hd.ok.few2;omega) (fun x hx=>(hd.ok.l3 x hx).2) ho).mono ?_
  rintro e w' ⟨g',cap',rfl,a,b⟩
  exact⟨_,_,rfl,a,b,fun q=>absurd q hp⟩
theorem CS{B:Nat}{h:Hd}{d:DV}(w:World)(hd:aI B w h d) :
  Calls Tryz.prog 133 #[.pointer (some ⟨h.p,0,none⟩)] w fun e w' =>
   ∃ h':Hd,e=.returned (.pointer (some ⟨h'.p,0,none⟩))∧aI w.heap.size w' h' d∧Below w.heap.size w w':=by
 obtain⟨c0,c1,c2,c3,c4,fz⟩:=hd.cells
 have hpl:h.p<w.heap.size:=(hd.lt _ (.inl rfl)).2
 have HD:Hid (aI B w h d):=hd
 obtain⟨va,vc,hv2⟩:=hd.v2
 have HV:Hid (h.v2=.slice va d.pend.length vc):=hv2
 rw[hv2] at c2
 have h1:=hd.ok.n1
 have h200:=hd.ok.n2
 have HB0:Hid (Below w.heap.size w (w.alloc (.cells #[.slice (some ⟨h.bf,0,none⟩) d.fl.length h.cf,.slice (some ⟨h.bs,0,none⟩) d.fl.length h.cs,.slice va d.pend.length vc,.int .i64 (d.wr:Int),.int .i64 d.fail] 264))):=(Below.refl _ _).alloc (Nat.le_refl _) _
 have HN0:Hid ((w.alloc (.cells #[.slice (some ⟨h.bf,0,none⟩) d.fl.length h.cf,.slice (some ⟨h.bs,0,none⟩) d.fl.length h.cs,.slice va d.pend.length vc,.int .i64 (d.wr:Int),.int .i64 d.fail] 264)).heap[w.heap.size]?=some (.cells #[.slice (some ⟨h.bf,0,none⟩) d.fl.length h.cf,.slice (some ⟨h.bs,0,none⟩) d.fl.length h.cs,.slice va d.pend.length vc,.int .i64 (d.wr:Int),.int .i64 d.fail] 264 (0,0))):=heap_alloc_new w _
 have HC0:Hid ((w.alloc (.cells #[.slice (some ⟨h.bf,0,none⟩) d.fl.length h.cf,.slice (some ⟨h.bs,0,none⟩) d.fl.length h.cs,.slice va d.pend.length vc,.int .i64 (d.wr:Int),.int .i64 d.fail] 264)).heap.size=w.heap.size+1):=by unfold Hid;simp
 have c0':(w.alloc (.cells #[.slice (some ⟨h.bf,0,none⟩) d.fl.length h.cf,.slice (some ⟨h.bs,0,none⟩) d.fl.length h.cs,.slice va d.pend.length vc,.int .i64 (d.wr:Int),.int .i64 d.fail] 264)).cell? ⟨h.p,0,none⟩=some (.slice (some ⟨h.bf,0,none⟩) d.fl.length h.cf):=by rw[HB0.out.cell hpl];exact c0
 clear hd fz hv2
 go_enter Tryz.func133,Tryz.ntmps133
 go_wp2_with fail
 generalize w.alloc (.cells #[.slice (some ⟨h.bf,0,none⟩) d.fl.length h.cf,.slice (some ⟨h.bs,0,none⟩) d.fl.length h.cs,.slice va d.pend.length vc,.int .i64 (d.wr:Int),.int .i64 d.fail] 264)=w0 at HB0 HN0 HC0 c0' ⊢
 clear c0'
 have keep0:∀ W:World,Below w.heap.size w W→aI B W h d:=fun W hb=>HD.out.keep fun k hk=>hb.block k (HD.out.lt k hk).2
 have HK:Hid (∀ W:World,Below w.heap.size w W→aI B W h d):=keep0
 clear keep0
 have hs0:w.heap.size<w0.heap.size:=by rw[HC0.out];omega
 refine(wZ d.fl w0 h1 h200 HD.out.ok.l1 (HK.out w0 HB0.out).of).mono ?_
 rintro e w1 ⟨g1,k1,rfl,ho1,hb1⟩
 have HB1:Hid (Below w.heap.size w (w1.setCell ⟨w.heap.size,0,none⟩ (.slice (some ⟨g1,0,none⟩) d.fl.length k1))):=(HB0.out.trans (hb1.mono (by omega))).setCell (Nat.le_refl _) _
 have hN1:w1.heap[w.heap.size]?=_:=(hb1.block w.heap.size hs0).trans HN0.out
 have HN1:Hid ((w1.setCell ⟨w.heap.size,0,none⟩ (.slice (some ⟨g1,0,none⟩) d.fl.length k1)).heap[w.heap.size]?=some (.cells #[.slice (some ⟨g1,0,none⟩) d.fl.length k1,.slice (some ⟨h.bs,0,none⟩) d.fl.length h.cs,.slice va d.pend.length vc,.int .i64 (d.wr:Int),.int .i64 d.fail] 264 (0,0))):=by
  unfold Hid;rw[heap_setCell_same w1 _ 0 _ _ _ hN1];rfl
 have HO1:Hid ((w1.setCell ⟨w.heap.size,0,none⟩ (.slice (some ⟨g1,0,none⟩) d.fl.length k1)).ownsRow w0.heap.size 261 16 (.slice (some ⟨g1,0,none⟩) d.fl.length k1) d.fl.length (cO d.fl)):=dB ho1 (fun q e=>by
  have:g1=q:=by simpa [Value.ownBlock] using e
  subst this
  have:=(fP ho1).1
  exact heap_setCell_other _ _ _ _ (show g1≠w.heap.size by omega))
 have fN1:=frozen_of_row w1 w.heap.size 0 _ _ hN1
 have cN1:=cell_of_row w1 w.heap.size 0 _ _ _ hN1
 have c1':(w1.setCell ⟨w.heap.size,0,none⟩ (.slice (some ⟨g1,0,none⟩) d.fl.length k1)).cell? ⟨h.p,1,none⟩=some (.slice (some ⟨h.bs,0,none⟩) d.fl.length h.cs):=by rw[HB1.out.cell hpl];exact c1
 have c2':(w1.setCell ⟨w.heap.size,0,none⟩ (.slice (some ⟨g1,0,none⟩) d.fl.length k1)).cell? ⟨h.p,2,none⟩=some (.slice va d.pend.length vc):=by rw[HB1.out.cell hpl];exact c2
 have hs1:w0.heap.size≤(w1.setCell ⟨w.heap.size,0,none⟩ (.slice (some ⟨g1,0,none⟩) d.fl.length k1)).heap.size:=by have:=hb1.size;simpa [World.setCell] using this
 have hg1:g1<(w1.setCell ⟨w.heap.size,0,none⟩ (.slice (some ⟨g1,0,none⟩) d.fl.length k1)).heap.size:=by
  obtain⟨_,cur,hh,_⟩:=fP HO1.out;exact lt_of_some hh
 clear ho1 hb1 HN0 HC0 HB0 hN1 c0
 go_wp2_with fail
 generalize w1.setCell ⟨w.heap.size,0,none⟩ (.slice (some ⟨g1,0,none⟩) d.fl.length k1)=W1 at HB1 HN1 HO1 c1' c2' hs1 hg1 ⊢
 clear c1' fN1 cN1
 have hseen:(HD.out.ok.same)=HD.out.ok.same:=rfl
 have hos:=(HK.out W1 HB1.out).os
 rw[← HD.out.ok.same] at hos
 have hcl:=wZ d.seen W1 (by rw[HD.out.ok.same];exact h1) (by rw[HD.out.ok.same];exact h200) HD.out.ok.l2 hos
 rw[HD.out.ok.same] at hcl
 clear hseen hos
 refine hcl.mono ?_
 rintro e w2 ⟨g2,k2,rfl,ho2,hb2⟩
 clear hcl
 have HB2:Hid (Below w.heap.size w (w2.setCell ⟨w.heap.size,1,none⟩ (.slice (some ⟨g2,0,none⟩) d.fl.length k2))):=(HB1.out.trans (hb2.mono (by omega))).setCell (Nat.le_refl _) _
 have hN2:w2.heap[w.heap.size]?=_:=(hb2.block w.heap.size (by omega)).trans HN1.out
 have HN2:Hid ((w2.setCell ⟨w.heap.size,1,none⟩ (.slice (some ⟨g2,0,none⟩) d.fl.length k2)).heap[w.heap.size]?=some (.cells #[.slice (some ⟨g1,0,none⟩) d.fl.length k1,.slice (some ⟨g2,0,none⟩) d.fl.length k2,.slice va d.pend.length vc,.int .i64 (d.wr:Int),.int .i64 d.fail] 264 (0,0))):=by
  unfold Hid;rw[heap_setCell_same w2 _ 1 _ _ _ hN2];rfl
 have hg1B:=(fP HO1.out).1
 have hg2B:=(fP ho2).1
 have HO1b:Hid ((w2.setCell ⟨w.heap.size,1,none⟩ (.slice (some ⟨g2,0,none⟩) d.fl.length k2)).ownsRow w0.heap.size 261 16 (.slice (some ⟨g1,0,none⟩) d.fl.length k1) d.fl.length (cO d.fl)):=dB HO1.out (fun q e=>by
  have:g1=q:=by simpa [Value.ownBlock] using e
  subst this
  rw[heap_setCell_other _ _ _ _ (show g1≠w.heap.size by omega)];exact hb2.block g1 hg1)
 have HO2:Hid ((w2.setCell ⟨w.heap.size,1,none⟩ (.slice (some ⟨g2,0,none⟩) d.fl.length k2)).ownsRow W1.heap.size 261 16 (.slice (some ⟨g2,0,none⟩) d.fl.length k2) d.fl.length (cO d.seen)):=dB ho2 (fun q e=>by
  have:g2=q:=by simpa [Value.ownBlock] using e
  subst this
  exact heap_setCell_other _ _ _ _ (show g2≠w.heap.size by omega))
 have fN2:=frozen_of_row w2 w.heap.size 1 _ _ hN2
 have cN2:=cell_of_row w2 w.heap.size 1 _ _ _ hN2
 have c2'':(w2.setCell ⟨w.heap.size,1,none⟩ (.slice (some ⟨g2,0,none⟩) d.fl.length k2)).cell? ⟨h.p,2,none⟩=some (.slice va d.pend.length vc):=by rw[HB2.out.cell hpl];exact c2
 have hs2:W1.heap.size≤(w2.setCell ⟨w.heap.size,1,none⟩ (.slice (some ⟨g2,0,none⟩) d.fl.length k2)).heap.size:=by have:=hb2.size;simpa [World.setCell] using this
 have hg2:g2<(w2.setCell ⟨w.heap.size,1,none⟩ (.slice (some ⟨g2,0,none⟩) d.fl.length k2)).heap.size:=by
  obtain⟨_,cur,hh,_⟩:=fP HO2.out;exact lt_of_some hh
 clear ho2 hb2 HN1 HB1 hN2 c1 c2' HO1
 go_wp2_with fail
 generalize w2.setCell ⟨w.heap.size,1,none⟩ (.slice (some ⟨g2,0,none⟩) d.fl.length k2)=W2 at HB2 HN2 HO1b HO2 c2'' hs2 hg2 ⊢
 clear c2'' fN2 cN2
 have hclw:=NC W2 (HK.out W2 HB2.out)
 rw[HV.out] at hclw
 refine hclw.mono ?_
 rintro e w3 ⟨a3,k3,rfl,ho3,hb3,hpn⟩
 clear hclw
 have HB3:Hid (Below w.heap.size w (w3.setCell ⟨w.heap.size,2,none⟩ (.slice a3 d.pend.length k3))):=(HB2.out.trans (hb3.mono (by omega))).setCell (Nat.le_refl _) _
 have hN3:w3.heap[w.heap.size]?=_:=(hb3.block w.heap.size (by omega)).trans HN2.out
 have HFIN:Hid (aI w.heap.size (w3.setCell ⟨w.heap.size,2,none⟩ (.slice a3 d.pend.length k3)) ⟨w.heap.size,g1,k1,g2,k2,.slice a3 d.pend.length k3⟩ d):=by
  refine⟨HD.out.ok,Nat.le_refl _,?_,?_,?_,?_,show g1≠g2 by omega,hpn⟩
  ·show(w3.setCell ⟨w.heap.size,2,none⟩ (.slice a3 d.pend.length k3)).heap[w.heap.size]?=_
   rw[heap_setCell_same w3 _ 2 _ _ _ hN3];rfl
  ·exact ownsRow_base (dB HO1b.out (fun q e=>by
    have:g1=q:=by simpa [Value.ownBlock] using e
    subst this
    rw[heap_setCell_other _ _ _ _ (show g1≠w.heap.size by omega)];exact hb3.block g1 (by omega))) (by omega)
  ·exact ownsRow_base (dB HO2.out (fun q e=>by
    have:g2=q:=by simpa [Value.ownBlock] using e
    subst this
    rw[heap_setCell_other _ _ _ _ (show g2≠w.heap.size by omega)];exact hb3.block g2 hg2)) (by omega)
  ·exact ownsRow_base (dB ho3 (fun q e=>by
    have:=(ho3.lt q e).1
    exact heap_setCell_other _ _ _ _ (show q≠w.heap.size by omega))) (by omega)
 have fN3:=frozen_of_row w3 w.heap.size 2 _ _ hN3
 have cN3:=cell_of_row w3 w.heap.size 2 _ _ _ hN3
 clear ho3 hb3 HN2 HB2 hN3 c2 HO1b HO2 hpn
 go_wp2
 go_ret
 exact⟨⟨w.heap.size,g1,k1,g2,k2,.slice a3 d.pend.length k3⟩,rfl,HFIN.out,HB3.out⟩
end Go.Proofs.YtonhoahnieoebabGreatDoor
