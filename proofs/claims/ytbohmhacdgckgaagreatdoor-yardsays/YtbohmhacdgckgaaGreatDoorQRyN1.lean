/- A yard is opened (J2): the walk. -/
import Derived.Test.YtbohmhacdgckgaaGreatDoorQYardO4
set_option linter.all false
set_option maxHeartbeats 4000000
set_option maxRecDepth 100000
namespace Go.Proofs.YtbohmhacdgckgaaGreatDoor
open Go.RowKit renaming Below->β
open Go renaming World->ω, Value->υ, Calls->κ
open Option renaming none->O, some->S
open Go.Proofs.Tryz Go.RowKit Go.Maps
attribute [local go_sem ↓] Go.wp_at_zero Go.wp_at_succ
def Bj(p:Nat):Obj:=.cells #[.pointer O,.pointer O,.pointer O,.pointer O,.pointer O,p,.pointer O,.pointer O,.pointer O,.pointer O,.pointer O,(0:Int),.pointer O] 74 (0,0)
def YOp.start{w c:ω}{B:Nat}{h:Hd}{d:Nat->DV}{t:DV}(f:β w w c)(g:B<=w.heap.size)(hd:aO w.heap.size c h t):YOp (c.alloc (Bj h.p)) B c.heap.size 0 0 ⟨λ_=>h,h,λ_=>⟨0,h,0,0,0⟩,uV⟩ d t:=by
 have k:=f.size;refine⟨⟨_,heap_alloc_new c _,rfl,λi a=>(by omega),rfl,λi a=>(by omega),λi _ a=>?_,rfl,rfl⟩,λi v a=>(by omega),λi a=>(by omega),⟨hd.base0.keep λb e=>jal c _ _ (hd.lt b e).2,λ_ _ e=>e⟩,λi j a=>(by omega),λi a=>(by omega),λi a=>(by omega),λb e=>?_,by omega⟩
 .match i,a with
  | 0,_=>rfl
  | 1,_=>rfl
  | 2,_=>rfl
  | 3,_=>rfl
  | 4,_=>rfl
 .have:=hd.lt b e
  omega
def kJ(w:ω)(a k:Nat)(d:Nat->DV)(t:DV)(wr:ω):Prop:=(∃ Y,YOp wr w.heap.size a k k Y d t)/\β w w wr
def OpenAt(w:ω)(a k:Nat)(d:Nat->DV)(t:DV)(h:Hd)(wr:ω):Prop:=(∃ Y,oQ wr w.heap.size a k Y d t h)/\β w w wr
def lM(w:ω)(d:Nat->DV)(t:DV)(e:Ending)(c:ω):Prop:=β w w c /\
 ((jo d t≠0/\e=.returned (.tuple #[.pointer O,erV (jo d t)]))\/(jo d t=0/\∃(f:Nat) (Y:Yh),e=.returned (.tuple #[f,.nilIface])/\aB c f Y (jF d t)/\(∀ b,fpY f Y (jF d t) b->w.heap.size<=b)/\(∀ g o,Y.jb.a=S ⟨g,o,O⟩->w.heap.size<=g/\g<c.heap.size)))
def Wj{g o cap m:Nat}{hs:Nat->Hd}{d:Nat->DV}{th:Hd}{t:DV}(w:ω)(hp:nD w g o 5 hs)(hd:∀ i,i<5->bQ Gd.no w (hs i) (d i))(ht:bQ Gd.no w th t)(hf:∀ i,(d i).fine (d i).fl.length m)(bc:t.fine t.fl.length m) :
    κ prog 18 #[.slice (some ⟨g,o,none⟩) 5 cap,th.p] w λe q=>lM w d t e q:=by
  have b0:=ah (Le (cap:=cap) w hp (by omega))
  have bb:Hid (κ prog 73 #[th.p] w λe q=>∃ X:Nat,e=.returned X/\kJ w q.heap.size 0 d t (q.alloc (Bj X))):=by
    refine(wQ w ht.toaO).mono ?_;rintro e q ⟨s,rfl,V,l⟩;exact⟨s.p,rfl,⟨_,YOp.start l (ja1 _) V⟩,l.alloc l.size _⟩
  have b4:=ah λk W (G:k<5) (l:β w w W)=>(hp.below (by omega) l) k G
  have bl:Hid (∀(k f:Nat) (W:ω),k<5->kJ w f k d t W->κ prog 73 #[(hs k).p] W λe q=>∃ s:Hd,e=.returned s.p/\(∃ v,q.cell? ⟨f,k,none⟩=some v)/\q.frozen? ⟨f,k,none⟩=false/\OpenAt w f k d t s (q.setCell ⟨f,k,none⟩ s.p)):=λk f W G ⟨⟨Y,r⟩,l⟩=>by
    have bj:=(hd k G).keep λb e=>l.block b ((hd k G).lt b e).2
    refine(wQ W bj.toaO).mono ?_;rintro e q ⟨s,rfl,V,C⟩;obtain⟨q1,q2⟩:=(r.below C).cell k (by omega)
    exact⟨s,rfl,q1,q2,⟨Y,r.copied G l.size C V⟩,(l.trans (C.mono l.size)).setCell r.pastY _⟩
  have aM:Hid (∀(k f:Nat) (s:Hd) (W:ω),OpenAt w f k d t s W->W.cell? ⟨f,k,none⟩=some (s.p:υ)):=λk f s W ⟨⟨Y,R⟩,_⟩=>R.cell
  have bd:Hid (∀(k f:Nat) (s:Hd) (W:ω),k<5->dF (d k)≠0->OpenAt w f k d t s W->κ prog 74 #[s.p] W λe q=>e=.returned (.tuple #[.pointer none,.iface 96 (.int .i64 (dF (d k)))])/\kJ w f (k+1) d t q):=λk f s W G y ⟨⟨Y,R⟩,l⟩=>by
    refine(F6 W R.dev.nG (ja1 _)).mono ?_;rintro e q ⟨C,⟨_,rfl⟩|⟨M,_⟩⟩
    . exact⟨by rw[bJ y],(R.below C).Pn G y,l.trans (C.mono l.size)⟩
    . exact absurd M y
  have bh:Hid (∀(k f:Nat) (s:Hd) (W:ω),k<5->dF (d k)=0->OpenAt w f k d t s W->κ prog 74 #[s.p] W λe q=>∃ xp:Nat,e=.returned (.tuple #[xp,.nilIface])/\(∃ v,q.cell? ⟨f,6+k,none⟩=some v)/\q.frozen? ⟨f,6+k,none⟩=false/\kJ w f (k+1) d t (q.setCell ⟨f,6+k,none⟩ xp)):=λk f s W G M ⟨⟨Y,R⟩,l⟩=>by
    refine(F6 W R.dev.nG (ja1 _)).mono ?_;rintro e q ⟨C,⟨y,_⟩|⟨_,x,hx,_,rfl,hi⟩⟩
    . exact absurd M y
    . obtain⟨q1,q2⟩:=(R.below C).op.cell (6+k) (by omega)
      exact⟨x.p,rfl,q1,q2,R.image G l.size M C hx hi,(l.trans (C.mono l.size)).setCell R.op.pastY _⟩
  have bA:=bc.ok.n1
  have aL:Hid (∀(f:Nat) (W:ω),kJ w f 5 d t W->∃ X:Nat,W.cell? ⟨f,5,none⟩=some (X:υ)/\κ prog 75 #[X,(0:Int)] W λe q=>e=.returned (.tuple #[.string (bytesOf (t.seen.getD 0 [])),.nilIface])/\q=W):=λf W ⟨⟨Y,r⟩,l⟩ =>
    ⟨Y.tp.p,r.U5,kS 0 W r.top.toaO (by omega)⟩
  have D:Hid (∀ W:ω,κ prog 76 #[.string (bytesOf (t.seen.getD 0 []))] W λe q=>e=.returned (.tuple #[.agg #[.int .i64 (ak t).root,.int .i64 (ak t).kind,.int .i64 (ak t).file,.int .i64 (ak t).rate,.int .i64 (ak t).burst],erV (aJ (bytesOf (t.seen.getD 0 [])))])/\β W W q):=λW=>QL _ W
  have aw:=xR hf;have a6:jo d t=if aJ (bytesOf (t.seen.getD 0 []))=0 then ((aK d).walk (ak t).root).2 else aJ (bytesOf (t.seen.getD 0 [])):=rfl
  have Z:Hid (∀(f:Nat) (W:ω),kJ w f 5 d t W->κ prog 77 #[.pointer (some ⟨f,6,none⟩),.int .i64 (ak t).root] W λe q=>∃(a:Option Addr) (n cap:Nat),e=.returned (.tuple #[.slice a n cap,erV ((aK d).walk (ak t).root).2])/\β W W q):=λf W ⟨⟨Y,r⟩,l⟩ =>
    (uN (ak t).root W (r.dM.1.shelf aw)).mono λe q ⟨a,cap,V,_,_,h4⟩=>⟨a,_,cap,V,h4⟩
  have I:Hid (∀(f k:Nat) (W L:ω),kJ w f k d t W->β W W L->kJ w f k d t L):=λf k W L ⟨⟨Y,r⟩,l⟩ C=>⟨⟨Y,r.below C⟩,l.trans (C.mono l.size)⟩
  have a9:Hid (∀(f k:Nat) (W:ω),kJ w f k d t W->β w w W/\(∃ v,W.cell? ⟨f,11,none⟩=some v)/\W.frozen? ⟨f,11,none⟩=false):=λf k W ⟨⟨Y,r⟩,l⟩=>⟨l,r.cell 11 (by omega)⟩
  have al:Hid (aJ (bytesOf (t.seen.getD 0 []))≠0->∀ W:ω,β w w W->lM w d t (.returned (.tuple #[.pointer none,.iface 96 (.int .i64 (aJ (bytesOf (t.seen.getD 0 []))))])) W):=λy W l=>⟨l,.inl ⟨by rw[a6,if_neg y];exact y,by rw[a6,if_neg y,bJ y]⟩⟩
  have a7:Hid (aJ (bytesOf (t.seen.getD 0 []))=0->((aK d).walk (ak t).root).2≠0->∀ W:ω,β w w W->lM w d t (.returned (.tuple #[.pointer none,.iface 96 (.int .i64 ((aK d).walk (ak t).root).2)])) W):=λM y W l=>⟨l,.inl ⟨by rw[a6,if_pos M];exact y,by rw[a6,if_pos M,bJ y]⟩⟩
  have Q:Hid (aJ (bytesOf (t.seen.getD 0 []))=0->((aK d).walk (ak t).root).2=0->∀(f:Nat) (W:ω),kJ w f 5 d t W->κ prog 78 #[f,.agg #[.int .i64 (ak t).root,.int .i64 (ak t).kind,.int .i64 (ak t).file,.int .i64 (ak t).rate,.int .i64 (ak t).burst]] (W.setCell ⟨f,11,none⟩ (.int .i64 (ak t).root)) λe q=>∃ po:Option Addr,e=.returned (.pointer po)/\(∃ u,q.cell? ⟨f,12,none⟩=some u)/\q.frozen? ⟨f,12,none⟩=false/\lM w d t (.returned (.tuple #[f,.nilIface])) (q.setCell ⟨f,12,none⟩ (.pointer po))):=λM aq f W ⟨⟨Y,r⟩,l⟩=>by
    obtain⟨hY,hn⟩:=r.dM;have am:=r.pastY;have b7:(ak t).kv.fault=0:=zO M;have bf:=of_decide_eq_true (KV.qC b7).1;have bE:0<=(ak t).root:=bf.1
    have y:((aK d).walk (ak t).root).1≠[]:=λe=>by
      have:=SV.qR aq
      rw[e] at this;have:(ak t).root = -1:=this
      omega
    obtain⟨v,hv,_⟩:=(Chain.of aq y).root;have ar:(((ak t).root.toNat:Nat):Int)=(ak t).root:=by omega
    obtain⟨V,_⟩:=hY.vN (ak t);have:=V8 (m:=m) (rk:=(ak t).root.toNat) (ak t).kind (ak t).file (ak t).rate (ak t).burst _ V aw ⟨v,by rw[ar];exact hv⟩
    rw[ar] at this;refine this.mono ?_;rintro e q ⟨u0,rfl,hP⟩
    obtain⟨u,rfl⟩:∃ po:Option Addr,u0=.pointer po:=by
      rcases hP.2 with⟨_,e⟩|⟨_,_,b,_,e,_⟩
      . exact⟨_,e⟩
      . exact⟨_,e⟩
    obtain⟨q1,q2,Y',b2,bk,ba⟩:=Qc (w:=w) hY hn l.size rfl hP
    have b3:β w w (q.setCell ⟨f,12,none⟩ (.pointer u)):=by
      have C:=l.setCell (p:=⟨f,11,none⟩) am (.int .i64 (ak t).root);exact(C.trans (hP.1.mono C.size)).setCell am _
    exact⟨u,rfl,q1,q2,b3,.inr ⟨by rw[a6,if_pos M];exact aq,f,Y',rfl,b2,bk,ba⟩⟩
  have S:Hid (∀(W:ω) (N:Nat),W.heap[N]?=some (bF (ak t))->∀ L:ω,L.heap[N]?=W.heap[N]?->L.cell? ⟨N,0,none⟩=some (.int .i64 (ak t).root)/\L.rangeAt N 0 [.int .i64 (ak t).root,.int .i64 (ak t).kind,.int .i64 (ak t).file,.int .i64 (ak t).rate,.int .i64 (ak t).burst]):=λW N hN L hW=>by
    have e:L.heap[N]?=some (bF (ak t)):=hW.trans hN;unfold bF at e;have c:∀ i,L.cell? ⟨N,i,none⟩=(#[.int .i64 (ak t).root,.int .i64 (ak t).kind,.int .i64 (ak t).file,.int .i64 (ak t).rate,.int .i64 (ak t).burst]:Array υ)[i]?:=λi=>cell_of_row _ _ _ _ _ _ e
    refine⟨c 0,λj v hv=>?_⟩
    rw[jan,c j]
    simpa using hv
  have HI:Hid ((prog.info? 82).map (·.size)=some ([.int .i64 (ak t).root,.int .i64 (ak t).kind,.int .i64 (ak t).file,.int .i64 (ak t).rate,.int .i64 (ak t).burst]:List υ).length):=uq
  have aD:Hid (∀(f k:Nat) (W:ω),kJ w f k d t W->f<W.heap.size):=λf k W ⟨⟨Y,r⟩,l⟩=>r.lt
  unfold bF at S;generalize lM w d t=P at al a7 Q |-;generalize bytesOf (t.seen.getD 0 [])=ds at aL D al a7 Q;generalize (ak t).root=z at D Z a7 Q S HI;generalize (ak t).kind=K at D Q S HI;generalize (ak t).file=H at D Q S HI;generalize (ak t).rate=F at D Q S HI;generalize (ak t).burst=J at D Q S HI;generalize ((aK d).walk z).2=wf at Z a7 Q;go_enter func18,ntmps18
  go_wp2_with fail
  refine cEq b0.out λq hw=>?_
  have aR:=hw.symm;subst aR;go_wp2_with fail
  refine bb.out.mono ?_;rintro e w1 ⟨X,rfl,r⟩;have HO:=ah r;unfold Bj at HO;go_wp2_with fail
  generalize am:w1.heap.size=f at HO |-;generalize bq:w1.alloc _=W2 at HO |-;go_loopw [34] (λi wr=>∃ k:Nat,k<=5/\i=.int .i64 (k:Int)/\kJ w f k d t wr) (λi _=>5-(intOf i).toNat)
  case atStart=>exact⟨0,by omega,rfl,HO.out⟩
  case round =>
    obtain⟨k,G,rfl,r⟩:=hrel;by_cases ab:k<5
    . have bn:Hid (kJ w f k d t wr.drew):=I.out _ _ _ _ r (ja0 _ _).drew
      have e1:=b4.out k wr ab (a9.out _ _ _ r).1;have k0:(0:Int)<=(k:Int):=by omega
      have k5:(k:Int)<5:=by omega
      have k2:((k:Int)).toNat=k:=by omega
      have k3:IntKind.i64.wrap ((k:Int)+1)=(k:Int)+1:=ja8 _ (by omega)
      have av:=ah (bl.out k f wr.drew ab bn.out);generalize (hs k).p=dp at e1 av;go_wp2_with fail
      go_region_held3 (λ_=>True)
        (first|trivial|assumption)
        (first
          | (go_at_call 73;refine av.out.mono ?_;rintro e w4 ⟨s,rfl,⟨v,q1⟩,q2,hA⟩;have HA:=ah hA;have q3:=aM.out _ _ _ _ hA;clear hA))
      generalize bt:w4.setCell ⟨f,k,none⟩ s.p=W5 at HA q3 |-;by_cases ax:dF (d k)=0
      . have aa:=ah (bh.out k f s W5 ab ax HA.out)
        go_wp2_with fail
        refine aa.out.mono ?_;rintro e w6 ⟨xp,rfl,⟨v6,p1⟩,p2,bp⟩;have ap:=ah bp;go_wp2
        refine⟨⟨k+1,by omega,by simp,ap.out⟩,?_⟩
        simp only[intOf];omega
      . have aa:=ah (bd.out k f s W5 ab ax HA.out)
        generalize dF (d k)=of at aa;go_wp2_with fail
        refine cHd aa.out λw6 ap=>?_
        go_wp2
        refine⟨⟨k+1,by omega,by simp,ap.out⟩,?_⟩
        simp only[intOf];omega
    . have b1:k=5:=by omega
      subst b1;obtain⟨tq,c5,bo⟩:=aL.out f wr r;have an:=ah bo;have ai:=ah r;by_cases a2:aJ ds=0
      . rw[a2,aN] at D
        have bi:=ah (a7.out a2);have b8:=ah (Q.out a2);by_cases ad:wf=0
        . rw[ad,aN] at Z
          have bm:=ah (b8.out ad);go_wp2_with fail
          refine cSt an.out ?_;go_wp2_with fail
          refine cEq (D.out _) λA a4=>?_
          have U:=I.out _ _ _ _ ai.out a4;have y:A.heap.size≠f:=by have:=aD.out _ _ _ U;omega
          have a3:Hid (kJ w f 5 d t (A.alloc (.cells #[z,K,H,F,J] 82))):=I.out _ _ _ _ U ((ja0 _ _).alloc (ja1 _) _);have O:Hid ((A.alloc (.cells #[z,K,H,F,J] 82)).heap[A.heap.size]?=some (.cells #[z,K,H,F,J] 82 (0,0))):=heap_alloc_new A _;go_wp2_with fail
          generalize A.alloc (.cells #[z,K,H,F,J] 82)=B at a3 O |-;generalize A.heap.size=N at O y |-;have a0:=ah (S.out B N O.out);have ao:Hid (B.drew.cell? ⟨N,0,none⟩=some (z:υ)):=(a0.out B.drew rfl).1;have a8:Hid (kJ w f 5 d t B.drew):=I.out _ _ _ _ a3.out (ja0 _ _).drew;have ae:=ah (Z.out f B.drew a8.out);have af:Hid (N<B.drew.heap.size):=lt_of_some O.out
          go_region_held3 (λW=>W.cell? ⟨N,0,none⟩=some (z:υ))
            (first|(exact ao.out)|assumption)
            (first
              | (go_at_call 77;refine ae.out.mono ?_;rintro e E ⟨a5,n5,b5,rfl,T⟩;have ac:=ah (I.out _ _ _ _ a8.out T);have a1:Hid (E.heap[N]?=B.heap[N]?):=T.block N af.out;have be:E.cell? ⟨N,0,none⟩=some (z:υ):=(a0.out E a1.out).1;have aE:Hid ((E.setCell ⟨f,11,none⟩ z).heap[N]?=B.heap[N]?):=(heap_setCell_other _ _ _ _ y).trans a1.out;clear T))
          obtain⟨_,⟨bB,bw⟩,bv⟩:=a9.out _ _ _ ac.out;have b9:=ah (a0.out (E.setCell ⟨f,11,none⟩ z) aE.out).2;have b6:=ah (bm.out f E ac.out);go_wp2_with (refine wpList_load_mid (by rfl) 82 (.tmp 13) (by rfl) N 0 (by rfl) [z,K,H,F,J] _ b9.out underlying82 rfl HI.out ?_)
          refine b6.out.mono ?_;rintro e w6 ⟨br,rfl,⟨u6,bs⟩,bu,hP⟩;have HP:=ah hP;go_wp2
          exact HP.out
        . rw[bJ ad] at Z
          have ag:=ah (bi.out ad);go_wp2_with fail
          refine cSt an.out ?_;go_wp2_with fail
          refine cEq (D.out _) λA a4=>?_
          have U:=I.out _ _ _ _ ai.out a4;have y:A.heap.size≠f:=by have:=aD.out _ _ _ U;omega
          have a3:Hid (kJ w f 5 d t (A.alloc (.cells #[z,K,H,F,J] 82))):=I.out _ _ _ _ U ((ja0 _ _).alloc (ja1 _) _);have O:Hid ((A.alloc (.cells #[z,K,H,F,J] 82)).heap[A.heap.size]?=some (.cells #[z,K,H,F,J] 82 (0,0))):=heap_alloc_new A _;go_wp2_with fail
          generalize A.alloc (.cells #[z,K,H,F,J] 82)=B at a3 O |-;generalize A.heap.size=N at O y |-;have a0:=ah (S.out B N O.out);have ao:Hid (B.drew.cell? ⟨N,0,none⟩=some (z:υ)):=(a0.out B.drew rfl).1;have a8:Hid (kJ w f 5 d t B.drew):=I.out _ _ _ _ a3.out (ja0 _ _).drew;have ae:=ah (Z.out f B.drew a8.out);have af:Hid (N<B.drew.heap.size):=lt_of_some O.out
          go_region_held3 (λW=>W.cell? ⟨N,0,none⟩=some (z:υ))
            (first|(exact ao.out)|assumption)
            (first
              | (go_at_call 77;refine ae.out.mono ?_;rintro e E ⟨a5,n5,b5,rfl,T⟩;have ac:=ah (I.out _ _ _ _ a8.out T);have a1:Hid (E.heap[N]?=B.heap[N]?):=T.block N af.out;have be  := (a0.out E a1.out).1;have aE:Hid ((E.setCell ⟨f,11,none⟩ z).heap[N]?=B.heap[N]?):=(heap_setCell_other _ _ _ _ y).trans a1.out;clear T))
          have HP:=ah (ag.out E (a9.out _ _ _ ac.out).1);go_wp2
          exact HP.out
      . rw[bJ a2] at D
        have ag:=ah (al.out a2);go_wp2_with fail
        refine cSt an.out ?_;go_wp2_with fail
        refine cEq (D.out _) λA a4=>?_
        have U:=I.out _ _ _ _ ai.out a4;have az:=(a9.out _ _ _ U).1;have HP:=ah (ag.out (A.alloc (.cells #[z,K,H,F,J] 82)) (az.alloc az.size _));go_wp2
        exact HP.out
def MO(a b c d:Int)(w:ω):(Instr.field 120 (.agg #[a,b,c,d]) 1).run prog w=.ok (.int .i64 b) w:=by kernel_rfl
def Jp{A C m:Nat}{Y:Yh}{y:YV}(f:Int)(w:ω)(h:aB w A Y y)(v:YOk y C m) :
  κ prog 188 #[A,f] w λe i=>e=.returned (.bool (y.used f))/\β w w i:=by
 have r:=ah (oO w h);have s:=ah (sH w h v);have a:Hid (∀(W:ω) (g o cap:Nat),Nums W (S ⟨g,o,none⟩) y.l->κ prog 236 #[.slice (S ⟨g,o,none⟩) y.l.length cap,f] W λe i=>e=.returned (.bool (y.l.contains f))/\i=W):=λW g o cap L=>zI y.l f W L rfl (by have:=v.ch.len;omega)
 have B:y.used f=(y.busy&&decide (y.kd.file=f)||y.l.contains f):=rfl
 by_cases k:y.busy=true
 .obtain⟨j,E,H⟩:=lU k
  have D:=v.job j E H;rw[qj k] at r;have G:y.kd.file=j.file:=by rw[<- D.dsk];rfl
  have t:=ah λW (k:β w w W)=>yQ W ((h.below k).job j E).1 D.ok.set
  rw[B,k,G,jb6];have u:=MO j.kind j.file j.state (S4.cnt j.x 64:Nat);generalize j.kind=P at t u;generalize j.state=O at t u;generalize S4.cnt j.x 64=N at t u;generalize j.file=z at t u |-;generalize y.l.length=ln at s a
  cases F:y.l.contains f with
  | true =>
   rw[F] at a;rw[Bool.or_true];go_enter func188,ntmps188
   go_wp2_with fail
   refine cEq r.out λi q=>?_
   have d:=q.symm;subst d;go_wp2_with fail
   refine s.out.mono ?_;rintro e b ⟨g,o,cap,rfl,n,_,_,_,c⟩;go_wp2_with fail
   refine cSt (a.out b g o cap n) ?_;go_wp2
   go_ret
   exact⟨rfl,c⟩
  | false =>
   rw[F] at a;rw[jbk]
   have M:decide (z=f)=(z==f):=by
    by_cases e:z=f
    .rw[e];simp
    .rw[decide_eq_false e];symm;simpa using e
   rw[M];go_enter func188,ntmps188
   go_wp2_with fail
   refine cEq r.out λi q=>?_
   have d:=q.symm;subst d;go_wp2_with fail
   refine s.out.mono ?_;rintro e b ⟨g,o,cap,rfl,n,_,_,_,c⟩;go_wp2_with fail
   refine cSt (a.out b g o cap n) ?_;go_wp2_with fail
   refine cBl (t.out b c) c λQ J=>?_
   go_wp2
   go_ret
   exact⟨rfl,J.out⟩
 .rw[qh k] at r
  have K:y.busy=false:=by simpa using k
  rw[B,K,Bool.false_and,jbA];generalize y.l.length=ln at s a;generalize y.l.contains f=I at a |-
  cases I with
  | true =>
   go_enter func188,ntmps188
   go_wp2_with fail
   refine cEq r.out λi q=>?_
   have d:=q.symm;subst d;go_wp2_with fail
   refine s.out.mono ?_;rintro e b ⟨g,o,cap,rfl,n,_,_,_,c⟩;go_wp2_with fail
   refine cSt (a.out b g o cap n) ?_;go_wp2
   go_ret
   exact⟨rfl,c⟩
  | false =>
   go_enter func188,ntmps188
   go_wp2_with fail
   refine cEq r.out λi q=>?_
   have d:=q.symm;subst d;go_wp2_with fail
   refine s.out.mono ?_;rintro e b ⟨g,o,cap,rfl,n,_,_,_,c⟩;go_wp2_with fail
   refine cSt (a.out b g o cap n) ?_;go_wp2
   go_ret
   exact⟨rfl,c⟩
def Ws{B:Gd}{h:Hd}{d:DV}{C:Nat}(w:ω)(hd:bQ B w h d)(m:1<=C/\C<=32) :
  κ prog 189 #[h.p,(C:Int)] w λe g=>e=.returned (nO d.fl.length (C:Int))/\β w w g:=by
 have b:=ah (size_any w hd.toaO);have k:=hd.ok.n2
 have l:HV.ok ⟨(C:Int),0,0⟩=true:=by
  unfold HV.ok;simp
  omega
 have a:=ah λW=>uU (C:Int) 0 0 W l
 have c:(aQ ⟨(C:Int),0,0⟩:Int)=1+(ay C:Int):=by unfold aQ dw;simp
 have f:ay C<=5:=by unfold ay;omega
 rw[c] at a;have i:nO d.fl.length (C:Int)=Int.tdiv ((d.fl.length:Int)-(1+(ay C:Int))) 4:=by unfold nO;rw[show((C:Int)).toNat=C by omega];congr 1;omega
 rw[i];generalize d.fl.length=n at b k |-;generalize ay C=o at a f |-;go_enter func189,ntmps189
 go_wp2_with fail
 refine cSt b.out ?_;go_wp2_with fail
 refine cHd (a.out _) λq j=>?_
 go_wp2
 go_ret
 exact⟨rfl,j.out⟩
def mD(a:Nat->Ih)(k:Nat)(x:Ih):Nat->Ih:=λi=>if i=k then x else a i
def fG(a:Nat->Hd)(k:Nat)(h:Hd):Nat->Hd:=λi=>if i=k then h else a i
def Yh.hd(Y:Yh)(s:SV)(i:Nat):Hd:=match s i with
 | none=>Y.ds i
 | some _=>(Y.xs i).h
def aB.kP{w:ω}{c i:Nat}{Y:Yh}{y:YV}(h:aB w c Y y)(a:i<5):bQ Gd.no w (Y.hd y.s i) (y.dev i)/\(Y.hd y.s i).p=Y.dp y.s i/\∀ k,(Y.hd y.s i).fp k->Y.fpF y.s i k:=by
 unfold Yh.hd YV.dev Yh.dp Yh.fpF
 cases b:y.s i with
 | none=>exact⟨h.dev i a b,rfl,λk e=>e⟩
 | some v=>exact⟨(h.img i v a b).dev,rfl,λk e=>.inr (.inr (.inr e))⟩
def aB.made{w c:ω}{a i:Nat}{Y:Yh}{y:YV}(h:aB w a Y y)(g:i<5){x:Ih}{v:IV}(m:Moved (Y.hd y.s i).fp w x.fp c)(D:aH Gd.no c x v)(C:x.h.p=(Y.hd y.s i).p) :
    aB (c.setCell ⟨a,6+i,O⟩ x.p) a {Y with xs:=mD Y.xs i x} {y with s:=y.s.upd i v}/\Moved (fpY a Y y) w (fpY a {Y with xs:=mD Y.xs i x} {y with s:=y.s.upd i v}) (c.setCell ⟨a,6+i,O⟩ x.p):=by
  obtain⟨F,A,B⟩:=h.kP g;have f:y.s.upd i v i=some v:=by unfold SV.upd;rw[if_pos rfl]
  have l:({Y with xs:=mD Y.xs i x}:Yh).xs i=x:=by show mD _ i x i=x;unfold mD;rw[if_pos rfl]
  have r:Moved _ w (({Y with xs:=mD _ i x}:Yh).fpF _ i) c:=⟨m.kept.mono λk _ e=>B k e,λk e=>by
    rw[Yh.dX f,l] at e;rcases m.new k e with n|n
    . simp_all
    . exact .inr n⟩
  have z:=h.kH.1 i g
  have t:∀ b,x.fp b->b≠a:=λb e n=>by
    rcases m.new b e with E|E
    . simp_all
    . have:=h.blk.lt;omega
  have q:je (c.setCell _ (iE (({Y with xs:=mD _ i x}:Yh).xs i) (y.s.upd i v i))) a _ _ _ _ :=
    (h.blk.keep (r.block h.blk.lt z)).Hy g (λj d=>⟨by show mD _ i x j=_;unfold mD;rw[if_neg d],by unfold SV.upd;rw[if_neg d]⟩) (λj d=>by
      by_cases e:j=i
      . rw[e,Yh.kY f,l,C,A]
      . unfold Yh.dp SV.upd
        rw[if_neg e];show(match y.s j with|none=>(Y.ds j).p|some _=>(mD _ i x j).h.p)=_
        unfold mD;rw[if_neg e]
        cases y.s j<;>rfl) rfl
  rw[f,l] at q;refine h.pF   g r (Kept.setCell (S:=λk=>k=a)  (Kept.refl _ c) (.inl rfl) _) q (λu o=>?_) (λo=>?_) (λj d=>⟨by show SV.upd _ _ _ _=_;unfold SV.upd;rw[if_neg d],rfl,by show mD _ i x j=_;unfold mD;rw[if_neg d],rfl⟩) ⟨rfl,rfl,rfl,rfl⟩
  . cases (f.symm.trans o)
    rw[l];exact D.jm λb e=>heap_setCell_other _ _ _ _ (t b e)
  . simp_all
def aB.yY{w c:ω}{a i:Nat}{Y:Yh}{y:YV}(h:aB w a Y y)(g:i<5){d:Hd}{D:DV}(m:Moved (Y.hd y.s i).fp w d.fp c)(hd:bQ Gd.no c d D)(A:d.p=(Y.hd y.s i).p) :
    aB (c.setCell ⟨a,6+i,O⟩ (.pointer O)) a {Y with ds:=fG Y.ds i d} {y with s:=y.s.gone i,dv:=λk=>if k=i then D else y.dv k}/\Moved (fpY a Y y) w (fpY a {Y with ds:=fG Y.ds i d} {y with s:=y.s.gone i,dv:=λk=>if k=i then D else y.dv k}) (c.setCell ⟨a,6+i,O⟩ (.pointer O)):=by
  obtain⟨E,x,z⟩:=h.kP g;have l:y.s.gone i i=none:=by unfold SV.gone;rw[if_pos rfl]
  have n:({Y with ds:=fG Y.ds i d}:Yh).ds i=d:=by show fG _ i d i=d;unfold fG;rw[if_pos rfl]
  have q:Moved _ w (({Y with ds:=fG _ i d}:Yh).fpF _ i) c:=⟨m.kept.mono λk _ e=>z k e,λk e=>by
    rw[Yh.dH l,n] at e;rcases m.new k e with r|r
    . simp_all
    omega⟩
  have v:=h.kH.1 i g
  have t:∀ b,d.fp b->b≠a:=λb e r=>by
    rcases m.new b e with C|C
    . simp_all
    . have:=h.blk.lt;omega
  have o:je (c.setCell _ (iE (({Y with ds:=fG _ i d}:Yh).xs i) (y.s.gone i i))) a _ _ _ _ :=
    (h.blk.keep (q.block h.blk.lt v)).Hy g (λj f=>⟨rfl,by unfold SV.gone;rw[if_neg f]⟩) (λj f=>by
      by_cases e:j=i
      . rw[e,Yh.dp_none l,n,A,x]
      . unfold Yh.dp SV.gone
        rw[if_neg e];show(match y.s j with|none=>(fG _ i d j).p|some _=>(Y.xs j).h.p)=_
        unfold fG;rw[if_neg e]
        cases y.s j<;>rfl) rfl
  rw[l] at o;refine h.pF   g q (Kept.setCell (S:=λk=>k=a)  (Kept.refl _ c) (.inl rfl) _) o (λu B=>?_) (λB=>?_) (λj f=>⟨by show SV.gone _ _ _=_;unfold SV.gone;rw[if_neg f],if_neg f,rfl,by show fG _ i d j=_;unfold fG;rw[if_neg f]⟩) ⟨rfl,rfl,rfl,rfl⟩
  . simp_all
  . rw[n]
    show bQ _ _ d (if i=i then D else y.dv i)
    rw[if_pos rfl];exact hd.keep λb e=>heap_setCell_other _ _ _ _ (t b e)
def Ij:(prog.info? 47).map (·.size)=S 5:=by kernel_rfl
def NS(P:Nat->Nat)(w:ω):(Instr.index 47 (.agg #[P 0,P 1,P 2,P 3,P 4]) (.int .i64 0)).run prog w=.ok (.pointer (S ⟨P 0,0,O⟩)) w:=by kernel_rfl
def NT(P:Nat->Nat)(w:ω):(Instr.index 47 (.agg #[P 0,P 1,P 2,P 3,P 4]) (.int .i64 1)).run prog w=.ok (.pointer (S ⟨P 1,0,O⟩)) w:=by kernel_rfl
def NU(P:Nat->Nat)(w:ω):(Instr.index 47 (.agg #[P 0,P 1,P 2,P 3,P 4]) (.int .i64 2)).run prog w=.ok (.pointer (S ⟨P 2,0,O⟩)) w:=by kernel_rfl
def NV(P:Nat->Nat)(w:ω):(Instr.index 47 (.agg #[P 0,P 1,P 2,P 3,P 4]) (.int .i64 3)).run prog w=.ok (.pointer (S ⟨P 3,0,O⟩)) w:=by kernel_rfl
def NW(P:Nat->Nat)(w:ω):(Instr.index 47 (.agg #[P 0,P 1,P 2,P 3,P 4]) (.int .i64 4)).run prog w=.ok (.pointer (S ⟨P 4,0,O⟩)) w:=by kernel_rfl
def EK(P:Nat->Nat)(k:Nat)(a:k<5)(w:ω) :
  (Instr.index 47 (.agg #[P 0,P 1,P 2,P 3,P 4]) (.int .i64 (k:Int))).run prog w=.ok (.pointer (S ⟨P k,0,O⟩)) w:=by
 match k,a with
 | 0,_=>exact NS P w
 | 1,_=>exact NT P w
 | 2,_=>exact NU P w
 | 3,_=>exact NV P w
 | 4,_=>exact NW P w
def iZ.block{w:ω}{B k cap:Nat}{a:Option Addr}{i:Nat->Hd}{d:Nat->DV}(h:iZ w B a k cap i d):∀ r,(Value.slice a k cap).ownBlock=S r->∃ b,w.heap[r]?=S (.cells b 46 (0,0)):=λr e=>by
 rcases h.row.2 with⟨f,_⟩|⟨g,l,b,c,_,j,_⟩
 .rw[f] at e;cases e
 .rw[c] at e
  have m:g=r:=by simpa [Value.ownBlock] using e
  simp_all
def aB.Gm{w:ω}{b:Nat}{Y:Yh}{y:YV}(h:aB w b Y y):w.rangeAt b 0 [.pointer (S ⟨Y.dp y.s 0,0,O⟩),.pointer (S ⟨Y.dp y.s 1,0,O⟩),.pointer (S ⟨Y.dp y.s 2,0,O⟩),.pointer (S ⟨Y.dp y.s 3,0,O⟩),.pointer (S ⟨Y.dp y.s 4,0,O⟩)]:=λj v a=>by
 have c:=h.blk.cells.1
 match j,a with
 | 0,a=>simp_all
 | 1,a=>simp_all
 | 2,a=>simp_all
 | 3,a=>simp_all
 | 4,a=>simp_all
def V3{n:Nat}{Y:Yh}{y:YV}(w:ω)(h:aB w n Y y) :
  κ prog 69 #[n] w λe f=>∃(a:Option Addr) (cap:Nat) (c:Nat->Hd) (E:Hd),e=.returned (.tuple #[.slice a 5 cap,E.p])/\iZ f w.heap.size a 5 cap c y.dev/\aO w.heap.size f E y.top/\β w w f:=by
 obtain⟨S,a1,a5,T,V⟩:=info_parts EL;have B:=ah h.Gm;have F:Hid ((prog.info? 47).map (·.size)=some ([.pointer (some ⟨Y.dp y.s 0,0,none⟩),.pointer (some ⟨Y.dp y.s 1,0,none⟩),.pointer (some ⟨Y.dp y.s 2,0,none⟩),.pointer (some ⟨Y.dp y.s 3,0,none⟩),.pointer (some ⟨Y.dp y.s 4,0,none⟩)]:List υ).length):=Ij
 have C:=ah λk (o:k<5) W=>EK (Y.dp y.s) k o W
 have H:Hid (∀(k:Nat) (W:ω) (a:Option Addr) (cap:Nat) (c:Nat->Hd),k<5->β w w W->iZ W w.heap.size a k cap c y.dev->κ prog 73 #[Y.dp y.s k] W λe f=>∃ b:Hd,e=.returned b.p/\aO W.heap.size f b (y.dev k)/\β W W f):=λk W a cap c o g _=>by
  obtain⟨d1,O,_⟩:=(h.below g).kP o;rw[<- O];exact wQ W d1.toaO
 have K:Hid (∀ W:ω,β w w W->W.cell? ⟨n,5,none⟩=some (Y.tp.p:υ)/\κ prog 73 #[Y.tp.p] W λe f=>∃ b:Hd,e=.returned b.p/\aO W.heap.size f b y.top/\β W W f):=λW g=>⟨(h.below g).blk.cells.2.1,wQ W (h.below g).top.toaO⟩
 generalize Y.dp y.s=P at B F C H;generalize Y.tp.p=tp at K;go_enter func69,ntmps69
 go_wp2_with (refine wpList_load_mid (by rfl) 47 (.tmp 9) (by rfl) n 0 (by rfl) [P 0,P 1,P 2,P 3,P 4] _ B.out underlying47 rfl F.out ?_)
 go_loopw [4,11] (λu i wr=>∃(k:Nat) (a:Option Addr) (cap:Nat) (c:Nat->Hd),k<=5/\i=.int .i64 (k:Int)/\u=.slice a k cap/\iZ wr w.heap.size a k cap c y.dev/\β w w wr) (λ_ i _=>5-(intOf i).toNat)
 case atStart=>exact⟨0,none,0,λ_=>⟨0,0,0,0,0,.nilIface⟩,by omega,rfl,rfl,iZ.nil _ _ _ _,ja0 _ _⟩
 case round =>
  obtain⟨k,a,cap,c,o,rfl,rfl,q,g⟩:=hrel;by_cases z:k<5
  .have Z:=C.out k z
   have G:=ah (H.out k wr a cap c z g q);have m:=ah q;have j:=ah g;generalize P k=pk at Z G;go_wp2_with fail
   refine G.out.mono ?_;rintro e d ⟨b,rfl,v,l⟩;have t  := j.out.size;have D:Hid ((d.alloc (.cells #[b.p] 46)).ownsRow w.heap.size 46 1 (.slice a k cap) k (nM c k)):=(m.out.below l).row.alloc _;have N:Hid (w.heap.size<=(d.alloc (.cells #[b.p] 46)).heap.size):=by unfold Hid;have:=l.size;simp;omega
   have X:Hid (β w w (d.alloc (.cells #[b.p] 46))):=(j.out.trans (l.mono t)).alloc (ja4 t l.size) _;have a4:Hid ((d.alloc (.cells #[b.p] 46)).heap.size=d.heap.size+1):=by unfold Hid;simp
   have U:Hid (∀ i y,([.pointer (some ⟨b.p,0,none⟩)]:List υ)[i]?=some y->(d.alloc (.cells #[b.p] 46)).cell? ((⟨d.heap.size,0,none⟩:Addr).add i)=some y):=cell_one_new _ _ _;go_wp2_with (at_builtin;refine wpList_append_lies _ (by rfl) _ _ 53 (by rfl) w.heap.size 46 S (.pointer none) 1 8 underlying53 a1 a5 T V rfl (by decide) (.slice a k cap) k (nM c k) (by rfl) D.out ⟨d,0,none⟩ 1 1 [b.p] (by rfl) (by rfl) U.out (λu J=>by simp at J;subst J;rfl) (by decide) (by unfold maxLen;omega) (by omega) N.out (d.heap.size+1) a4.out ?_;intro g3 I A Q M a6 a7)
   have R:Hid (iZ A w.heap.size (some ⟨g3,0,none⟩) (k+1) I (setH c k b) y.dev):=m.out.snoc t l v Q M m.out.block;have a0:Hid (β w w A):=X.out.grown M N.out (λr e=>(D.out.lt r e).1)
   go_roundw
   case rel =>
    exact⟨k+1,some _,I,setH c k b,by omega,by go_num,rfl,R.out,a0.out⟩
   case measure=>simp[intOf];omega
  .have a3:k=5:=by omega
   subst a3;obtain⟨c5,a2⟩:=K.out wr g;have m:=ah q;have j:=ah g;go_wp2_with fail
   refine a2.mono ?_;rintro e d ⟨b,rfl,v,l⟩;have L:=ah v;have x:=ah l;go_wp2
   first
    | exact⟨a,cap,c,b,rfl,m.out.below x.out,L.out.zA j.out.size,j.out.trans _⟩
    | (go_ret2;exact⟨a,cap,c,b,rfl,m.out.below x.out,L.out.zA j.out.size,j.out.trans (x.out.mono j.out.size)⟩)
structure pU(w:ω)(ka:Option Addr)(n:Nat)(ks:List (List Bool)):Prop where
 len:ks.length=n
 at_:∀ i,i<n->∃(g o:Nat) (a:Option Addr) (l c:Nat),ka=S ⟨g,o,O⟩/\w.cell? ⟨g,o+i,O⟩=S (.slice a l c)/\Bools w a l (ks.getD i [])/\l<=maxLen
theorem pU.below{w d:ω}{b:Option Addr}{n:Nat}{j:List (List Bool)}(h:pU w b n j)(k:β w w d):pU d b n j :=
 ⟨h.len,λi s=>by
  obtain⟨g,o,a,l,c,q,f,r,m⟩:=h.at_ i s
  exact⟨g,o,a,l,c,q,(k.cell  (ja2 _ _ f)).trans f,r.below k,m⟩⟩
def lM.from{w W f:ω}{d:Nat->DV}{t:DV}{e:Ending}(i:β w w W)(h:lM W d t e f):lM w d t e f:=by
 obtain⟨q,a⟩:=h;have c:=i.size;refine⟨i.trans (q.mono c),?_⟩;rcases a with a|⟨a,l,Y,m,n,r,j⟩
 .exact .inl a
 .exact .inr ⟨a,l,Y,m,n,λb e=>ja4 c (r b e),λg o k=>⟨ja4 c (j g o k).1,(j g o k).2⟩⟩
def lM.shape{w b:ω}{d:Nat->DV}{t:DV}{e:Ending}(h:lM w d t e b):∃(a:Option Addr) (c:υ),e=.returned (.tuple #[.pointer a,c])/\lM w d t (.returned (.tuple #[.pointer a,c])) b:=by
 have f:=h;rcases h.2 with⟨_,rfl⟩|⟨_,g,Y,rfl,_⟩
 .exact⟨_,_,rfl,f⟩
 .exact⟨_,_,rfl,f⟩
def H9{O m C n kc:Nat}{ka:Option Addr}{t:List (List Bool)}{Y:Yh}{y:YV}(w:ω)(h:aB w O Y y)(hY:YOk y C m)(hK:pU w ka n t) :
  κ prog 12 #[O,.slice ka n kc] w λe q=>lM w (y.left t) (jY y.top []) e q:=by
 obtain⟨i2,ac,ae,aa,af⟩:=info_parts EL;have ag:=ah h.Gm;have ai:Hid ((prog.info? 47).map (·.size)=some ([.pointer (some ⟨Y.dp y.s 0,0,none⟩),.pointer (some ⟨Y.dp y.s 1,0,none⟩),.pointer (some ⟨Y.dp y.s 2,0,none⟩),.pointer (some ⟨Y.dp y.s 3,0,none⟩),.pointer (some ⟨Y.dp y.s 4,0,none⟩)]:List υ).length):=Ij
 have ad:=ah λk (x:k<5) W=>EK (Y.dp y.s) k x W
 have ab:Hid (∀ W:ω,Bools W none 0 []):=λW=>⟨rfl,λi hi=>by cases hi⟩
 have R:Hid (∀(k:Nat) (W:ω) (a:Option Addr) (l c:Nat),k<5->β w w W->Bools W a l (t.getD k [])->l<=maxLen->κ prog 39 #[Y.dp y.s k,.slice a l c] W λe q=>∃ b:Hd,e=.returned b.p/\aO W.heap.size q b (y.left t k)/\β W W q):=λk W a l c x j hB hl=>by
  obtain⟨d1,d2,_⟩:=(h.below j).kP x;rw[<- d2];exact DT a l c (t.getD k []) W d1.toaO hB hl
 have a6:Hid (∀ W:ω,β w w W->W.cell? ⟨O,5,none⟩=some (Y.tp.p:υ)/\κ prog 39 #[Y.tp.p,.slice none 0 0] W λe q=>∃ b:Hd,e=.returned b.p/\aO W.heap.size q b (jY y.top [])/\β W W q):=λW j=>⟨(h.below j).blk.cells.2.1,DT none 0 0 [] W (h.below j).top.toaO (ab.out W) (ja6 _)⟩
 have az:=ah λk W (j:β w w W) (x:k<n)=>(hK.below j).at_ k x
 have an:Hid (∀ k:Nat,¬k<n->t.getD k []=[]):=λk x=>by rw[ja5,jaf (by have:=hK.len;omega)];rfl
 have N:Hid (∀(W A:ω) (a:Option Addr) (cap:Nat) (o:Nat->Hd) (E:Hd),β w w W->iZ W w.heap.size a 5 cap o (y.left t)->aO W.heap.size A E (jY y.top [])->β W W A->κ prog 18 #[.slice a 5 cap,E.p] A λe q=>∃(Z:Option Addr) (U:υ),e=.returned (.tuple #[.pointer Z,U])/\lM w (y.left t) (jY y.top []) (.returned (.tuple #[.pointer Z,U])) q):=λW A a cap o E j F ht f=>by
  obtain⟨g,rfl,_,hp,_⟩:=(F.below f).ptrs (by omega)
  have am:=j.trans (f.mono j.size);exact(Wj (m:=m) A hp (λi hi=>((F.below f).dev i hi).toG.noG) ht.toG.noG (λi=>sW (hY.dev i) _) (sW hY.top _)).mono λe q hO=>(hO.from am).shape
 generalize lM w (y.left t) (jY y.top [])=OP at N |-;generalize y.left t=D at R N;generalize jY y.top []=T at a6 N;generalize Y.dp y.s=P at ag ai ad R;generalize Y.tp.p=tp at a6;go_enter func12,ntmps12
 go_wp2_with (refine wpList_load_mid (by rfl) 47 (.tmp 12) (by rfl) O 0 (by rfl) [P 0,P 1,P 2,P 3,P 4] _ ag.out underlying47 rfl ai.out ?_)
 go_loopw [6,14] (λu i wr=>∃(k:Nat) (a:Option Addr) (cap:Nat) (o:Nat->Hd),k<=5/\i=.int .i64 (k:Int)/\u=.slice a k cap/\iZ wr w.heap.size a k cap o D/\β w w wr) (λ_ i _=>5-(intOf i).toNat)
 case atStart=>exact⟨0,none,0,λ_=>⟨0,0,0,0,0,.nilIface⟩,by omega,rfl,rfl,iZ.nil _ _ _ _,ja0 _ _⟩
 case round =>
  obtain⟨k,a,cap,o,x,rfl,rfl,F,j⟩:=hrel;by_cases a4:k<5
  .have f1:=ad.out k a4
   have B:=ah F;have Q:=ah j;by_cases a9:k<n
   .obtain⟨kg,ko,a1,l1,c1,rfl,ck,hB,ap⟩:=az.out k wr j a9
    have z:=ah (R.out k wr a1 l1 c1 a4 j hB ap);have k0:(0:Int)<=(k:Int):=by omega
    have k1:(k:Int)<(n:Int):=by omega
    have k2:((k:Int)).toNat=k:=by omega
    generalize P k=pk at f1 z;go_wp2_with fail
    refine z.out.mono ?_;rintro e d ⟨b,rfl,G,f⟩;have v:w.heap.size<=wr.heap.size:=Q.out.size;have a8:=ah G;have a2:=ah f;have a7:=ah (B.out.below f);have K:Hid ((d.alloc (.cells #[b.p] 46)).ownsRow w.heap.size 46 1 (.slice a k cap) k (nM o k)):=a7.out.row.alloc _;have M:Hid (w.heap.size<=(d.alloc (.cells #[b.p] 46)).heap.size):=by unfold Hid;have:=f.size;simp;omega
    have X:Hid (β w w (d.alloc (.cells #[b.p] 46))):=(Q.out.trans (f.mono v)).alloc (ja4 v f.size) _;have a5:Hid ((d.alloc (.cells #[b.p] 46)).heap.size=d.heap.size+1):=by unfold Hid;simp
    have V:Hid (∀ i y,([.pointer (some ⟨b.p,0,none⟩)]:List υ)[i]?=some y->(d.alloc (.cells #[b.p] 46)).cell? ((⟨d.heap.size,0,none⟩:Addr).add i)=some y):=cell_one_new _ _ _;go_wp2_with (at_builtin;refine wpList_append_lies _ (by rfl) _ _ 53 (by rfl) w.heap.size 46 i2 (.pointer none) 1 8 underlying53 ac ae aa af rfl (by decide) (.slice a k cap) k (nM o k) (by rfl) K.out ⟨d,0,none⟩ 1 1 [b.p] (by rfl) (by rfl) V.out (λu I=>by simp at I;subst I;rfl) (by decide) (by unfold maxLen;omega) (by omega) M.out (d.heap.size+1) a5.out ?_;intro g3 H J a3 L ar aq)
    have S:Hid (iZ J w.heap.size (some ⟨g3,0,none⟩) (k+1) H (setH o k b) D):=B.out.snoc v a2.out a8.out a3 L B.out.block;have a0:Hid (β w w J):=X.out.grown L M.out (λr e=>(K.out.lt r e).1)
    go_roundw
    case rel =>
     exact⟨k+1,some ⟨g3,0,none⟩,H,setH o k b,by omega,by go_num,rfl,S.out,a0.out⟩
    case measure=>simp[intOf];omega
   .have av:=an.out k a9
    have al:=ab.out wr;rw[<- av] at al;have z:=ah (R.out k wr none 0 0 a4 j al (ja6 _));generalize P k=pk at f1 z;go_wp2_with fail
    refine z.out.mono ?_;rintro e d ⟨b,rfl,G,f⟩;have v  := Q.out.size;have a8:=ah G;have a2:=ah f;have a7:=ah (B.out.below f);have K:Hid ((d.alloc (.cells #[b.p] 46)).ownsRow w.heap.size 46 1 (.slice a k cap) k (nM o k)):=a7.out.row.alloc _;have M:Hid (w.heap.size<=(d.alloc (.cells #[b.p] 46)).heap.size):=by unfold Hid;have:=f.size;simp;omega
    have X:Hid (β w w (d.alloc (.cells #[b.p] 46))):=(Q.out.trans (f.mono v)).alloc (ja4 v f.size) _;have a5:Hid ((d.alloc (.cells #[b.p] 46)).heap.size=d.heap.size+1):=by unfold Hid;simp
    have V:Hid (∀ i y,([.pointer (some ⟨b.p,0,none⟩)]:List υ)[i]?=some y->(d.alloc (.cells #[b.p] 46)).cell? ((⟨d.heap.size,0,none⟩:Addr).add i)=some y):=cell_one_new _ _ _;go_wp2_with (at_builtin;refine wpList_append_lies _ (by rfl) _ _ 53 (by rfl) w.heap.size 46 i2 (.pointer none) 1 8 underlying53 ac ae aa af rfl (by decide) (.slice a k cap) k (nM o k) (by rfl) K.out ⟨d,0,none⟩ 1 1 [b.p] (by rfl) (by rfl) V.out (λu I=>by simp at I;subst I;rfl) (by decide) (by unfold maxLen;omega) (by omega) M.out (d.heap.size+1) a5.out ?_;intro g3 H J a3 L ar aq)
    have S:Hid (iZ J w.heap.size (some ⟨g3,0,none⟩) (k+1) H (setH o k b) D):=B.out.snoc v a2.out a8.out a3 L B.out.block;have a0:Hid (β w w J):=X.out.grown L M.out (λr e=>(K.out.lt r e).1)
    go_roundw
    case rel =>
     exact⟨k+1,some ⟨g3,0,none⟩,H,setH o k b,by omega,by go_num,rfl,S.out,a0.out⟩
    case measure=>simp[intOf];omega
  .have ax:k=5:=by omega
   subst ax;obtain⟨c5,aw⟩:=a6.out wr j;have z:=ah aw;have HO:=ah (λA E=>N.out wr A a cap o E j F)
   go_wp2_with fail
   refine z.out.mono ?_;rintro e d ⟨b,rfl,G,f⟩;have ao:=ah (HO.out d b G f);go_wp2_with fail
   refine ao.out.mono ?_;rintro e w2 ⟨Z,U,rfl,hP⟩;have HP:=ah hP;go_wp2
   exact HP.out
structure DZ(w wr:ω)(N k:Nat)(T:TypeId)(c0:Array υ)(hs:Nat->Rh)(D:Nat->DV):Prop where
 blk:∃ cur,wr.heap[N]?=S (.cells cur T (0,0))/\cur.size=c0.size/\(∀ i,i<k->cur[i]?=S ((hs i).p:υ))/\∀ i,k<=i->cur[i]?=c0[i]?
 dev:∀ i,i<k->bZ Gd.no wr (hs i) (D i)
 past:∀ i,i<k->∀ b,(hs i).fp b->N<b
 apart:∀ i j,i<k->j<k->i≠j->∀ b,(hs i).fp b->¬(hs j).fp b
 bel:β w w wr
 new:w.heap.size<=N
def DZ.lt{w wr:ω}{N k:Nat}{T:TypeId}{d:Array υ}{b:Nat->Rh}{D:Nat->DV}(h:DZ w wr N k T d b D):N<wr.heap.size:=by
 obtain⟨c,a,_⟩:=h.blk;exact lt_of_some a
def DZ.below{w wr d:ω}{N k:Nat}{T:TypeId}{c:Array υ}{g:Nat->Rh}{D:Nat->DV}(h:DZ w wr N k T c g D)(a:β wr wr d):DZ w d N k T c g D :=
 ⟨by rw[a.block _ h.lt];exact h.blk,λi f=>(h.dev i f).keep λb e=>a.block b ((h.dev i f).lt b e).2,h.past,h.apart,h.bel.trans (a.mono h.bel.size),h.new⟩
def DZ.cell{w wr:ω}{N k:Nat}{T:TypeId}{f:Array υ}{d:Nat->Rh}{D:Nat->DV}(h:DZ w wr N k T f d D):(∀ i,i<k->wr.cell? ⟨N,i,O⟩=S ((d i).p:υ))/\(∀ i,k<=i->wr.cell? ⟨N,i,O⟩=f[i]?)/\∀ i,wr.frozen? ⟨N,i,O⟩=false:=by
 obtain⟨c,a,l,j,g⟩:=h.blk;exact⟨λi b=>(cell_of_row wr N i _ _ _ a).trans (j i b),λi b=>(cell_of_row wr N i _ _ _ a).trans (g i b),λi=>frozen_of_row wr N i _ _ a⟩
def DZ.start{w W:ω}{T:TypeId}{c:Array υ}{d:Nat->Rh}{D:Nat->DV}(b:β w w W):DZ w (W.alloc (.cells c T (0,0))) W.heap.size 0 T c d D :=
 ⟨⟨c,heap_alloc_new W _,rfl,λ_ a=>absurd a (jbc _),λ_ _=>rfl⟩,λ_ a=>absurd a (jbc _),λ_ a=>absurd a (jbc _),λ_ _ a=>absurd a (jbc _),b.alloc b.size _,b.size⟩
def DZ.step{w wr f:ω}{N k:Nat}{T:TypeId}{n:Array υ}{u:Nat->Rh}{D:Nat->DV}(h:DZ w wr N k T n u D)(C:k<n.size){q:Rh}(m:β wr wr f)(hd:dA wr.heap.size f q (D k)):DZ w (f.setCell ⟨N,k,O⟩ q.p) N (k+1) T n (kG u k q) D:=by
 have l:=h.below m;obtain⟨c,v,y,z,x⟩:=l.blk;have B:=h.lt;have s:∀ b,b≠N->(f.setCell ⟨N,k,O⟩ q.p).heap[b]?=f.heap[b]?:=λb m=>heap_setCell_other _ _ _ _ m
 refine⟨⟨_,heap_setCell_same f N k _ _ _ v,by simpa using y,λi g=>?_,λi g=>?_⟩,λi g=>?_,λi g b a=>?_,λi j g E t b a d=>?_,l.bel.setCell h.new _,h.new⟩
 .unfold kG
  by_cases e:i=k
  .simp_all
  .rw[if_neg e,ja3 (λA=>e A.symm)];exact z i (by omega)
 .rw[ja3 (by omega)];exact x i (by omega)
 .unfold kG
  by_cases e:i=k
  .rw[if_pos e,e]
   exact⟨hd.base0.keep λb a=>s b (by have:=(hd.lt b a).1;omega),λ_ _ e=>e⟩
  .rw[if_neg e]
   exact(l.dev i (by omega)).keep λb a=>s b (by have:=l.past i (by omega) b a;omega)
 .unfold kG at a
  by_cases e:i=k
  .rw[if_pos e] at a;have:=(hd.lt b a).1;omega
  .rw[if_neg e] at a;exact h.past i (by omega) b a
 .unfold kG at a d
  by_cases o:i=k
  .rw[if_pos o] at a
   rw[if_neg (λe=>t (by rw[o,e]))] at d
   have:=(hd.lt b a).1
   have:=((h.dev j (by omega)).lt b d).2
   omega
  .rw[if_neg o] at a
   by_cases r:j=k
   .rw[if_pos r] at d
    have:=(hd.lt b d).1
    have:=((h.dev i (by omega)).lt b a).2
    omega
   .rw[if_neg r] at d;exact h.apart i j (by omega) (by omega) t b a d
def rC(w:ω)(d:Nat->DV)(t:DV)(e:Ending)(b:ω):Prop:=β w w b /\
 ((jo d t≠0/\e=.returned (.tuple #[.pointer O,jo d t]))\/(jo d t=0/\∃(c:Nat) (Z:Zh),e=.returned (.tuple #[c,(0:Int)])/\aC b c Z (jF d t)/\(∀ k,fpZ c Z (jF d t) k->w.heap.size<=k)/\(∀ g o,Z.la=S ⟨g,o,O⟩->w.heap.size<=g/\g<b.heap.size)/\∀ g o,Z.jb.a=S ⟨g,o,O⟩->w.heap.size<=g/\g<b.heap.size))
def jV.fresh{w W f:ω}{j:Nat->Rh}{m:Rh}{d:Nat->DV}{t:DV}{e:Ending}(a:β w w W)(h:jV W j m d t e f)(y:∀ i,i<5->∀ b,(j i).fp b->w.heap.size<=b)(n:∀ b,m.fp b->w.heap.size<=b):rC w d t e f:=by
 obtain⟨g1,g2⟩:=h;refine⟨a.trans (g1.mono a.size),?_⟩;rcases g2 with g2|⟨q,s,Z,v,x,u,l,c⟩
 .exact .inl g2
 .refine .inr ⟨q,s,Z,v,x,λk e=>?_,λg o e=>⟨ja4 a.size (l g o e).1,(l g o e).2⟩,λg o e=>⟨ja4 a.size (c g o e).1,(c g o e).2⟩⟩
  rcases u k e with⟨i,r,e⟩|e|e
  .exact y i r k e
  .exact n k e
  .exact ja4 a.size e
def rC.shape{w c:ω}{d:Nat->DV}{t:DV}{e:Ending}(h:rC w d t e c):∃(b:Option Addr) (f:Int),e=.returned (.tuple #[.pointer b,f])/\rC w d t (.returned (.tuple #[.pointer b,f])) c:=by
 rcases h.2 with⟨_,a⟩|⟨_,g,Z,a,_⟩
 .exact⟨_,_,a,by simp_all⟩
 .exact⟨_,_,a,by simp_all⟩
def Js{H m C n kc:Nat}{ka:Option Addr}{r:List (List Bool)}{Z:Zh}{y:YV}(w:ω)(h:aC w H Z y)(L:YOk y C m)(hK:pU w ka n r) :
    κ prog 13 #[H,.slice ka n kc] w λe g=>rC w (y.left r) (jY y.top []) e g:=by
  have a4:Hid (∀ W:ω,Bools W none 0 []):=λW=>⟨rfl,λi G=>by cases G⟩
  have a8:=ah λk W (x:k<5) (o:β w w W)=>(h.below o).blk.cells.1 k x
  have M:Hid (∀(k:Nat) (W:ω) (a:Option Addr) (l c:Nat),k<5->β w w W->Bools W a l (r.getD k [])->l<=maxLen->κ prog 40 #[Z.dp y.s k,.slice a l c] W λe g=>∃ q:Rh,e=.returned q.p/\dA W.heap.size g q (y.left r k)/\β W W g):=λk W a l c x o hB hl=>by
    obtain⟨d1,d2,_⟩:=(h.below o).kP x;rw[<- d2];exact Gs a l c (r.getD k []) W d1.todA (L.dev k).ok hB hl
  have O:Hid (∀ W:ω,β w w W->W.cell? ⟨H,5,none⟩=some (Z.tp.p:υ)/\κ prog 40 #[Z.tp.p,.slice none 0 0] W λe g=>∃ q:Rh,e=.returned q.p/\dA W.heap.size g q (jY y.top [])/\β W W g):=λW o=>⟨(h.below o).blk.cells.2.1,Gs none 0 0 [] W (h.below o).top.todA L.top.ok (a4.out W) (ja6 _)⟩
  have ad:=ah λk W (o:β w w W) (x:k<n)=>(hK.below o).at_ k x
  have aa:Hid (∀ k:Nat,¬k<n->r.getD k []=[]):=λk x=>by rw[ja5,jaf (by have:=hK.len;omega)];rfl
  have J:Hid (∀(W z:ω) (N:Nat) (c0:Array υ) (d:Nat->Rh) (R:Rh),DZ w W N 5 49 c0 d (y.left r)->dA W.heap.size z R (jY y.top [])->β W W z->κ prog 19 #[.agg #[(d 0).p,(d 1).p,(d 2).p,(d 3).p,(d 4).p],R.p] z λe g=>∃(B:Option Addr) (f:Int),e=.returned (.tuple #[.pointer B,f])/\rC w (y.left r) (jY y.top []) (.returned (.tuple #[.pointer B,f])) g/\β z z g):=λW z N c0 d R F Q j=>by
    have a0:=F.below j
    refine(WZ (m:=m) z a0.dev Q.toG.noG a0.apart (λi G k e1 e2=>?_) (λi=>sW (L.dev i) _) (sW L.top _)).mono λe g hO=>by
      obtain⟨B,f,q1,q2⟩:=(hO.fresh a0.bel (λi G b e=>by have:=F.past i G b e;have:=F.new;omega) (λb e=>by have:=(Q.lt b e).1;have:=F.bel.size;omega)).shape
      exact⟨B,f,q1,q2,hO.1⟩
    have:=(Q.lt k e1).1
    have:=((F.dev i G).lt k e2).2
    omega
  generalize rC w (y.left r) (jY y.top [])=OP at J |-;generalize y.left r=D at M J;generalize jY y.top []=T at O J;generalize Z.dp y.s=P at a8 M;generalize Z.tp.p=tp at O;have ag:Hid (∃ d,DZ w (w.alloc (.cells #[.pointer none,.pointer none,.pointer none,.pointer none,.pointer none] 49)) w.heap.size 0 49 #[.pointer none,.pointer none,.pointer none,.pointer none,.pointer none] d D):=⟨λ_=>⟨0,0,0,.nilIface,.nilIface⟩,DZ.start (ja0 _ _)⟩
  go_enter func13,ntmps13
  go_wp2
  go_loopw [7,8] (λi u wr=>∃(k:Nat) (d:Nat->Rh),k<=5/\i=.int .i64 (k:Int)/\DZ w wr w.heap.size k 49 #[.pointer none,.pointer none,.pointer none,.pointer none,.pointer none] d D) (λi _ _=>5-(intOf i).toNat)
  case atStart =>
    obtain⟨d,h0⟩:=ag.out;exact⟨0,d,by omega,rfl,h0⟩
  case round =>
    obtain⟨k,d,x,rfl,E⟩:=hrel;by_cases t:k<5
    . have I:=ah E
      have Y:=ah E.bel;have k0:(0:Int)<=(k:Int):=by omega
      have k5:(k:Int)<5:=by omega
      have al:=a8.out k wr t E.bel;by_cases a3:k<n
      . obtain⟨kg,ko,a1,l1,c1,rfl,ck,hB,ab⟩:=ad.out k wr Y.out a3
        have HC:=ah (M.out k wr a1 l1 c1 t Y.out hB ab);have k1:(k:Int)<(n:Int):=by omega
        go_wp2_with fail
        refine HC.out.mono ?_;rintro e K ⟨q,rfl,A,j⟩;have af:=ah (I.out.step (by exact t) j A)
        obtain⟨_,S,qf⟩:=(I.out.below j).cell;have V:∃ v,K.cell? ⟨w.heap.size,k,none⟩=some v:=⟨_,(S k (ja1 _)).trans (jbd (show k<5 from t))⟩
        obtain⟨v1,ae⟩:=V;go_wp2
        go_roundw
        case rel =>
          exact⟨k+1,_,by omega,by go_num,af.out⟩
        case measure=>simp[intOf];omega
      . go_wp2_with fail
        refine(M.out k wr none 0 0 t Y.out (by rw[aa.out k a3];exact a4.out _) (ja6 _)).mono ?_
        rintro e K ⟨q,rfl,A,j⟩;obtain⟨_,S,qf⟩:=(I.out.below j).cell;have V:∃ v,K.cell? ⟨w.heap.size,k,none⟩=some v:=⟨_,(S k (ja1 _)).trans (jbd (show k<5 from t))⟩
        obtain⟨v1,ae⟩:=V;go_wp2
        go_roundw
        case rel =>
          exact⟨k+1,_,by omega,by go_num,(I.out.step (by exact t) j A)⟩
        case measure=>simp[intOf];omega
    . have e5:k=5:=by omega
      subst e5;have X:β wr wr wr.drew:=(ja0 _ _).drew;have a5:=E.below X;obtain⟨t5,ac⟩:=O.out wr.drew a5.bel
      have a2:Hid (∀ W:ω,β wr wr W->W.cell? ⟨H,5,none⟩=some (tp:υ)/\W.cell? ⟨w,0,none⟩=some ((d 0).p:υ)/\W.cell? ⟨w,1,none⟩=some ((d 1).p:υ)/\W.cell? ⟨w,2,none⟩=some ((d 2).p:υ)/\W.cell? ⟨w,3,none⟩=some ((d 3).p:υ)/\W.cell? ⟨w,4,none⟩=some ((d 4).p:υ)):=λW o=>by
        have h1:=E.below o;obtain⟨c,_⟩:=h1.cell;exact⟨(O.out W h1.bel).1,c 0 (by omega),c 1 (by omega),c 2 (by omega),c 3 (by omega),c 4 (by omega)⟩
      have a7:=ah X;go_wp2
      go_region_held3 (λW=>W.cell? ⟨H,5,none⟩=some (tp:υ)/\W.cell? ⟨w,0,none⟩=some ((d 0).p:υ)/\W.cell? ⟨w,1,none⟩=some ((d 1).p:υ)/\W.cell? ⟨w,2,none⟩=some ((d 2).p:υ)/\W.cell? ⟨w,3,none⟩=some ((d 3).p:υ)/\W.cell? ⟨w,4,none⟩=some ((d 4).p:υ))
        (first|(exact(a2.out _ X))|assumption)
        (first
          | (go_at_call 40;refine ac.mono ?_;rintro e K ⟨q,rfl,A,j⟩;have HO:=ah (J.out _ _ _ _ _ _ a5 A j);have U:=ah (a7.out.trans (j.mono a7.out.size));have am:=a2.out _ U.out;clear A j)
          | (go_at_call 19;refine HO.out.mono ?_;rintro e w2 ⟨B,f,rfl,a6,a9⟩;have HQ:=ah a6;have ai:=a2.out _ (U.out.trans (a9.mono U.out.size));clear a6 a9))
      go_wp2
      exact HQ.out
def wE(n:Nat):YV:=⟨λ_=>ig n,ig 1,λ_=>O,aj 0,[0],O⟩
def newC(a sp lb:Nat):Array Value := #[.pointer O,.pointer O,.pointer O,.pointer O,.pointer O,a,sp,(0:Int),(0:Int),(-1:Int),(0:Int),(0:Int),.slice (S ⟨lb,0,O⟩) 1 1,.pointer O]
structure NZ(w W:ω)(sp lb:Nat)(th:Rh):Prop where
 bel:β w w W
 shf:W.heap[sp]?=S mF
 lst:W.heap[lb]?=S (.cells #[(0:Int)] 3 (0,0))
 top:bZ Gd.no W th (ig 1)
 pst:∀ b,th.fp b->w.heap.size<=b/\lb<b/\sp<b
 new:w.heap.size<=sp/\w.heap.size<=lb
def NZ.dM{w W wr:ω}{sp lb n:Nat}{f:Rh}{q:Nat->Rh}(h:NZ w W sp lb f)(hd:DZ W wr W.heap.size 5 92 (newC f.p sp lb) q (λ_=>ig n)) :
  aC wr W.heap.size ⟨q,f,λ_=>⟨0,f,.slice O 0 0,.slice O 0 0⟩,sp,S ⟨lb,0,O⟩,1,⟨0,O,0⟩⟩ (wE n)/\(∀ k,fpZ W.heap.size ⟨q,f,λ_=>⟨0,f,.slice O 0 0,.slice O 0 0⟩,sp,S ⟨lb,0,O⟩,1,⟨0,O,0⟩⟩ (wE n) k->w.heap.size<=k)/\β w w wr:=by
 have t:=lt_of_some h.shf;have s:=lt_of_some h.lst;have d:=hd.bel;have B:=h.bel.size;obtain⟨c,u,G,x,b⟩:=hd.blk;have l  := (d.block _ s).trans h.lst;refine⟨⟨⟨c,u,λi a=>x i a,b 5 (by omega),b 6 (by omega),b 7 (by omega),b 8 (by omega),b 9 (by omega),b 10 (by omega),b 11 (by omega),b 12 (by omega),b 13 (by omega)⟩,(d.block _ t).trans h.shf,λi v a D=>(by cases D),λi a _=>hd.dev i a,h.top.keep λk e=>d.block k (h.top.lt k e).2,λi j a E y k r m=>hd.apart i j a E y k r m,λi a k r m=>?_,⟨λk z=>?_,λg o e=>?_,λg o e C=>?_⟩,λj e=>(by cases e)⟩,λk e=>?_,h.bel.trans (d.mono B)⟩
 .have F:=hd.past i a k m
  have q2:=(h.top.lt k r).2;omega
 .have A:k=0:=by have:k<1:=z;omega
  subst A;exact⟨lb,0,rfl,by rw[cell_of_row _ _ _ _ _ _ l];rfl⟩
 .cases e;exact ja9 s d.size
 .cases e
  rcases C with e|e|⟨i,a,e⟩|e|e
  .omega
  .rw[e] at l
   rw[(d.block _ t).trans h.shf] at l;unfold mF at l;simp at l
  .have:=hd.past i a _ e
   omega
  .have:=(h.pst _ e).2.1;omega
  .exact absurd rfl e.1
 .rcases e with e|e|⟨i,a,e⟩|e|e
  .omega
  .have m:k=sp:=e
   have:=h.new.1
   omega
  .have:=hd.past i a _ e
   omega
  .exact(h.pst _ e).1
  .exact absurd rfl e.1
