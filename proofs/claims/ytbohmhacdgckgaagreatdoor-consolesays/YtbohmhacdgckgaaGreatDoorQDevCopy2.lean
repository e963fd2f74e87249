/- A part. -/
import Derived.Test.YtbohmhacdgckgaaGreatDoorQJobP6
set_option linter.all false
set_option maxHeartbeats 2000000
set_option maxRecDepth 100000
namespace Go.Proofs.YtbohmhacdgckgaaGreatDoor
open Go.RowKit renaming Below->β, Hid->χ
open Go renaming World->ω, Value->υ, Calls->κ
open Option renaming none->O, some->S
open Go.Proofs.Tryz Go.RowKit Go.Maps
attribute [local go_sem ↓] Go.wp_at_zero Go.wp_at_succ
def U6(l i)(h:i<l.length):(lN l)[i*4]?=S (.int .i64 (l[i].c:Int))/\(lN l)[i*4+1]?=S (.int .i64 (l[i].f:Int))/\(lN l)[i*4+2]?=S (.int .i64 (l[i].n:Int))/\(lN l)[i*4+3]?=S (.int .i64 (l[i].a:Int)):=by
 induction l generalizing i with
 | nil=>cases h
 | cons p l b =>
  have e:lN (p::l)=.int .i64 (p.c:Int)::.int .i64 (p.f:Int)::.int .i64 (p.n:Int)::.int .i64 (p.a:Int)::lN l:=rfl
  cases i with
  | zero=>simp_all
  | succ i =>
   have:=b i (by simpa using h)
   rw[show(i+1)*4=i*4+1+1+1+1 by omega];simp_all
structure sS(w:ω)(g cap:Nat)(P:List Pt):Prop where
 own:w.ownsRow 0 224 4 (.slice (S ⟨g,0,O⟩) P.length cap) P.length (lN P)
def sS.cells{w g cap P}(h:sS w g cap P){i}(j:i<P.length) :
  w.cell? ⟨g,i*4,O⟩=S (.int .i64 (P[i].c:Int))/\w.cell? ⟨g,i*4+1,O⟩=S (.int .i64 (P[i].f:Int))/\w.cell? ⟨g,i*4+2,O⟩=S (.int .i64 (P[i].n:Int))/\w.cell? ⟨g,i*4+3,O⟩=S (.int .i64 (P[i].a:Int)):=by
 obtain⟨k,d,b,l⟩:=U6 P i j;refine⟨?_,?_,?_,?_⟩
 .rw[h.own.cellAt _ (by omega)];exact k
 .rw[h.own.cellAt _ (by omega)];exact d
 .rw[h.own.cellAt _ (by omega)];exact b
 .rw[h.own.cellAt _ (by omega)];exact l
def Dk{w:ω}{B n cap a P}(b:w.ownsRow B 224 4 (.slice a n cap) n (lN P))(d:P.length=n)(f:0<n):∃ g,a=S ⟨g,0,O⟩/\B<=g/\g<w/\sS w g cap P:=by
 obtain⟨g,c2,c,i,j⟩:=b.form f;injection c with e1 e2 e3;subst e1;subst d;exact⟨g,rfl,i,j,⟨ownsRow_base b (ja7 _)⟩⟩
structure nJ(w1:ω)(sp:Nat)(xs:Nat->Ih)(s:SV)(m:Nat)(C:Int)(l:List Int)(op:SV->Pt->SV × Int)(P:List Pt)(R:SV × Int)(i:Nat)(ys:Nat->Ih)(z:SV)(wr:ω):Prop where
 shelf:bH wr sp ys z (m+10*i)
 good:z.good C l
 go:kC op z (P.drop i)=R
 moved:Moved (fpS xs s) w1 (fpS ys z) wr
def nJ.step{c wr W g sp m i d f s z C l a P R e}(h:nJ c sp d s m C l a P R i f z wr)(o:β wr wr W)(r:i<P.length)(t:∀(s:SV) p,s.good C l->(a s p).1.good C l)(hd:dA W sp f z (m+10*i+10) (a z P[i]) e g)(k:(a z P[i]).2=0) :
  ∃ b q,nJ c sp d s m C l a P R (i+1) b q g:=by
 obtain⟨b,u,j,n⟩:=hd;refine⟨b,(a z P[i]).1,⟨by exact j,t _ _ h.good,?_,h.moved.trans ((Moved.of_below o).trans n)⟩⟩;have:=h.go
 rw[FM r,qW,if_pos k] at *
 exact this
def nJ.stop{b wr W f sp m i M c d s z C l a P R e}(h:nJ b sp c s m C l a P R i d z wr)(q:β wr wr W)(r:i<P.length)(k:m+10*i+10<=M)(hd:dA W sp d z (m+10*i+10) (a z P[i]) e f)(n:(a z P[i]).2≠0) :
  R=a z P[i]/\dA b sp c s M R e f:=by
 have t:R=a z P[i]:=by
  have:=h.go
  rw[FM r,qW,if_neg n] at *
  simp_all
 obtain⟨g,u,j,o⟩:=hd;rw[t];exact⟨rfl,g,u,j.more k,h.moved.trans ((Moved.of_below q).trans o)⟩
def nJ.fin{a wr sp m M b c s z C l j P R i}(h:nJ a sp b s m C l j P R i c z wr)(g:i=P.length)(f:m+10*i<=M):dA a sp b s M R (.returned .nilIface) wr:=by
 have d:=h.go;rw[g,jc1] at d;rw[d.symm,<- aJ];exact⟨c,rfl,h.shelf.more f,h.moved⟩
def OD{sp m cap C:Nat}{j s a}(l)(fr n:Int)(w)(h:bH w sp j s m)(V:Nums w a l)(B:s.good (C:Int) l)(h5:l.length<=100)(hC:C<=40)(ha:Apart a (fpS j s))(hm:m+3000<1000000000)(al : -9223372036854775808<=fr/\fr<=9223372036854775807) :
  κ prog 117 #[.pointer (S ⟨sp,6,O⟩),.slice a l.length cap,fr,n] w (dA w sp j s (m+2000) (s.wipe l fr n)):=by
 have J:=ah (check_any (cap:=cap) l fr n w h V B (by omega) al);by_cases D:s.aT l fr n=0
 .obtain⟨A,n0,n1,n2⟩:=SV.mD B D;obtain⟨f,rfl⟩:∃ f:Nat,fr=(f:Int):=⟨fr.toNat,by omega⟩;obtain⟨k,rfl⟩:∃ k:Nat,n=(k:Int):=⟨n.toNat,by omega⟩;have L:χ (s.wipe l (f:Int) (k:Int)=kC (SV.dM l) s (aW f k 0)):=by unfold χ SV.wipe;rw[if_pos D];rfl
  rw[D,aJ] at J;have aw:=ah (λW=>Dj f k W (by omega));have aa:χ (∀ p∈aW f k 0,p.fits f k C):=wP (by omega) k 0 (by omega);have ar:=rJ f k k 0 (by omega);generalize aW f k 0=P at *
  generalize s.wipe l (f:Int) (k:Int)=R at *
  have ab:χ (∀(s:SV) p,s.good (C:Int) l->(SV.dM l s p).1.good (C:Int) l):=λs p B=>B.dM l p
  have az:χ (∀(W b wr:ω) (u:Nat->Ih) (z:SV) (i:Nat) (v:i<P.length),β w w b->nJ b sp j s m (C:Int) l (SV.dM l) P R i u z wr->β wr wr W ->
    κ prog 184 #[.pointer (S ⟨sp,6,O⟩),.slice a l.length cap,.agg #[(P[i].c:Int),(P[i].f:Int),(P[i].n:Int),(P[i].a:Int)]] W (dA W sp u z (m+10*i+10) (SV.dM l z P[i]))):=λW b wr u z i v Q t d=>by
   have a0:=aa P[i] (jad v);have ae  := ((V.below Q).moved t.moved (λg o e=>ha g o e)).below d
   cases l with
   | nil=>exact absurd rfl A
   | cons x r=>exact Ze x r P[i].c P[i].f P[i].n P[i].a W (t.shelf.below d) ae t.good h5 (by omega) a0.n4 (by have:=a0.c;omega)
  have aE:χ (∀ b:ω,β w w b->nJ b sp j s m (C:Int) l (SV.dM l) P R 0 j s b):=λb d=>⟨h.below d,B,L.symm,Moved.refl _ _⟩
  have av:χ (∀ k,w.heap.size<=k->¬fpS j s k):=λk hk hs=>by have:=h.iH hs;omega
  have a1:=ah λb w' R e (d:β w w b) (hd:dA b sp j s (m+2000) R e w')=>hd.from d
  generalize hq:l.length=q at *
  go_enter func117,ntmps117;go_wp2_with fail;refine cHd J λwA I=>?_
  go_wp2_with fail;refine(aw wA).mono ?_;rintro e b ⟨pa,U,rfl,aL,Q⟩;have G:=ah (I.trans (Q.mono I.size));have X:χ (b.ownsRow w.heap.size 224 4 (.slice pa P.length U) P.length (lN P)):=ownsRow_base aL I.size;have a6:=ah (aE b G);have a5:χ ((P.length:Int)<=1000):=by unfold χ;omega
  generalize ax:P.length=N at ar a5 X |-;have H:=ah ax;go_wp2;go_loopw [25] (λi wr=>∃(k:Nat) (u:Nat->Ih) (z:SV),k<=N/\i=.int .i64 (k:Int)/\nJ b sp j s m (C:Int) l (SV.dM l) P R k u z wr) (λi _=>N-(intOf i).toNat)
  case atStart=>exact⟨0,j,s,ja7 _,rfl,a6⟩
  case round =>
   obtain⟨i,u,z,b2,rfl,t⟩:=hrel;by_cases ag:i<N
   .have v:i<P.length:=by rw[H.out];exact ag
    obtain⟨g,rfl,aD,ad,aq⟩:=Dk X H (by omega);have ao  := t.moved.block ad (av g aD)
    have a4:sS wr g U P:=⟨bg aq.own λr e=>by
     have:g=r:=by simpa [Value.ownBlock] using e
     subst this;exact ao⟩
    obtain⟨c0,c1,c2,c3⟩:=a4.cells v;have a7:=ah (λW d=>az W b wr u z i v G t d);have b1:=ah v;have am:=ah λW e y (d:β wr wr W) (hd:dA W sp u z (m+10*i+10) (SV.dM l z P[i]) e y) (A:(SV.dM l z P[i]).2=0)=>t.step d v ab hd A
    have a9:χ (∀ W e y,β wr wr W->dA W sp u z (m+10*i+10) (SV.dM l z P[i]) e y->(SV.dM l z P[i]).2≠0->R=SV.dM l z P[i]/\dA b sp j s (m+2000) R e y):=λW e y d hd A=>t.stop d v (by omega) hd A
    generalize aM:P[i]=p at *
    generalize SV.dM l z p=Z at *
    obtain⟨pc,pf,pn,pp⟩:=p;simp only at *
    have k0:(0:Int)<=(i:Int):=by omega
    have k1:(i:Int)<(N:Int):=by omega
    have k2:((i:Int)).toNat=i:=by omega
    have K:χ (β wr wr (wr.alloc (.cells #[(pc:Int),(pf:Int),(pn:Int),(pp:Int)] 224))):=(ja0 _ _).alloc (ja1 _) _;go_wp2_with fail;refine(a7 _ K).mono ?_;rintro e y hd;have a2:=hd;obtain⟨aR,rfl,_⟩:=a2;by_cases E:Z.2=0
    .obtain⟨ai,z2,a8⟩:=am _ _ _ K hd E;have ac:=ah a8;rw[E,aJ];go_wp2;go_roundw
     case rel =>
      exact⟨i+1,ai,z2,by omega,by go_num,ac⟩
     case measure=>simp[intOf];omega
    .obtain⟨b0,ap⟩:=a9 _ _ _ K hd E;have af:=ah (a1 _ _ _ _ G ap);rw[bC E] at *
     go_wp2;go_ret;exact af
   .have Y:i=N:=by omega
    have T:=ah (a1 _ _ _ _ G (t.fin (Y.trans H.symm) (M:=m+2000) (by omega)));subst Y;go_wp2;go_ret;exact T
 .have L:χ (s.wipe l fr n=(s,s.aT l fr n)):=by unfold χ SV.wipe;rw[if_neg D]
  have a3:χ (∀ W:ω,β w w W->dA w sp j s (m+2000) (s,s.aT l fr n) (.returned (erV (s.aT l fr n))) W):=λW d=>dA.same (h.more (by omega)) d
  rw[L.out];rw[bC D] at *
  generalize s.aT l fr n=F at *
  generalize l.length=q at *
  go_enter func117,ntmps117;go_wp2_with fail;refine cEq J λwA an=>?_
  have T:=ah (a3 _ an);go_wp2;go_ret;exact T
def Om{sp m cap C:Nat}{u s a}(l)(fr:Int)(t:ByteArray)(w)(h:bH w sp u s m)(T:Nums w a l)(E:s.good (C:Int) l)(h5:l.length<=100)(hC:C<=40)(ha:Apart a (fpS u s))(hm:m+3000<1000000000)(bc : -9223372036854775808<=fr/\fr<=9223372036854775807)(ht:t.size<=10000) :
  κ prog 91 #[.pointer (S ⟨sp,6,O⟩),.slice a l.length cap,fr,t] w (dA w sp u s (m+2000) (s.put l fr t)):=by
 by_cases L:t.size % 16=0
 .have bd:((t.size:Int) % 16 != 0)=false:=by simp;omega
  obtain⟨k,hk⟩:∃ k:Nat,t.size=k*16:=⟨t.size / 16,by omega⟩;have bk:(t.size:Int) / 16=(k:Int):=by omega
  have a1:t.size / 16=k:=by omega
  have Q:=ah (check_any (cap:=cap) l fr (k:Int) w h T E (by omega) bc);by_cases J:s.aT l fr (k:Int)=0
  .obtain⟨V,n0,n1,n2⟩:=SV.mD E J;obtain⟨f,rfl⟩:∃ f:Nat,fr=(f:Int):=⟨fr.toNat,by omega⟩;have I:χ (s.put l (f:Int) t=kC (SV.iI l t) s (aW f k 0)):=by unfold χ SV.put;rw[if_pos L,a1,if_pos J];rfl
   rw[J,aJ] at Q;have aD:=ah (λW=>Dj f k W (by omega));have a8:χ (∀ p∈aW f k 0,p.fits f k C):=wP (by omega) k 0 (by omega);have be:=rJ f k k 0 (by omega);generalize aW f k 0=P at *
   generalize s.put l (f:Int) t=R at *
   have b5:χ (∀(s:SV) p,s.good (C:Int) l->(SV.iI l t s p).1.good (C:Int) l):=λs p E=>E.iI l t p
   have aL:χ (∀(W b wr:ω) (y:Nat->Ih) (z:SV) (i:Nat) (v:i<P.length),β w w b->nJ b sp u s m (C:Int) l (SV.iI l t) P R i y z wr->β wr wr W ->
     κ prog 168 #[.pointer (S ⟨sp,6,O⟩),.slice a l.length cap,.agg #[(P[i].c:Int),(P[i].f:Int),(P[i].n:Int),(P[i].a:Int)],.string (fH t P[i].a P[i].n)] W (dA W sp y z (m+10*i+10) (SV.iI l t z P[i]))):=λW b wr y z i v a4 j d=>by
    have a9:=a8 P[i] (jad v);have b7:Nums W a l:=((T.below a4).moved j.moved (λg o e=>ha g o e)).below d;have b2:(fH t P[i].a P[i].n).size=P[i].n*16:=uh (by have:=a9.an;omega)
    cases l with
    | nil=>exact absurd rfl V
    | cons x r=>exact Ji x r P[i].c P[i].f P[i].n P[i].a _ W (j.shelf.below d) b7 j.good h5 (by omega) a9.n4 (by have:=a9.c;omega) b2
   have ax:χ (∀(i:Nat) (v:i<P.length) (W:ω),κ prog 169 #[t,(P[i].a:Int),(P[i].n:Int)] W λe w'=>e=.returned (.string (fH t P[i].a P[i].n))/\w'=W):=λi v W=>DN t P[i].a P[i].n W (by have:=(a8 P[i] (jad v)).an;omega) (by omega)
   have aa:χ (∀ b:ω,β w w b->nJ b sp u s m (C:Int) l (SV.iI l t) P R 0 u s b):=λb d=>⟨h.below d,E,I.symm,Moved.refl _ _⟩
   have bf:χ (∀ k,w.heap.size<=k->¬fpS u s k):=λk hk hs=>by have:=h.iH hs;omega
   have aq:=ah λb w' R e (d:β w w b) (hd:dA b sp u s (m+2000) R e w')=>hd.from d
   generalize hq:l.length=q at *
   clear h T E ha J hq a8 L hk a1;go_enter func91,ntmps91;go_wp2_with fail;refine cHd Q λwA a6=>?_
   clear Q;go_wp2_with fail;refine(aD wA).mono ?_;rintro e b ⟨pa,ag,rfl,av,a4⟩;have a0:=ah (a6.trans (a4.mono a6.size));have ai:χ (b.ownsRow w.heap.size 224 4 (.slice pa P.length ag) P.length (lN P)):=ownsRow_base av a6.size;have b1:=ah (aa b a0);clear av a4 aD aa;have b0:χ ((P.length:Int)<=1000):=by unfold χ;omega
   generalize aE:P.length=N at be b0 ai |-;have a5:=ah aE;clear aE;go_wp2;go_loopw [34] (λi wr=>∃(k:Nat) (y:Nat->Ih) (z:SV),k<=N/\i=.int .i64 (k:Int)/\nJ b sp u s m (C:Int) l (SV.iI l t) P R k y z wr) (λi _=>N-(intOf i).toNat)
   case atStart=>exact⟨0,u,s,ja7 _,rfl,b1⟩
   case round =>
    obtain⟨i,y,z,bm,rfl,j⟩:=hrel;by_cases b8:i<N
    .have v:i<P.length:=by rw[a5.out];exact b8
     obtain⟨g,rfl,bh,am,az⟩:=Dk ai a5 (by omega);have ar:wr.heap[g]?=b.heap[g]?:=j.moved.block am (bf g bh)
     have ac:sS wr g ag P:=⟨bg az.own λr e=>by
      have:g=r:=by simpa [Value.ownBlock] using e
      subst this;exact ar⟩
     obtain⟨c0,c1,c2,c3⟩:=ac.cells v;have ad:=ah (λW d=>aL W b wr y z i v a0 j d);have b4:=ah (ax i v);have HP:=ah j;have bb:=ah λW e A (d:β wr wr W) (hd:dA W sp y z (m+10*i+10) (SV.iI l t z P[i]) e A) (V:(SV.iI l t z P[i]).2=0)=>j.step d v b5 hd V
     have b3:χ (∀ W e A,β wr wr W->dA W sp y z (m+10*i+10) (SV.iI l t z P[i]) e A->(SV.iI l t z P[i]).2≠0->R=SV.iI l t z P[i]/\dA b sp u s (m+2000) R e A):=λW e A d hd V=>j.stop d v (by omega) hd V
     have a3:χ (¬fpS y z wr.heap.size):=λhs=>by have:=j.shelf.iH hs;omega
     have bi:g<wr.heap.size:=ja8 am j.moved.size;clear ac az ar j aL ax;generalize aR:P[i]=p at *
     clear aR v;generalize SV.iI l t z p=Z at *
     obtain⟨K,G,B,D⟩:=p;simp only at *
     generalize fH t D B=ST at *
     have k0:(0:Int)<=(i:Int):=by omega
     have k1:(i:Int)<(N:Int):=by omega
     have k2:((i:Int)).toNat=i:=by omega
     have a7:χ (β wr wr (wr.alloc (.cells #[(K:Int),(G:Int),(B:Int),(D:Int)] 224)).drew):=((ja0 _ _).alloc (ja1 _) _).drew;have HX:χ ((wr.alloc (.cells #[(K:Int),(G:Int),(B:Int),(D:Int)] 224)).heap[wr.heap.size]?=S (.cells #[(K:Int),(G:Int),(B:Int),(D:Int)] 224 (0,0))):=heap_alloc_new _ _;go_wp2;generalize wr.alloc (.cells #[(K:Int),(G:Int),(B:Int),(D:Int)] 224)=Y at *
     have y0:Y.drew.cell? ⟨wr,0,O⟩=S (.int .i64 (K:Int)):=by rw[jbD,cell_of_row _ _ _ _ _ _ HX.out];rfl
     have y1:Y.drew.cell? ⟨wr,1,O⟩=S (.int .i64 (G:Int)):=by rw[jbD,cell_of_row _ _ _ _ _ _ HX.out];rfl
     have y2:Y.drew.cell? ⟨wr,2,O⟩=S (.int .i64 (B:Int)):=by rw[jbD,cell_of_row _ _ _ _ _ _ HX.out];rfl
     have y3:Y.drew.cell? ⟨wr,3,O⟩=S (.int .i64 (D:Int)):=by rw[jbD,cell_of_row _ _ _ _ _ _ HX.out];rfl
     have a2:wr.heap.size<Y.drew.heap.size:=ja2 _ _ y0;have ae:=ah (ad _ a7);clear c0 c1 c2 c3 ad
     go_region_held3 (λW=>W.cell? ⟨wr,0,O⟩=S (.int .i64 (K:Int))/\W.cell? ⟨wr,1,O⟩=S (.int .i64 (G:Int))/\W.cell? ⟨wr,2,O⟩=S (.int .i64 (B:Int))/\W.cell? ⟨wr,3,O⟩=S (.int .i64 (D:Int)))
      (first|(exact⟨y0,y1,y2,y3⟩)|assumption)
      (first
        | (go_at_call 169;refine cEq (b4 _) λw' rfl=>?_)
        | (go_at_call 168;refine ae.mono ?_;rintro e A hd;have aM:=hd;obtain⟨bj,rfl,h2,U⟩:=aM;have ba:A.cell? ⟨wr,0,O⟩=S (.int .i64 (K:Int))/\A.cell? ⟨wr,1,O⟩=S (.int .i64 (G:Int))/\A.cell? ⟨wr,2,O⟩=S (.int .i64 (B:Int))/\A.cell? ⟨wr,3,O⟩=S (.int .i64 (D:Int)):=⟨(U.cell (p:=⟨wr.heap.size,0,O⟩) a2 a3).trans y0,(U.cell (p:=⟨wr.heap.size,1,O⟩) a2 a3).trans y1,(U.cell (p:=⟨wr.heap.size,2,O⟩) a2 a3).trans y2,(U.cell (p:=⟨wr.heap.size,3,O⟩) a2 a3).trans y3⟩;clear h2 U))
     clear ba y0 y1 y2 y3 ae;by_cases H:Z.2=0
     .obtain⟨b9,z2,af⟩:=bb _ _ _ a7 hd H;have b6:=ah af;rw[H,aJ];clear hd af H;go_wp2;go_roundw
      case rel =>
        exact⟨i+1,b9,z2,by omega,by go_num,b6⟩
      case measure=>simp[intOf];omega
     .obtain⟨bl,aw⟩:=b3 _ _ _ a7 hd H;have ao:=ah (aq _ _ _ _ a0 aw);have HE:=ah (bC H);rw[bC H] at ao |-;clear hd aw H;go_wp2;go_ret;exact ao
    .have al:i=N:=by omega
     have X:=ah (aq _ _ _ _ a0 (j.fin (al.trans a5.symm) (M:=m+2000) (by omega)));subst al;clear j;go_wp2;go_ret;exact X
  .have I:χ (s.put l fr t=(s,s.aT l fr (k:Int))):=by unfold χ SV.put;rw[if_pos L,a1,if_neg J]
   have ab:χ (∀ W:ω,β w w W->dA w sp u s (m+2000) (s,s.aT l fr (k:Int)) (.returned (erV (s.aT l fr (k:Int)))) W):=λW d=>dA.same (h.more (by omega)) d
   rw[I.out];rw[bC J] at *
   generalize s.aT l fr (k:Int)=F at *
   generalize l.length=q at *
   clear h T E ha I J hk a1 L;go_enter func91,ntmps91;go_wp2_with fail;refine cEq Q λwA ap=>?_
   have X:=ah (ab _ ap);clear ap Q ab;go_wp2;go_ret;exact X
 .have bd:((t.size:Int) % 16 != 0)=true:=by simp;omega
  have I:χ (s.put l fr t=(s,1)):=by unfold χ SV.put;rw[if_neg L]
  have X:χ (dA w sp u s (m+2000) (s,1) (.returned (erV 1)) w):=dA.same (h.more (by omega)) (ja0 _ _);rw[I.out];rw[eX] at *
  generalize l.length=q;clear h T E ha I L;go_enter func91,ntmps91;go_wp2;go_ret;exact X
def UR{w w':ω}{B e size n v b}(h:w.ownsRowF B e size v n b)(l:∀ k,v.ownBlock=S k->w'.heap[k]?=w.heap[k]?):w'.ownsRowF B e size v n b:=by
 obtain⟨m,a⟩:=h;refine⟨m,?_⟩;rcases a with a|⟨g,cap,d,j,c,i,f,r⟩
 .exact .inl a
 .exact .inr ⟨g,cap,d,j,c,i,by rw[l g (by rw[c];rfl)];exact f,r⟩
def Au{T e B b a w w'}(h:Lib.IsBuilderF T e B b a w)(g:β w w w'):Lib.IsBuilderF T e B b a w':=by
 have c:∀ p,Lib.BuilderAtF T e B b p a w->Lib.BuilderAtF T e B b p a w':=by
  rintro p ⟨j,v,d,f,i⟩;exact⟨j,v,by rw[g.block _ (lt_of_some d)];exact d,UR f λk e=>g.block k (f.lt k e).2,i⟩
 exact h.imp (c _) (c _)
def Nk(B b l)(s:ByteArray)(w)(h:Lib.IsBuilderF 229 5 B b (Lib.byteCells l) w)(i:l.length+s.size<=140737488355328)(c:B<=w) :
  κ prog 172 #[b,s] w λe w' =>
   e=.returned (.tuple #[.int .i64 s.size,.nilIface])/\Lib.IsBuilderF 229 5 B b (Lib.byteCells (l++s.data.toList)) w'/\β B w w'/\Lib.OthersKept 5 (S b) w w':=by
 refine(Any.Builder_WriteString_k {Tryz.lays105 with} Tryz.Builder_Extra_105 B b _ s w h (by rw[jbK];exact i) c).mono ?_;rintro e w' ⟨rfl,f,d,g⟩;refine⟨rfl,.inr ?_,d,g⟩;have a:Lib.byteCells (l++s.data.toList)=Lib.byteCells l++Lib.strCells s:=by simp[Lib.byteCells,Lib.strCells]
 rw[a];exact f
def pI(P:List Pt)(n i:Nat):Nat:=if h:i<P.length then P[i].a else n
def MX(a b:ByteArray):(a++b).data.toList=a.data.toList++b.data.toList:=by simp_all
structure Ai(w1:ω)(B b:Nat)(G:Nat->ByteArray)(P:List Pt)(n:Nat)(i:Nat)(wr:ω):Prop where
 bld:Lib.IsBuilderF 229 5 B b (Lib.byteCells (G (pI P n i)).data.toList) wr
 bel:β B w1 wr
 row:∀ g cap,sS w1 g cap P->sS wr g cap P
def NK{sp m cap C:Nat}{xs s a}(l)(fr n:Int)(w)(h:bH w sp xs s m)(hl:Nums w a l)(z:s.good (C:Int) l)(h5:l.length<=100)(hC:C<=40)(ax : -9223372036854775808<=fr/\fr<=9223372036854775807) :
  κ prog 94 #[.pointer (S ⟨sp,6,O⟩),.slice a l.length cap,fr,n] w λe w'=>e=.returned (.tuple #[.string (s.fG l fr n),erV (s.aT l fr n)])/\β w w w':=by
 have V:=ah (check_any (cap:=cap) l fr n w h hl z (by omega) ax);by_cases I:s.aT l fr n=0
 .obtain⟨Q,n0,n1,n2⟩:=SV.mD z I;obtain⟨f,rfl⟩:∃ f:Nat,fr=(f:Int):=⟨fr.toNat,by omega⟩;obtain⟨k,rfl⟩:∃ k:Nat,n=(k:Int):=⟨n.toNat,by omega⟩;have HR:χ (s.fG l (f:Int) (k:Int)=s.kQ l f k):=by unfold χ SV.fG;rw[if_pos I];rfl
  rw[I,aJ] at V |-;have b5:=ah (λW=>Dj f k W (by omega));have b4:=rJ f k k 0 (by omega);have K:χ (∀ p∈aW f k 0,p.fits f k C):=wP (by omega) k 0 (by omega);have a3:=ah (U5 f k k 0 (by omega))
  have b0:χ (pI (aW f k 0) k 0=0):=by
   unfold χ pI;split
   .next H=>exact(a3 0 H).2.2.2 rfl
   .next H =>
    by_cases hk:0<k
    .rw[rH hk] at *;simp at *
    .omega
  have aL:χ (∀ i (b:i<(aW f k 0).length),pI (aW f k 0) k i=(aW f k 0)[i].a/\pI (aW f k 0) k (i+1)=(aW f k 0)[i].a+(aW f k 0)[i].n):=λi b=>by
   refine⟨by unfold pI;rw[dif_pos b],?_⟩;unfold pI;split
   .next H=>exact(a3 i b).2.1 (i+1) H rfl
   .next H=>exact((a3 i b).2.2.1 (by omega)).symm
  have av:χ (pI (aW f k 0) k (aW f k 0).length=k):=by unfold χ pI;rw[dif_neg (by omega)]
  have ac:χ (∀ p∈aW f k 0,s.kQ l f (p.a+p.n)=s.kQ l f p.a++fH (s.read l (p.c:Int)).1 p.f p.n):=λp A=>SV.QM (K p A) p.n (ja1 _)
  have aR:χ (∀ j,j<=k->(s.kQ l f j).size=j*16):=λj hj=>SV.BO z h.ok Q j (by omega)
  have aq:χ (s.kQ l f 0=bytesOf []):=rfl
  have aD:χ (∀(i:Nat) (b:i<(aW f k 0).length) (W:ω),β w w W->κ prog 171 #[.pointer (S ⟨sp,6,O⟩),.slice a l.length cap,((aW f k 0)[i].c:Int)] W λe w'=>e=.returned (.tuple #[.string (s.read l ((aW f k 0)[i].c:Int)).1,.nilIface])/\β W W w'):=λi b W hb=>by
   have t:=K _ (jad b);have:=AU (cap:=cap) l ((aW f k 0)[i].c:Int) W (h.below hb) (hl.below hb) z h5
   rw[(SV.l9 z h.ok Q (c:=((aW f k 0)[i].c:Int)) ⟨by omega,by have:=t.c;omega⟩).1,aJ] at *;exact this
  have b1:χ (∀(i:Nat) (b:i<(aW f k 0).length) (W:ω),κ prog 169 #[.string (s.read l ((aW f k 0)[i].c:Int)).1,((aW f k 0)[i].f:Int),((aW f k 0)[i].n:Int)] W λe w'=>e=.returned (.string (fH (s.read l ((aW f k 0)[i].c:Int)).1 (aW f k 0)[i].f (aW f k 0)[i].n))/\w'=W):=λi b W=>by
   have t:=K _ (jad b);have hz:=(SV.l9 z h.ok Q (c:=((aW f k 0)[i].c:Int)) ⟨by omega,by have:=t.c;omega⟩).2;exact DN _ _ _ W (by have:=t.n4;omega) (by omega)
  have am:χ (∀(i:Nat) (b:i<(aW f k 0).length),(fH (s.read l ((aW f k 0)[i].c:Int)).1 (aW f k 0)[i].f (aW f k 0)[i].n).size<=100/\(aW f k 0)[i].a<=k):=λi b=>by
   have t:=K _ (jad b);have hz:=(SV.l9 z h.ok Q (c:=((aW f k 0)[i].c:Int)) ⟨by omega,by have:=t.c;omega⟩).2;refine⟨?_,by have:=t.an;omega⟩;rw[uh (by have:=t.n4;omega)];have:=t.n4;omega
  generalize aW f k 0=P at *
  generalize s.fG l (f:Int) (k:Int)=R at *
  generalize s.kQ l f=G at *
  generalize hq:l.length=q at *
  have bc:k<=1000:=by omega
  go_enter func94,ntmps94;go_wp2_with fail;refine cEq V λd a0=>?_
  have J:=ah a0;have ap:χ (Lib.IsBuilderF 229 5 d.heap.size d.heap.size (Lib.byteCells []) (d.alloc (.cells #[.pointer O,.slice O 0 0] 229))):=Lib.IsBuilderF.of (Lib.fresh_isBuilder _ _ _);have a7:χ (β d d (d.alloc (.cells #[.pointer O,.slice O 0 0] 229))):=(ja0 _ _).alloc (ja1 _) _;go_wp2_with fail;generalize d.alloc (.cells #[.pointer O,.slice O 0 0] 229)=wB at *
  refine(b5 wB).mono ?_;rintro e M ⟨pa,ai,rfl,aM,a9⟩;have a6:=ah aM;have ae:χ (Ai M d.heap.size d.heap.size G P k 0 M):=⟨by rw[b0.out,aq.out];exact Au ap a9,ja0 _ _,λ_ _ h=>h⟩;generalize b7:P.length=N at b4 a6 |-;have U:=ah b7;go_wp2;go_loopw [28] (λi wr=>∃(j:Nat),j<=N/\i=.int .i64 (j:Int)/\Ai M d.heap.size d.heap.size G P k j wr) (λi _=>N-(intOf i).toNat)
  case atStart=>exact⟨0,ja7 _,rfl,ae⟩
  case round =>
   obtain⟨i,be,rfl,A⟩:=hrel;have E  := (a7.trans (a9.mono a7.size)).trans A.bel;have a8:χ (β w w wr):=J.trans (E.mono J.size);by_cases aw:i<N
   .have b:i<P.length:=by rw[U.out];exact aw
    obtain⟨g,rfl,bf,bd,b3⟩:=Dk a6 U (by omega);obtain⟨c0,c1,c2,c3⟩:=(A.row g ai b3).cells b;obtain⟨a1,a2⟩:=aL i b;have ad:=ah (aD i b);have ao:=ah (b1 i b);obtain⟨z1,z2⟩:=am i b;have al:=ah (ac P[i] (jad b));have HP:=ah A;have L:=A.bld;rw[a1] at *
    have a5:=ah L;have b6:=ah a2;generalize bb:P[i]=p at *
    obtain⟨D,x,y,o⟩:=p;simp only at *
    generalize (s.read l (D:Int)).1=ab at *
    generalize fH ab x y=ST at *
    have k0:(0:Int)<=(i:Int):=by omega
    have k1:(i:Int)<(N:Int):=by omega
    have k2:((i:Int)).toNat=i:=by omega
    have Y:χ (β wr wr (wr.alloc (.cells #[(D:Int),(x:Int),(y:Int),(o:Int)] 224))):=(ja0 _ _).alloc (ja1 _) _;have HX:χ ((wr.alloc (.cells #[(D:Int),(x:Int),(y:Int),(o:Int)] 224)).heap[wr.heap.size]?=S (.cells #[(D:Int),(x:Int),(y:Int),(o:Int)] 224 (0,0))):=heap_alloc_new _ _;go_wp2_with fail;generalize wr.alloc (.cells #[(D:Int),(x:Int),(y:Int),(o:Int)] 224)=wN at *
    refine cEq (ad wN (a8.trans (Y.mono a8.size))) λu T=>?_
    have B:=ah (Y.trans (T.mono Y.size));have a4:u.heap[wr.heap.size]?=S (.cells #[(D:Int),(x:Int),(y:Int),(o:Int)] 224 (0,0)):=by rw[T.block _ (lt_of_some HX.out)];exact HX
    have y1:u.cell? ⟨wr,1,O⟩=S (.int .i64 (x:Int)):=by rw[cell_of_row _ _ _ _ _ _ a4];rfl
    have y2:u.cell? ⟨wr,2,O⟩=S (.int .i64 (y:Int)):=by rw[cell_of_row _ _ _ _ _ _ a4];rfl
    have b2:(G o).data.toList.length=o*16:=by rw[<- (aR.out o z2)];simp
    go_wp2_with (go_at_call 169;refine cSt (ao _) ?_)
    refine(Nk d.heap.size d.heap.size (G o).data.toList ST u (Au a5 B) (by rw[b2];omega) (ja4 E.size B.size)).mono ?_;rintro e w3 ⟨rfl,aa,b8,af⟩
    have az:χ (Ai M d.heap.size d.heap.size G P k (i+1) w3):=by
     refine⟨?_,?_,λg2 aE h2=>?_⟩
     .rw[b6.out,al.out,MX];exact aa
     .exact HP.bel.trans ((B.mono E.size).trans b8)
     .have h3:=HP.row g2 aE h2;refine⟨bg h3.own λr e=>?_⟩;obtain⟨ag,hh⟩:=ownsRow_kind h3.own r e;have h4:u.heap[r]?=S (.cells ag 224 (0,0)):=by rw[B.out.block r (lt_of_some hh)];exact hh
      rw[hh];refine af r _ h4 (λX=>?_) (λc fz X=>by cases X);cases X
      have Z:∃ p v,u.heap[d.heap.size]?=S (.cells #[p,v] 229 (0,0)):=by
       rcases Au a5 B with⟨_,v,q,_⟩|⟨_,v,q,_⟩<;>exact⟨_,v,q⟩
      obtain⟨p,v,Z⟩:=Z;rw[h4] at *
      cases Z
    go_wp2;go_roundw
    case rel =>
     exact⟨i+1,by omega,by go_num,az⟩
    case measure=>simp[intOf];omega
   .have ar:i=N:=by omega
    subst ar;have L:=A.bld;have e1:pI P k i=k:=by rw[<- U.out];exact av
    rw[e1,<- HR.out] at L;have ba:=ah (Tryz.Builder_String_any_k d.heap.size d.heap.size R.data.toList wr L E.size);have b9:ByteArray.mk R.data.toList.toArray=R:=by simp
    rw[b9] at *
    go_wp2_with fail;refine ba.mono ?_;rintro e u ⟨rfl,_,T,_⟩;have B:χ (β w w u):=J.trans ((E.trans T).mono J.size);go_wp2;go_ret2;exact⟨rfl,B⟩
 .have HR:χ (s.fG l fr n=bytesOf []):=by unfold χ SV.fG;rw[if_neg I]
  rw[HR.out];rw[bC I] at *
  generalize s.aT l fr n=F at *
  generalize l.length=q at *
  go_enter func94,ntmps94;go_wp2_with fail;refine cEq V λd a0=>?_
  go_wp2;go_ret2;exact⟨rfl,a0⟩
structure Jh where
 jp:Nat
 lp:Nat
 bp:Nat
 a:Option Addr
 cap:Nat
structure Yh where
 ds:Nat->Hd
 tp:Hd
 xs:Nat->Ih
 jb:Jh
def Yh.fpF(Y:Yh)(s:SV)(i k:Nat):Prop:=match s i with
 | none=>(Y.ds i).fp k
 | some _=>(Y.xs i).fp k
def Yh.dp(Y:Yh)(s:SV)(i:Nat):Nat:=match s i with
 | none=>(Y.ds i).p
 | some _=>(Y.xs i).h.p
def Yh.dN{Y:Yh}{s i k}(h:s i=O):Y.fpF s i k=(Y.ds i).fp k:=by unfold Yh.fpF;rw[h]
def Yh.eY{Y:Yh}{s i k v}(h:s i=S v):Y.fpF s i k=(Y.xs i).fp k:=by unfold Yh.fpF;rw[h]
def Yh.dp_none{Y:Yh}{s i}(h:s i=O):Y.dp s i=(Y.ds i).p:=by unfold Yh.dp;rw[h]
def Yh.lX{Y:Yh}{s i v}(h:s i=S v):Y.dp s i=(Y.xs i).h.p:=by unfold Yh.dp;rw[h]
def Jh.fp(b:Jh)(j:Option JV)(k:Nat):Prop:=j≠O/\(k=b.jp\/k=b.lp\/k=b.bp)
def fpY(a:Nat)(Y:Yh)(y:YV)(k:Nat):Prop:=k=a\/(∃ i,i<5/\Y.fpF y.s i k)\/Y.tp.fp k\/Y.jb.fp y.j k
def rC(b:Jh):Option JV->υ
 | none=>.pointer O
 | some _=>.pointer (S ⟨b.jp,0,O⟩)
structure jQ(w:ω)(yp:Nat)(Y:Yh)(s:SV)(r:Int)(jv:υ):Prop where
 is:∃ cur,w.heap[yp]?=S (.cells cur 74 (0,0))/\(∀ i,i<5->cur[i]?=S (Y.dp s i:υ))/\cur[5]?=S (Y.tp.p:υ) /\
  (∀ i,i<5->cur[6+i]?=S (jh (Y.xs i) (s i)))/\cur[11]?=S (r:υ)/\cur[12]?=S jv
structure aC(w:ω)(yp:Nat)(Y:Yh)(y:YV):Prop where
 blk:jQ w yp Y y.s y.kd.root (rC Y.jb y.j)
 img:∀ i v,i<5->y.s i=S v->aI Gd.no w (Y.xs i) v
 dev:∀ i,i<5->y.s i=O->bV Gd.no w (Y.ds i) (y.dv i)
 top:bV Gd.no w Y.tp y.top
 apart:∀ i j,i<5->j<5->i≠j->∀ k,Y.fpF y.s i k->¬Y.fpF y.s j k
 apTop:∀ i,i<5->∀ k,Y.tp.fp k->¬Y.fpF y.s i k
 job:∀ j,y.j=S j->jd w Y.jb.jp yp Y.jb.lp Y.jb.bp Y.jb.a Y.jb.cap j/\Nums w Y.jb.a j.l/\j.l≠[]/\j.l.length<=Y.jb.cap/\Apart Y.jb.a (fpY yp Y y)
def jQ.lt{w a Y s r d}(h:jQ w a Y s r d):a<w:=by
 obtain⟨c,b,_⟩:=h.is;exact lt_of_some b
def jQ.keep{w w' a Y s r b}(h:jQ w a Y s r b)(e:w'.heap[a]?=w.heap[a]?):jQ w' a Y s r b:=⟨by rw[e];exact h.is⟩
def jQ.cells{w a Y s r g}(h:jQ w a Y s r g) :
  (∀ i,i<5->w.cell? ⟨a,i,O⟩=S (Y.dp s i:υ))/\w.cell? ⟨a,5,O⟩=S (Y.tp.p:υ)/\(∀ i,i<5->w.cell? ⟨a,6+i,O⟩=S (jh (Y.xs i) (s i)))/\w.cell? ⟨a,11,O⟩=S (r:υ)/\w.cell? ⟨a,12,O⟩=S g/\∀ i,w.frozen? ⟨a,i,O⟩=false:=by
 obtain⟨c,f,k,n,l,m,j⟩:=h.is;have b:∀ i,w.cell? _=c[i]?:=λi=>cell_of_row w a _ _ _ _ f
 exact⟨λi d=>(b i).trans (k i d),(b 5).trans n,λi d=>(b _).trans (l i d),(b 11).trans m,(b 12).trans j,λi=>frozen_of_row w a i _ _ f⟩
def bV.oZ{B w h d}(hd:bV B w h d){k a t}(i:w.heap[k]?=S (.cells a t (0,0)))(g:¬(t=178\/t=175\/t=180\/t=235\/t=168)):¬h.fp k:=λb=>by
 obtain⟨f,t2,c,p⟩:=hd.kinds k b;simp_all
def aC.lY{w d Y y}(h:aC w d Y y){i k}(c:i<5)(b:Y.fpF y.s i k):k<w:=by
 cases a:y.s i with
 | none=>rw[Yh.dN a] at *;exact((h.dev i c a).lt k b).2
 | some v=>rw[Yh.eY a] at *;exact(h.img i v c a).iH k b
def aC.rG{w g Y y}(h:aC w g Y y){i k}(b:i<5){f t}(d:w.heap[k]?=S (.cells f t (0,0)))(c:¬(t=178\/t=175\/t=180\/t=235\/t=168)):¬Y.fpF y.s i k:=by
 cases a:y.s i with
 | none=>rw[Yh.dN a];exact(h.dev i b a).oZ d c
 | some v=>rw[Yh.eY a];exact(h.img i v b a).wG d c
def aC.gG{w b Y y}(h:aC w b Y y){k}(a:fpY b Y y k):k<w:=by
 rcases a with rfl|⟨i,c,a⟩|a|⟨d,a⟩
 .exact h.blk.lt
 .exact h.lY c a
 .exact(h.top.lt k a).2
 .cases e:y.j with
  | none=>simp_all
  | some j =>
   obtain⟨f,g,l⟩:=(h.job j e).1.lts;omega
def aC.lC{w a Y y}(h:aC w a Y y):(∀ i,i<5->¬Y.fpF y.s i a)/\¬Y.tp.fp a/\¬Y.jb.fp y.j a:=by
 obtain⟨c,f,_⟩:=h.blk.is;refine⟨λi k=>h.rG k f (by decide),h.top.oZ f (by decide),λ⟨n,g⟩=>?_⟩
 cases e:y.j with
 | none=>simp_all
 | some j =>
  have b:=(h.job j e).1;have l:=b.blk;have o:w.heap[Y.jb.lp]?=_:=b.set;have m:w.heap[Y.jb.bp]?=_:=b.bkt;rcases g with d|d|d
  .simp_all
  .simp_all
  .simp_all
def aC.kW{w l Y y}(h:aC w l Y y){k}(b:Y.jb.fp y.j k):(∀ i,i<5->¬Y.fpF y.s i k)/\¬Y.tp.fp k:=by
 obtain⟨m,b⟩:=b
 cases e:y.j with
 | none=>simp_all
 | some j =>
  have c:=(h.job j e).1;have d:=c.blk;have g  := c.set;have f  := c.bkt;rcases b with rfl|rfl|rfl
  .exact⟨λi a=>h.rG a d (by decide),h.top.oZ d (by decide)⟩
  .exact⟨λi a=>h.rG a g (by decide),h.top.oZ g (by decide)⟩
  .exact⟨λi a=>h.rG a f (by decide),h.top.oZ f (by decide)⟩
def aC.inS{w d Y y}(g:aC w d Y y){k}(b:fpS Y.xs y.s k):∃ i,i<5/\Y.fpF y.s i k:=by
 obtain⟨i,f,j,a⟩:=b
 cases c:y.s i with
 | none=>simp_all
 | some v=>exact⟨i,f,by rw[Yh.eY c];exact a⟩
def aC.shelf{w d m Y y}(h:aC w d Y y)(o:y.s.ok m):bH w d Y.xs y.s m:=by
 obtain⟨c,x,g,A,t,D,C⟩:=h.blk.is;refine⟨⟨c,x,t,λi a B=>?_⟩,h.img,o,λi j a r n z E k q f=>?_⟩
 .cases b:y.s i with
  | none=>simp_all
  | some v=>rw[g i a,Yh.lX b]
 .cases b:y.s i with
  | none=>simp_all
  | some v =>
   cases l:y.s j with
   | none=>simp_all
   | some u=>exact h.apart i j a r n k (by rw[Yh.eY b];exact q) (by rw[Yh.eY l];exact f)
theorem aC.keep{w w' l Y y}(h:aC w l Y y)(b:∀ k,fpY l Y y k->w'.heap[k]?=w.heap[k]?)(t:∀ g o,Y.jb.a=S ⟨g,o,O⟩->g<w->w'.heap[g]?=w.heap[g]?):aC w' l Y y :=
 ⟨h.blk.keep (b _ (.inl rfl)),λi v d f=>(h.img i v d f).aY λk c=>b k (.inr (.inl ⟨i,d,by rw[Yh.eY f];exact c⟩)),λi d f=>(h.dev i d f).keep λk c=>b k (.inr (.inl ⟨i,d,by rw[Yh.dN f];exact c⟩)),h.top.keep λk c=>b k (.inr (.inr (.inl c))),h.apart,h.apTop,λj r=>by
  obtain⟨u,n,q,s,x⟩:=h.job j r;have m:y.j≠none:=by simp_all
  exact⟨u.keep (b _ (.inr (.inr (.inr ⟨m,.inl rfl⟩)))) (b _ (.inr (.inr (.inr ⟨m,.inr (.inl rfl)⟩)))) (b _ (.inr (.inr (.inr ⟨m,.inr (.inr rfl)⟩)))),n.keep λg o e=>t g o e (n.lt q e),q,s,x⟩⟩
def aC.below{w w' a Y y}(h:aC w a Y y)(b:β w w w'):aC w' a Y y :=
 h.keep (λ_ c=>b.block _ (h.gG c)) λ_ _ _ d=>b.block _ d
def qQ(c:Nat)(Y:Yh)(y y':YV)(w w':ω):Prop:=∃ b:Yh,(b.jb=Y.jb\/∀ g o,b.jb.a=S ⟨g,o,O⟩->w.heap.size<=g/\g<w'.heap.size)/\aC w' c b y'/\Moved (fpY c Y y) w (fpY c b y') w'
theorem qQ.of_below{w w' a Y y}(h:aC w a Y y)(b:β w w w'):qQ a Y y y w w':=⟨Y,.inl rfl,h.below b,Moved.of_below b⟩
def aC.lG{S U w w' t m' Y y r z j'}(h:aC w t Y y)(P:bH w' t r z m')(I:Moved S w U w')
  (hS:∀ k,S k->fpS Y.xs y.s k\/Y.jb.fp y.j k) (aa:∀ k,fpS r z k\/Y.jb.fp y.j k->U k\/k<w/\(fpS Y.xs y.s k\/Y.jb.fp y.j k)) (Q:j'=O↔y.j=O)
  (hj:∀ a,j'=some a->∃ j,y.j=some j/\a.l=j.l/\jd w' Y.jb.jp t Y.jb.lp Y.jb.bp Y.jb.a Y.jb.cap a) :
  aC w' t {Y with xs:=r} {y with s:=z,j:=j'}/\Moved (fpY t Y y) w (fpY t {Y with xs:=r} {y with s:=z,j:=j'}) w':=by
 obtain⟨n1,n2,n3⟩:=h.lC
 have J:∀ k,S k->(∃ i,i<5/\Y.fpF y.s i k/\y.s i≠O)\/Y.jb.fp y.j k:=λk d=>by
  rcases hS k d with⟨i,f,x,g⟩|d
  .cases m:y.s i with
   | none=>exact absurd m x
   | some v=>exact .inl ⟨i,f,by rw[Yh.eY m];exact g,(by rw[m];intro e;cases e)⟩
  .exact .inr d
 have a8:¬S t:=λe=>by
  rcases J t e with⟨i,f,g,_⟩|d
  .exact n1 i f g
  .exact n3 d
 have a0:=I.block h.blk.lt a8;obtain⟨c,W,T,h3,h4,h5,h6⟩:=h.blk.is;obtain⟨c',g1,g2,g3⟩:=P.is_;rw[a0,W] at g1;have ec:c=c':=by cases g1;rfl
 subst ec
 have L:∀ i,i<5->(z i=O↔y.s i=O):=λi f=>by
  have e:=(g2 i f).symm.trans (h4 i f)
  cases o:z i with
  | none =>
   cases m:y.s i with
   | none=>exact⟨λ_=>rfl,λ_=>rfl⟩
   | some v=>rw[o,m] at e;cases e
  | some u =>
   cases m:y.s i with
   | none=>rw[o,m] at e;cases e
   | some v=>exact⟨λe=>(by cases e),λe=>(by cases e)⟩
 have a5:∀ i,i<5->({Y with xs:=r}:Yh).dp z i=Y.dp y.s i:=λi f=>by
  cases o:z i with
  | none=>rw[Yh.dp_none o,Yh.dp_none ((L i f).1 o)]
  | some u =>
   cases m:y.s i with
   | none=>rw[(L i f).2 m] at *;cases o
   | some v =>
    have e:=(g3 i f (by rw[o];intro e;cases e)).symm.trans (T i f);rw[Yh.lX o];have G:=jaQ e;injection G with R;have e4:=jaQ R;injection e4
 have a1:∀ i,i<5->y.s i=O->∀ k,(Y.ds i).fp k->¬S k:=λi f m k d e=>by
  have B:Y.fpF y.s i k:=by rw[Yh.dN m];exact d
  rcases J k e with⟨C,A,g,x⟩|g
  .exact h.apart i C f A (λe=>x (by rw[<- e];exact m)) k B g
  .exact(h.kW g).1 i f B
 have a3:∀ k,Y.tp.fp k->¬S k:=λk d e=>by
  rcases J k e with⟨C,A,g,_⟩|g
  .exact h.apTop C A k d g
  .exact(h.kW g).2 d
 have Z:∀ k,fpS r z k\/Y.jb.fp y.j k->(fpS Y.xs y.s k\/Y.jb.fp y.j k)\/w.heap.size<=k:=λk d=>by
  rcases aa k d with n|n
  .rcases I.new k n with F|F
   .exact .inl (hS k F)
   .exact .inr F
  .exact .inl n.2
 have H:∀ i k,i<5->({Y with xs:=r}:Yh).fpF z i k->(y.s i=O/\(Y.ds i).fp k)\/(z i≠O/\fpS r z k/\(r i).fp k):=λi k f d=>by
  cases o:z i with
  | none=>rw[Yh.dN o] at *;exact .inl ⟨(L i f).1 o,d⟩
  | some u=>rw[Yh.eY o] at *;exact .inr ⟨(by intro e;cases e),⟨i,f,(by rw[o];intro e;cases e),d⟩,d⟩
 have N:∀ k,k<w.heap.size->fpS r z k->(∃ i,i<5/\Y.fpF y.s i k/\y.s i≠O)\/Y.jb.fp y.j k:=λk K d=>by
  rcases Z k (.inl d) with n|n
  .rcases n with⟨i,f,x,g⟩|n
   .cases m:y.s i with
    | none=>exact absurd m x
    | some v=>exact .inl ⟨i,f,by rw[Yh.eY m];exact g,(by rw[m];intro e;cases e)⟩
   .exact .inr n
  .omega
 have M:Moved (fpY t Y y) w (fpY t {Y with xs:=r} {y with s:=z,j:=j'}) w':=by
  refine⟨I.kept.mono λk _ d=>?_,λk d=>?_⟩
  .rcases J k d with⟨i,f,g,_⟩|g
   .exact .inr (.inl ⟨i,f,g⟩)
   .exact .inr (.inr (.inr g))
  .rcases d with rfl|⟨i,f,g⟩|g|⟨a7,D⟩
   .exact .inl (.inl rfl)
   .rcases H i k f g with⟨m,d⟩|⟨_,d,_⟩
    .exact .inl (.inr (.inl ⟨i,f,by rw[Yh.dN m];exact d⟩))
    .rcases Z k (.inl d) with n|n
     .rcases n with n|n
      .exact .inl (.inr (.inl (h.inS n)))
      .exact .inl (.inr (.inr (.inr n)))
     .exact .inr n
   .exact .inl (.inr (.inr (.inl g)))
   .exact .inl (.inr (.inr (.inr ⟨λe=>a7 (Q.2 e),D⟩)))
 refine⟨⟨⟨c,by rw[a0];exact W,λi f=>by rw[a5 i f];exact T i f,h3,g2,h5,?_⟩,P.img,λi f o=>?_,?_,λi j f D V k d q=>?_,λi f k d q=>?_,λa ha=>?_⟩,M⟩
 .rw[h6]
  cases e:j' with
  | none=>rw[Q.1 e]
  | some a =>
   cases G:y.j with
   | none=>rw[Q.2 G] at e;cases e
   | some b=>rfl
 .have m:=(L i f).1 o;have hd:=h.dev i f m;exact hd.keep λk d=>I.block (hd.lt k d).2 (a1 i f m k d)
 .exact h.top.keep λk d=>I.block (h.top.lt k d).2 (a3 k d)
 .rcases H i k f d with⟨m,d⟩|⟨x,d,a6⟩
  .have K:=((h.dev i f m).lt k d).2;have B:Y.fpF y.s i k:=by rw[Yh.dN m];exact d
   rcases H j k D q with⟨E,q⟩|⟨_,q,_⟩
   .exact h.apart i j f D V k B (by rw[Yh.dN E];exact q)
   .rcases N k K q with⟨C,A,g,x⟩|g
    .exact h.apart i C f A (λe=>x (by rw[<- e];exact m)) k B g
    .exact(h.kW g).1 i f B
  .rcases H j k D q with⟨E,q⟩|⟨ab,_,a2⟩
   .have K:=((h.dev j D E).lt k q).2;have B:Y.fpF y.s j k:=by rw[Yh.dN E];exact q
    rcases N k K d with⟨C,A,g,a4⟩|g
    .exact h.apart j C D A (λe=>a4 (by rw[<- e];exact E)) k B g
    .exact(h.kW g).1 j D B
   .exact P.apart i j f D V x ab k a6 a2
 .rcases H i k f q with⟨E,q⟩|⟨_,q,_⟩
  .exact h.apTop i f k d (by rw[Yh.dN E];exact q)
  .rcases N k (h.top.lt k d).2 q with⟨C,A,g,_⟩|g
   .exact h.apTop C A k d g
   .exact(h.kW g).2 d
 .obtain⟨j,e1,G,R⟩:=hj a ha;obtain⟨n,F,h9,a9,X⟩:=h.job j e1;rw[G];exact⟨R,F.moved M X,h9,a9,X.moved F h9 M⟩
def bV.ou{B w h d}(hd:bV B w h d):bV (Gd.but w h.fp) w h d:=⟨hd.toaS,λ_ a b=>b.2 a⟩
def bV.noG{B w h d}(hd:bV B w h d):bV Gd.no w h d:=⟨hd.toaS,λ_ _ a=>a⟩
def bV.moved{w w'}{h:Hd}{a d T}(hd:bV (Gd.but w h.fp) w' a d)(b:Kept T w w')(c:∀ k,T k->¬(Gd.but w h.fp).g k):Moved h.fp w a.fp w':=oz b c hd.out
def aC.qL{w w' g Y y}(h:aC w g Y y){f o}(hd:bV Gd.no w' f o)(K:f.p=Y.tp.p)(l:Moved Y.tp.fp w f.fp w') :
  aC w' g {Y with tp:=f} {y with top:=o}/\Moved (fpY g Y y) w (fpY g {Y with tp:=f} {y with top:=o}) w':=by
 obtain⟨M,I,J⟩:=h.lC
 have n:Moved (fpY g Y y) w (fpY g {Y with tp:=f} _) w':=⟨l.kept.mono λk _ a=>.inr (.inr (.inl a)),λk a=>by
  rcases a with a|a|a|a
  .exact .inl (.inl a)
  .exact .inl (.inr (.inl a))
  .rcases l.new k a with d|d
   .exact .inl (.inr (.inr (.inl d)))
   omega
  .exact .inl (.inr (.inr (.inr a)))⟩
 have u:=λi (b:i<5) k (a:Y.fpF y.s i k)=>l.block (h.lY b a) λe=>h.apTop i b k e a
 refine⟨⟨?_,λi v b m=>(h.img i v b m).aY λk a=>u i b k (by rw[Yh.eY m];exact a),λi b m=>(h.dev i b m).keep λk a=>u i b k (by rw[Yh.dN m];exact a),hd,h.apart,λi b k a r=>?_,λj H=>?_⟩,n⟩
 .obtain⟨c,d,B,L,D,F,G⟩:=h.blk.is;exact⟨c,(l.block h.blk.lt I).trans d,B,by simp_all,D,F,G⟩
 .rcases l.new k a with d|d
  .exact h.apTop i b k d r
  .have:=h.lY b r;omega
 .obtain⟨E,x,A,C,t⟩:=h.job j H;have z:y.j≠none:=by simp_all
  have q:=λk (a:k=Y.jb.jp\/k=Y.jb.lp\/k=Y.jb.bp)=>l.block (h.gG (.inr (.inr (.inr ⟨z,a⟩)))) (h.kW ⟨z,a⟩).2
  exact⟨E.keep (q _ (.inl rfl)) (q _ (.inr (.inl rfl))) (q _ (.inr (.inr rfl))),x.moved n t,A,C,t.moved x A n⟩
def aC.qH{w J q m i Y f y y'}(h:aC w m Y y)(o:i<5)(n:Moved (Y.fpF y.s i) w (f.fpF y'.s i) J)(u:Kept (λk=>k=m) J q)
  (V:jQ q m f y'.s y'.kd.root (rC f.jb y'.j)) (T:∀ v,y'.s i=S v->aI Gd.no q (f.xs i) v) (a0:y'.s i=O->bV Gd.no q (f.ds i) (y'.dv i))
  (t:∀ j,j≠i->y'.s j=y.s j/\y'.dv j=y.dv j/\f.xs j=Y.xs j/\f.ds j=Y.ds j) (X:f.tp=Y.tp/\f.jb=Y.jb/\y'.top=y.top/\y'.j=y.j) :
  aC q m f y'/\Moved (fpY m Y y) w (fpY m f y') q:=by
 obtain⟨n1,n2,W⟩:=h.lC;obtain⟨t1,t2,t3,t4⟩:=X
 have A:∀ j,j≠i->∀ k,f.fpF y'.s j k=Y.fpF y.s j k:=λj d k=>by
  obtain⟨z,_,C,D⟩:=t j d;unfold Yh.fpF;rw[z,C,D]
 have E:=λk (c:k<w.heap.size) (g:¬Y.fpF y.s i k) (U:k≠m)=>(u.block k (ja8 c n.size) U).trans (n.block c g)
 have F:Moved (fpY m Y y) w (fpY m f y') q:=by
  refine⟨⟨u.os.trans n.kept.os,u.tape.trans n.kept.tape,u.output.trans n.kept.output,ja4 n.size u.size,λk c t=>E k c (λe=>t (.inr (.inl ⟨i,o,e⟩))) (λe=>t (.inl e))⟩,λk c=>?_⟩;rcases c with c|⟨j,d,c⟩|c|c
  .exact .inl (.inl c)
  .by_cases e:j=i
   .rw[e] at c;rcases n.new k c with g|g
    .exact .inl (.inr (.inl ⟨i,o,g⟩))
    .exact .inr g
   .rw[A j e] at *;exact .inl (.inr (.inl ⟨j,d,c⟩))
  .rw[t1] at *;exact .inl (.inr (.inr (.inl c)))
  .rw[t2,t4] at *;exact .inl (.inr (.inr (.inr c)))
 have M:=λj (d:j<5) (e:j≠i) k (c:Y.fpF y.s j k)=>E k (h.lY d c) (λx=>h.apart j i d o e k c x) (λx=>n1 j d (by rw[<- x];exact c))
 refine⟨⟨V,λj v d l=>?_,λj d l=>?_,?_,λa b ha Q K k c r=>?_,λj d k c r=>?_,λj d=>?_⟩,F⟩
 .by_cases e:j=i
  .rw[e] at l |-;exact T v l
  .obtain⟨z,_,C,D⟩:=t j e;rw[z] at l;rw[C];exact(h.img j v d l).aY λk c=>M j d e k (by rw[Yh.eY l];exact c)
 .by_cases e:j=i
  .rw[e] at l |-;exact a0 l
  .obtain⟨z,x,C,D⟩:=t j e;rw[z] at l;rw[D,x];exact(h.dev j d l).keep λk c=>M j d e k (by rw[Yh.dN l];exact c)
 .rw[t1,t3];exact h.top.keep λk c=>E k (h.top.lt k c).2 (h.apTop i o k c) (λe=>n2 (by rw[<- e];exact c))
 .have hx:∀ j,j<5->j≠i->Y.fpF y.s j k->¬f.fpF y'.s i k:=λj d e N a1=>by
   rcases n.new k a1 with g|g
   .exact h.apart j i d o e k N g
   .have:=h.lY d N;omega
  by_cases I:a=i
  .have B:b≠i:=λe=>K (by rw[I,e])
   rw[A b B] at *
   rw[I] at c;exact hx b Q B r c
  .rw[A a I] at *
   by_cases B:b=i
   .simp_all
   .rw[A b B] at *;exact h.apart a b ha Q K k c r
 .rw[t1] at *
  by_cases e:j=i
  .rw[e] at r;rcases n.new k r with g|g
   .exact h.apTop i o k c g
   .have:=(h.top.lt k c).2;omega
  .rw[A j e] at *;exact h.apTop j d k c r
 .rw[t4] at *
  obtain⟨h7,P,R,Z,L⟩:=h.job j d;have H:y.j≠none:=by rw[d];intro e;cases e
  have G:=λk (c:k=Y.jb.jp\/k=Y.jb.lp\/k=Y.jb.bp)=>E k (h.gG (.inr (.inr (.inr ⟨H,c⟩)))) ((h.kW ⟨H,c⟩).1 i o) (λe=>W (by rw[<- e];exact⟨H,c⟩))
  rw[t2];exact⟨h7.keep (G _ (.inl rfl)) (G _ (.inr (.inl rfl))) (G _ (.inr (.inr rfl))),P.moved F L,R,Z,L.moved P R F⟩
def aC.own{w l c Y y}(h:aC w c Y y)(a:Kept (λk=>k=c) w l){d}(x:jQ l c Y y.s d.root (rC Y.jb y.j)):aC l c Y {y with kd:=d}/\Moved (fpY c Y y) w (fpY c Y {y with kd:=d}) l:=by
 obtain⟨C,E,z⟩:=h.lC;have m:Moved (fpY c Y y) w _ l:=⟨a.mono λk _ e=>.inl e,λk a=>.inl a⟩;have u:=λi (b:i<5) k (f:Y.fpF y.s i k)=>a.block k (h.lY b f) (λe=>C i b (by simp_all))
 refine⟨⟨x,λi v b g=>(h.img i v b g).aY λk a=>u i b k (by rw[Yh.eY g];exact a),λi b g=>(h.dev i b g).keep λk a=>u i b k (by rw[Yh.dN g];exact a),h.top.keep λk f=>a.block k (h.top.lt k f).2 (λe=>E (by simp_all)),h.apart,h.apTop,λj B=>?_⟩,m⟩;obtain⟨D,o,r,A,t⟩:=h.job j B;have q:y.j≠none:=by simp_all
 have n:=λk (f:k=Y.jb.jp\/k=Y.jb.lp\/k=Y.jb.bp)=>a.block k (h.gG (.inr (.inr (.inr ⟨q,f⟩)))) (λe=>z (by rw[<- e];exact⟨q,f⟩))
 exact⟨D.keep (n _ (.inl rfl)) (n _ (.inr (.inl rfl))) (n _ (.inr (.inr rfl))),o.moved m t,r,A,t.moved o r m⟩
def jQ.xg{w a Y s r f}(h:jQ w a Y s r f)(d:Int):jQ (w.setCell ⟨a,11,O⟩ d) a Y s d f:=by
 obtain⟨c,k,g,m,j,o,n⟩:=h.is;have l:12<c.size:=by rcases jav 12 _ with e|e;exact e;simp_all
 refine⟨_,heap_setCell_same w a 11 _ _ _ k,λi b=>?_,?_,λi b=>?_,?_,?_⟩
 .rw[ja3 (by omega)];exact g i b
 .simp_all
 .rw[ja3 (by omega)];exact j i b
 .rw[jac (by omega)]
 .simp_all
def jQ.zM{w a Y s r k}(h:jQ w a Y s r k)(b v):jQ (w.setCell ⟨a,12,O⟩ v) a {Y with jb:=b} s r v:=by
 obtain⟨c,j,f,m,g,o,n⟩:=h.is;have l:12<c.size:=by rcases jav 12 _ with e|e;exact e;simp_all
 refine⟨_,heap_setCell_same w a 12 _ _ _ j,λi d=>?_,?_,λi d=>?_,?_,?_⟩
 .rw[ja3 (by omega)];exact f i d
 .simp_all
 .rw[ja3 (by omega)];exact g i d
 .simp_all
 .simp_all
def jQ.Kv{w b i Y a s s' r g}(h:jQ w b Y s r g)(v:i<5)(f:∀ j,j≠i->a.xs j=Y.xs j/\s' j=s j)(hd:∀ j,j<5->a.dp s' j=Y.dp s j)(l:a.tp.p=Y.tp.p) :
  jQ (w.setCell ⟨b,6+i,O⟩ (jh (a.xs i) (s' i))) b a s' r g:=by
 obtain⟨c,q,k,m,o,t,n⟩:=h.is;have u:12<c.size:=by rcases jav 12 _ with e|e;exact e;simp_all
 refine⟨_,heap_setCell_same w b _ _ _ _ q,λj d=>?_,?_,λj d=>?_,?_,?_⟩
 .rw[ja3 (by omega),hd j d];exact k j d
 .rw[ja3 (by omega),l];exact m
 .by_cases e:j=i
  .rw[e,jac (by omega)]
  .rw[ja3 (by omega),(f j e).1,(f j e).2];exact o j d
 .rw[ja3 (by omega)];exact t
 .rw[ja3 (by omega)];exact n
theorem aC.xg{w a Y y}(h:aC w a Y y)(d):aC (w.setCell ⟨a,11,O⟩ d.root) a Y {y with kd:=d}/\Moved (fpY a Y y) w (fpY a Y {y with kd:=d}) (w.setCell ⟨a,11,O⟩ d.root) :=
 h.own (Kept.setCell (S:=λk=>k=a)  (Kept.refl _ w) (.inl rfl) _) (h.blk.xg _)
theorem aC.zM{w m Y y b j}(h:aC w m Y y)(n:jd w b.jp m b.lp b.bp b.a b.cap j)(u:Nums w b.a j.l)(t:j.l≠[])(G:j.l.length<=b.cap)(x:Apart b.a (fpY m {Y with jb:=b} {y with j:=some j})) :
  aC (w.setCell ⟨m,12,O⟩ b.jp) m {Y with jb:=b} {y with j:=some j}:=by
 obtain⟨D,F,I⟩:=h.lC;obtain⟨c,L,_⟩:=h.blk.is;have d:Kept _ w (w.setCell ⟨m,12,O⟩ b.jp):=Kept.setCell (S:=λk=>k=m)  (Kept.refl _ w) (.inl rfl) _;have A:=λi (f:i<5) k (r:Y.fpF y.s i k)=>d.block k (h.lY f r) (λe=>D i f (by simp_all))
 refine⟨h.blk.zM b _,λi v f q=>(h.img i v f q).aY λk d=>A i f k (by rw[Yh.eY q];exact d),λi f q=>(h.dev i f q).keep λk d=>A i f k (by rw[Yh.dN q];exact d),h.top.keep λk r=>d.block k (h.top.lt k r).2 (λe=>F (by rw[<- e];exact r)),h.apart,h.apTop,λj' B=>?_⟩;have e  := jaQ B;subst e;have J:=n.blk;have z:w.heap[b.lp]?=_:=n.set;have K:w.heap[b.bp]?=_:=n.bkt;obtain⟨C,E,H⟩:=n.lts;refine⟨n.keep (d.block _ C λe=>?_) (d.block _ E λe=>?_) (d.block _ H λe=>?_),u.keep λg o e=>d.block g (u.lt t e) λz=>x g o e (.inl z),t,G,x⟩
 .simp_all
 .simp_all
 .simp_all
def goV(b:Jh)(y:YV):Value:=if y.busy=true then .pointer (S ⟨b.jp,0,O⟩) else .pointer O
def qh{f Y y}(w)(h:aC w f Y y) :
  κ prog 123 #[f] w λe w'=>e=.returned (goV Y.jb y)/\w'=w:=by
 obtain⟨m,l,k,i,b,g⟩:=h.blk.cells;unfold goV YV.busy
 cases a:y.j with
 | none =>
  rw[a] at b;unfold rC at *
  go_enter func123,ntmps123;go_wp2;go_ret;exact⟨rfl,rfl⟩
 | some j =>
  have c:=ah (BQ w (h.job j a).1);rw[a] at b;unfold rC at *
  by_cases d:j.stage<4
  .show κ _ _ _ _ λe w'=>e=.returned (if decide _=true then _ else _)/\_
   rw[(decide_eq_true d)] at *
   rw[if_pos rfl];go_enter func123,ntmps123;go_wp2_with fail;refine cSt c ?_;go_wp2;go_ret;exact⟨rfl,rfl⟩
  .show κ _ _ _ _ λe w'=>e=.returned (if decide _=true then _ else _)/\_
   rw[(decide_eq_false d)] at *
   rw[if_neg (by decide)];go_enter func123,ntmps123;go_wp2_with fail;refine cSt c ?_;go_wp2;go_ret;exact⟨rfl,rfl⟩
def uy{c C m Y y}(w)(h:aC w c Y y)(k:YOk y C m) :
  κ prog 92 #[c] w λe w' =>
    ∃g o cap,e=.returned (.slice (S ⟨g,o,O⟩) y.l.length cap)/\Nums w' (S ⟨g,o,O⟩) y.l/\w<=g/\g<w'/\y.l.length<=cap/\β w w w':=by
 obtain⟨G,I,J,v,D,F⟩:=h.blk.cells
 have z:χ (∀ W:ω,β w w W->κ prog 77 #[.pointer (S ⟨c,6,O⟩),y.kd.root] W λe w'=>∃(g o cap:Nat),e=.returned (.tuple #[.slice (S ⟨g,o,O⟩) y.l.length cap,.nilIface])/\Nums w' (S ⟨g,o,O⟩) y.l/\w.heap.size<=g/\g<w'.heap.size/\y.l.length<=cap/\β w w w'/\w'.cell? _=S _):=λW d=>by
  have:=vU y.kd.root W ((h.shelf k.s).below d)
  rw[k.ch.walk,aJ] at *
  refine this.mono ?_;rintro e w' ⟨a,cap,rfl,b,i,n⟩;obtain⟨g,o,B,_⟩:=b 0 (List.length_pos_iff.2 k.ch.ne);subst B;obtain⟨j,f,A⟩:=i g o rfl;have q:=d.trans (n.mono d.size);exact⟨g,o,cap,rfl,b,ja4 d.size j,f,A,q,(h.below q).blk.cells.2.2.2.1⟩
 generalize y.kd.root=r at *
 generalize y.l=l at *
 have t:χ (β w w w.drew):=(ja0 _ _).drew;go_enter func92,ntmps92;go_wp2
 go_region_held3 (λW=>W.cell? ⟨c,11,O⟩=S (r:υ))
  (first|(exact v)|assumption)
  (first
    | (go_at_call 77;refine(z _ t).mono ?_;rintro e E ⟨g,o,cap,rfl,b,i,n,j,f,H⟩;have x:=ah b;have u:=ah f;clear b f))
 go_wp2;go_ret;exact⟨g,o,cap,rfl,x,i,n,j,u⟩
def ZA{a C m Y y}(w)(h:aC w a Y y)(c:YOk y C m) :
  κ prog 66 #[a] w λe w' =>
   ∃g o cap,e=.returned (.slice (S ⟨g,o,O⟩) y.l.length cap)/\Nums w' (S ⟨g,o,O⟩) y.l/\w<=g/\g<w'/\y.l.length<=cap/\β w w w':=by
 go_enter func66,ntmps66;go_wp2_with fail;refine(uy w h c).mono ?_;rintro e w' ⟨g,o,cap,rfl,b⟩;go_wp2;go_ret;exact⟨g,o,cap,rfl,b⟩
def ZY{f C m Y y}(w)(h:aC w f Y y)(q:YOk y C m) :
  κ prog 67 #[f] w λe w' =>
   e=.returned (match y.j with|none=>.agg #[(0:Int),(-1:Int),(0:Int),(0:Int)] | some j=>.agg #[j.kind,j.file,j.state,.int .i64 (S4.cnt j.x 64:Nat)])/\β w w w':=by
 obtain⟨z,A,E,u,c,s⟩:=h.blk.cells
 cases g:y.j with
 | none =>
  rw[g] at c;unfold rC at *
  have l:(w.alloc (.cells #[(0:Int),(0:Int),(0:Int),(0:Int)] 120)).cell? ⟨f,12,O⟩=S (.pointer O):=(((ja0 w.heap.size w).alloc (ja1 _) _).cell (p:=⟨f,12,O⟩) h.blk.lt).trans c;go_enter func67,ntmps67;go_wp2;exact bodyPost_ret (v:=.agg _) (by simp[results,results67,go_sem]) rfl ⟨rfl,(ja0 _ _).alloc (ja1 _) _⟩
 | some j =>
  have d:χ (β w w (w.alloc (.cells #[(0:Int),(0:Int),(0:Int),(0:Int)] 120))):=(ja0 _ _).alloc (ja1 _) _;rw[g] at c;unfold rC at *
  have l  := (d.cell  h.blk.lt).trans c;go_enter func67,ntmps67;go_wp2_with fail;refine cEq (zT _ (((h.below d).job j g).1) (q.set j g).1) λa i=>?_
  have b  := (i.block _ (by simp)).trans (heap_alloc_new w _);have k:a.cell? ⟨w,0,O⟩=S (.int .i64 0):=by rw[cell_of_row _ _ _ _ _ _ b];rfl
  have n:a.cell? ⟨w,1,O⟩=S (.int .i64 0):=by rw[cell_of_row _ _ _ _ _ _ b];rfl
  have q2:a.cell? ⟨w,2,O⟩=S (.int .i64 0):=by rw[cell_of_row _ _ _ _ _ _ b];rfl
  have o:a.cell? ⟨w,3,O⟩=S (.int .i64 0):=by rw[cell_of_row _ _ _ _ _ _ b];rfl
  have r:=frozen_of_row a w.heap.size 0 _ _ b;have t:=frozen_of_row a w.heap.size 1 _ _ b;have B:=frozen_of_row a w.heap.size 2 _ _ b;have D:=frozen_of_row a w.heap.size 3 _ _ b;go_wp2;exact bodyPost_ret  (by simp[results,results67,go_sem,k,n,q2,o]) rfl ⟨rfl,((((d.trans (i.mono d.size)).setCell (ja1 _) _).setCell (ja1 _) _).setCell (ja1 _) _).setCell (ja1 _) _⟩
def ZU{i C m Y y}(fr n:Int)(w)(h:aC w i Y y)(d:YOk y C m)(k:C<=40)(q : -9223372036854775808<=fr/\fr<=9223372036854775807) :
  κ prog 25 #[i,fr,n] w λe w'=>e=.returned (.tuple #[.string (y.s.fG y.l fr n),erV (y.s.aT y.l fr n)])/\β w w w':=by
 have t:χ (∀ W:ω,β w w W->κ prog 92 _ W λe w'=>∃(g o cap:Nat),e=.returned _/\Nums w' _ y.l/\β w w w'):=λW b=>(uy W (h.below b) d).mono λe w' ⟨g,o,cap,c,f,_,_,_,x⟩=>⟨g,o,cap,c,f,b.trans (x.mono b.size)⟩
 have z:χ (∀(W:ω) (a:Option Addr) (cap:Nat),β w w W->Nums W a y.l->κ prog 94 #[.pointer _,.slice a y.l.length cap,fr,n] W λe w'=>e=.returned _/\β w w w'):=λW a cap b u =>
  (NK y.l fr n W ((h.shelf d.s).below b) u d.ch.good (by have:=d.ch.len;omega) k q).mono λe w' ⟨c,f⟩=>⟨c,b.trans (f.mono b.size)⟩
 generalize y.s.fG y.l fr n=T at *
 generalize erV _=E at *
 generalize y.l=l at *
 have v:χ (β w w w.drew):=(ja0 _ _).drew;go_enter func25,ntmps25;go_wp2
 go_region_held3 (λ_=>True)
  (first|trivial|assumption)
  (first
    | (go_at_call 92;refine(t _ v).mono ?_;rintro e j ⟨g,o,cap,rfl,c,A⟩;have B:=ah (z j _ cap A c);have G:=True.intro)
    | (go_at_call 94;refine cHd B λF r=>?_;have D:=True.intro))
 go_wp2;go_ret2;exact⟨rfl,r⟩
def aC.xq{w l w' d m' Y y z f}(h:aC w d Y y)(m:β w w l)(v:bH w' d f z m')(o:Moved (fpS Y.xs y.s) l (fpS f z) w') :
  aC w' d {Y with xs:=f} {y with s:=z}/\Moved (fpY d Y y) w (fpY d {Y with xs:=f} {y with s:=z}) w':=by
 have c:=h.below m
 obtain⟨t,u⟩:=c.lG  v o (λk b=>.inl b) (λk b=>by
  rcases b with b|b
  .exact .inl b
  .exact .inr ⟨c.gG (.inr (.inr (.inr b))),.inr b⟩) Iff.rfl (λa q=>⟨a,q,rfl,by
  obtain⟨A,_⟩:=c.job a q;have n:y.j≠none:=by simp_all
  have g:=λk (b:k=Y.jb.jp\/k=Y.jb.lp\/k=Y.jb.bp)=>o.block (c.gG (.inr (.inr (.inr ⟨n,b⟩)))) (λe=>by
   obtain⟨i,x,r⟩:=c.inS e
   exact(c.kW ⟨n,b⟩).1 i x r)
  exact A.keep (g _ (.inl rfl)) (g _ (.inr (.inl rfl))) (g _ (.inr (.inr rfl)))⟩)
 exact⟨t,(Moved.of_below m).trans u⟩
def aC.wX{w c w' a m' Y y R e}(h:aC w a Y y)(i:β w w c)(hd:dA c a Y.xs y.s m' R e w') :
  e=.returned (erV R.2)/\∃ b,b.jb=Y.jb/\aC w' a b {y with s:=R.1}/\Moved (fpY a Y y) w (fpY a b {y with s:=R.1}) w':=by
 obtain⟨d,k,f,g⟩:=hd;obtain⟨j,l⟩:=h.xq i f g;exact⟨k,{Y with xs:=d},rfl,j,l⟩
def aC.vg{w i w' d m C Y y z j a}(h:aC w d Y y)(v:y.j=S j)(f:β w w i)(hd:dw d Y.jb.jp Y.jb.lp Y.jb.bp Y.jb.a Y.jb.cap Y.xs y.s z m C a i w')(q:a.l=j.l) :
  ∃ g,g.jb=Y.jb/\aC w' d g {y with s:=z,j:=S a}/\Moved (fpY d Y y) w (fpY d g {y with s:=z,j:=S a}) w':=by
 obtain⟨o,n,r⟩:=hd;have u:y.j≠none:=by simp_all
 obtain⟨t,x⟩:=(h.below f).lG (j':=S a) n.shelf r (λk c=>by
  rcases c with c|c
  .exact .inl c
  .exact .inr ⟨u,c⟩) (λk c=>by
  rcases c with c|c
  .exact .inl (.inl c)
  .exact .inl (.inr c.2)) (by simp_all) (λb f=>by
  cases f
  exact⟨j,v,q,n.job⟩)
 exact⟨{Y with xs:=o},rfl,t,(Moved.of_below f).trans x⟩
def ay(a:Nat)(Y:Yh)(y y':YV)(w w':ω):Prop:=∃ b:Yh,b.jb=Y.jb/\aC w' a b y'/\Moved (fpY a Y y) w (fpY a b y') w'
def ay.out{w w' a Y y z}(h:ay a Y y z w w'):qQ a Y y z w w':=by
 obtain⟨b,f,d,c⟩:=h;exact⟨b,.inl f,d,c⟩
theorem ay.refl{w a Y y}(h:aC w a Y y):ay a Y y y w w:=⟨Y,rfl,h,Moved.refl _ _⟩
theorem ay.below{w w' a Y y}(h:aC w a Y y)(b:β w w w'):ay a Y y y w w':=⟨Y,rfl,h.below b,Moved.of_below b⟩
theorem ay.trans{w c w' a Y b y y1 y'}(g:b.jb=Y.jb)(d:Moved (fpY a Y y) w (fpY a b y1) c)(h:ay a b y1 y' c w'):ay a Y y y' w w':=by
 obtain⟨f,k,j,i⟩:=h;exact⟨f,k.trans g,j,d.trans i⟩
def ay.from{w:ω}{a w' b Y y y'}(i:β w w a)(h:ay b Y y y' a w'):ay b Y y y' w w':=by
 obtain⟨c,g,f,d⟩:=h;exact⟨c,g,f,(Moved.of_below i).trans d⟩
def aC.wO{w c m C Y y j}(h:aC w c Y y)(f:y.s.ok m)(k:y.j=S j)(i:JOk y.s C j):PJ w c Y.jb.jp Y.jb.lp Y.jb.bp Y.jb.a Y.jb.cap Y.xs y.s m C j:=by
 obtain⟨n,d,r,l,q⟩:=h.job j k;refine⟨h.shelf f,n,d,λg o e b=>q g o e ?_,i,l⟩;rcases b with b|b
 .exact .inr (.inl (h.inS b))
 .exact .inr (.inr (.inr ⟨(by simp_all),b⟩))
def TL{y:YV}(h:y.busy≠true)(fr n):y.mark fr n=y:=by
 unfold YV.mark
 cases a:y.j with
 | none =>
  show({y with j:=O}:YV)=y
  rw[<- a]
 | some j =>
  show({y with j:=S (iW j fr n)}:YV)=y
  rw[OZ (mY h j a),<- a]
def TM(y:YV)(fr):y.mark fr 0=y:=by
 unfold YV.mark;have:(y.j.map λj=>iW j fr 0)=y.j:=by cases y.j<;>rfl
 rw[this]
def FK(j c):∀ k,(lH j c k).l=j.l:=by
 intro k
 induction k with
 | zero=>rfl
 | succ k a =>
  show(eU _ _).l=j.l
  unfold eU;split<;>exact a
theorem JOk.lH{s C j}(h:JOk s C j)(c):∀ k,JOk s C (lH j c k):=by
 intro k
 induction k with
 | zero=>exact h
 | succ k a=>exact a.dirty _
def kab{b m Y y}(s:ByteArray)(w)(h:aC w b Y y)(a:y.top.fine y.top.fl.length m)(j:m<1000000000)(g:s.size=16) :
  κ prog 105 #[Y.tp.p,(0:Int),s] w λe w'=>e=.returned (erV y.top.aV)/\ay b Y y {y with top:=y.top.put 0 s.data.toList} w w':=by
 refine(yt 0 s w h.top.ou a j (ja1 _) g (by have:=a.ok.n1;omega)).mono ?_;rintro e w' ⟨v2,rfl,c,d⟩;obtain⟨f,n⟩:=h.qL  c.noG rfl (c.moved d λk l i=>i.2 l);exact⟨rfl,{Y with tp:={Y.tp with v2:=v2}},rfl,f,n⟩
def kaa{b Y y}(w)(h:aC w b Y y) :
  κ prog 106 #[Y.tp.p] w λe w'=>e=.returned (.tuple #[])/\ay b Y y {y with top:=y.top.flushed} w w':=by
 refine(flush_any w h.top.toaS).mono ?_;rintro e w' ⟨rfl,g,d⟩;have c  := h.top.ou.nilled g;obtain⟨f,i⟩:=h.qL  c.noG rfl (c.moved d λk a j=>j.2 (by rcases a with a|a;exact .inl a;exact .inr (.inl a)));exact⟨rfl,{Y with tp:={Y.tp with v2:=.slice _ 0 0}},rfl,f,i⟩
def OJ(d:aP):(gK d.kv.bytes).size=16:=zG _ (by show 9<=12;omega)
def vJ{a m Y y}(d w)(h:aC w a Y y)(I:y.top.fine y.top.fl.length m)(hd:d.kv.fault=0)(L:m<1000000000) :
  κ prog 31 #[a,.agg #[d.root,d.kind,d.file,d.rate,d.burst]] w λe w'=>e=.returned (erV y.aN)/\ay a Y y (y.aA d) w w':=by
 have n:χ (β w w (w.alloc (bI d))):=(ja0 _ _).alloc (ja1 _) _;have b:=h.below n;have A:χ (κ prog 104 #[.agg #[d.root,d.kind,d.file,d.rate,d.burst]] (w.alloc (bI d)) λe w'=>e=.returned (.tuple #[.string (gK d.kv.bytes),.nilIface])/\β (w.alloc (bI d)).heap.size (w.alloc (bI d)) w'):=FD d.root d.kind d.file d.rate d.burst _ hd
 have l:χ (∀(W:ω),β (w.alloc (bI d)).heap.size (w.alloc (bI d)) W->W.cell? ⟨a,5,O⟩=S (Y.tp.p:υ)/\κ prog 105 #[Y.tp.p,(0:Int),.string (gK d.kv.bytes)] W λe w'=>e=.returned (erV y.top.aV)/\ay a Y y {y with top:=y.top.put 0 (YV.ng d)} (w.alloc (bI d)) w'):=λW o =>
  ⟨(b.below o).blk.cells.2.1,(kab _ W (b.below o) I L (OJ d)).mono λe w' ⟨b,c⟩=>⟨b,ay.from o c⟩⟩
 have P:χ (∀ z:YV,∀ W:ω,ay a Y y z (w.alloc (bI d)) W->∃ t:Nat,W.cell? ⟨a,5,O⟩=S (t:υ)/\κ prog 106 #[t] W λe w'=>e=.returned (.tuple #[])/\ay a Y y {z with top:=z.top.flushed} (w.alloc (bI d)) w'):=λz W ⟨g,v,b,c⟩ =>
  ⟨g.tp.p,b.blk.cells.2.1,(kaa W b).mono λe w' ⟨u,q⟩=>⟨u,ay.trans v c q⟩⟩
 have D:χ (∀ z:YV,∀ W:ω,ay a Y y z (w.alloc (bI d)) W->(∃ r,W.cell? ⟨a,11,O⟩=S (.int .i64 r))/\W.frozen? ⟨a,11,O⟩=false/\ay a Y y {z with kd:=d} w (W.setCell ⟨a,11,O⟩ d.root)):=λz W ⟨g,v,b,c⟩=>by
  obtain⟨_,_,_,G,_,H⟩:=b.blk.cells;obtain⟨u,q⟩:=b.xg d;exact⟨⟨_,G⟩,H 11,g,v,u,(Moved.of_below n).trans (c.trans q)⟩
 have M:χ (∀ z:YV,∀ W:ω,ay a Y y z (w.alloc (bI d)) W->W.cell? ⟨w,0,O⟩=S (d.root:υ)):=λz W ⟨g,_,_,c⟩=>by
  have E:=c.block (k:=w.heap.size) (by simp) (λe=>by have:=h.gG e;omega);rw[heap_alloc_new] at *
  unfold bI at *
  rw[cell_of_row _ _ _ _ _ _ E];rfl
 have C:=ah λz W (hd:ay a Y y z _ W)=>ay.from n hd
 unfold YV.aA YV.aN;generalize y.top.aV=F at *
 unfold bI at *
 by_cases f:F=0
 .rw[if_pos f,f,aJ];rw[f,aJ] at l;go_enter func31,ntmps31;go_wp2_with fail;refine cEq A λj x=>?_
  obtain⟨K,s⟩:=l j x;go_wp2_with fail;refine cEq s λQ i=>?_
  obtain⟨t,V,J⟩:=P _ _ i;go_wp2_with fail;refine cEq J λT B=>?_
  have R:=M _ _ B;obtain⟨⟨r,U⟩,q2,N⟩:=D _ _ B;go_wp2;go_ret;exact⟨rfl,N⟩
 .rw[if_neg f];rw[bC f] at *
  go_enter func31,ntmps31;go_wp2_with fail;refine cEq A λj x=>?_
  obtain⟨K,s⟩:=l j x;go_wp2_with fail;refine cEq s λQ i=>?_
  go_wp2;go_ret;exact⟨rfl,(C _ _ i)⟩
def xM(r:Int)(w):κ prog 32 #[r] w λe w'=>e=.returned (.agg #[.int .i64 (aj r).root,.int .i64 (aj r).kind,.int .i64 (aj r).file,.int .i64 (aj r).rate,.int .i64 (aj r).burst])/\β w w w':=by
 go_enter func32,ntmps32;go_wp2;exact bodyPost_ret (v:=.agg #[r,(0:Int),(-1:Int),(0:Int),(0:Int)]) (by simp[results,results32,go_sem]) rfl ⟨rfl,(ja0 _ _).alloc (ja1 _) _⟩
structure jy(w:ω)(yp k:Nat)(hs:Nat->Hd)(D:DV)(tv:υ):Prop where
 blk:∃ cur,w.heap[yp]?=S (.cells cur 74 (0,0))/\cur.size=13/\(∀ i,i<k->cur[i]?=S ((hs i).p:υ))/\cur[5]?=S tv/\(∀ i,i<5->cur[6+i]?=S (.pointer O))/\cur[11]?=S (.int .i64 0)/\cur[12]?=S (.pointer O)
 dev:∀ i,i<k->bV Gd.no w (hs i) D
 past:∀ i,i<k->∀ b,(hs i).fp b->yp<b
 apart:∀ i j,i<k->j<k->i≠j->∀ b,(hs i).fp b->¬(hs j).fp b
def setH(a:Nat->Hd)(k:Nat)(h:Hd):Nat->Hd:=λi=>if i=k then h else a i
def jy.lt{w a k f D b}(h:jy w a k f D b):a<w:=by
 obtain⟨c,d,_⟩:=h.blk;exact lt_of_some d
def jy.below{w w' c k g D a}(h:jy w c k g D a)(f:β w w w'):jy w' c k g D a :=
 ⟨by rw[f.block _ h.lt];exact h.blk,λi d=>(h.dev i d).keep λb j=>f.block b ((h.dev i d).lt b j).2,h.past,h.apart⟩
def jy.cell{w a k f D d}(h:jy w a k f D d)(i)(j:i<13):(∃ v,w.cell? ⟨a,i,O⟩=S v)/\w.frozen? ⟨a,i,O⟩=false:=by
 obtain⟨c,b,g,_⟩:=h.blk;refine⟨⟨c[i]'(by omega),?_⟩,frozen_of_row w a i _ _ b⟩;rw[cell_of_row w a i _ _ _ b];simp_all
def jy.FH{w a k b D d}(h:jy w a k b D d){i}(j:i<k):w.cell? ⟨a,i,O⟩=S ((b i).p:υ):=by
 obtain⟨c,f,l,g,_⟩:=h.blk;rw[cell_of_row w a i _ _ _ f];exact g i j
def jy.root{w a k g D b}(h:jy w a k g D b):w.cell? ⟨a,11,O⟩=S (.int .i64 0):=by
 obtain⟨c,f,i,n,j,m,d,l⟩:=h.blk;rw[cell_of_row w a 11 _ _ _ f];exact d
def jy.step{w f g k t D u}(h:jy w g k t D u)(H:k<5){d}(n:β w w f){N:Nat}(G:w<=N)(hd:aS N f d D) :
  jy (f.setCell ⟨g,k,O⟩ d.p) g (k+1) (setH t k d) D u:=by
 have q:=h.below n;obtain⟨c,x,B,C,A,y,z,v⟩:=q.blk;have F:=h.lt;have r:∀ b,b≠g->(f.setCell ⟨g,k,O⟩ d.p).heap[b]?=f.heap[b]?:=λb n=>heap_setCell_other _ _ _ _ n
 refine⟨⟨_,heap_setCell_same f g k _ _ _ x,by simpa using B,λi m=>?_,?_,λi m=>?_,?_,?_⟩,λi m=>?_,λi m b a=>?_,λi j m I s b a o=>?_⟩
 .unfold setH;by_cases e:i=k
  .rw[e,if_pos rfl,jac (by omega)]
  .rw[if_neg e,ja3 (λl=>e l.symm)];exact C i (by omega)
 .rw[ja3 (by omega)];exact A
 .rw[ja3 (by omega)];exact y i m
 .rw[ja3 (by omega)];exact z
 .rw[ja3 (by omega)];exact v
 .unfold setH;by_cases e:i=k
  .rw[if_pos e];exact⟨hd.base0.keep λb a=>r b (by have:=(hd.lt b a).1;omega),λ_ _ e=>e⟩
  .rw[if_neg e];exact(q.dev i (by omega)).keep λb a=>r b (by have:=q.past i (by omega) b a;omega)
 .unfold setH at *
  by_cases e:i=k
  .rw[if_pos e] at *;have:=(hd.lt b a).1;omega
  .rw[if_neg e] at *;exact h.past i (by omega) b a
 .unfold setH at *
  by_cases e:i=k
  .rw[if_pos e] at *
   rw[if_neg (λl=>s (by rw[e,l]))] at *
   have E:=(hd.lt b a).1;have q2:=((h.dev j (by omega)).lt b o).2;omega
  .rw[if_neg e] at *
   by_cases l:j=k
   .rw[if_pos l] at *
    have E:=(hd.lt b o).1;have q2:=((h.dev i (by omega)).lt b a).2;omega
   .rw[if_neg l] at *;exact h.apart i j (by omega) (by omega) s b a o
def jy.qL{w g a l D t}(h:jy w a 5 l D t){d:Hd}(k:β w w g) :
  jy (g.setCell ⟨a,5,O⟩ d.p) a 5 l D (.pointer (S ⟨d.p,0,O⟩)):=by
 have j:=h.below k;obtain⟨c,n,q,r,x,o,v,u⟩:=j.blk;have s:∀ b,b≠a->(g.setCell ⟨a,5,O⟩ d.p).heap[b]?=g.heap[b]?:=λb k=>heap_setCell_other _ _ _ _ k
 refine⟨⟨_,heap_setCell_same g a 5 _ _ _ n,by simpa using q,λi f=>?_,?_,λi f=>?_,?_,?_⟩,λi f=>?_,j.past,j.apart⟩
 .rw[ja3 (by omega)];exact r i f
 .simp_all
 .rw[ja3 (by omega)];exact o i f
 .simp_all
 .simp_all
 .exact(j.dev i f).keep λb m=>s b (by have:=j.past i f b m;omega)
def wE:Jh:=⟨0,0,0,O,0⟩
def jy.aZ{w n f l c p t x}(h:jy w f 5 l (iP (aQ (newH c p))) (.pointer (S ⟨t.p,0,O⟩)))(B:bV Gd.no w t (iP 1))(V:∀ b,t.fp b->f<b)(E:∀ i,i<5->∀ b,t.fp b->¬(l i).fp b)
  (u:Moved (l 0).fp w x.fp n) (W:aI Gd.no n x (crV (iP (aQ (newH c p))) (newH c p))) (P:x.h.p=(l 0).p) :
  aC (n.setCell ⟨f,6,O⟩ x.p) f ⟨l,t,λ_=>x,wE⟩ (nS c p)/\∀ b,fpY f ⟨l,t,λ_=>x,wE⟩ (nS c p) b->b=f\/(∃ i,i<5/\(l i).fp b)\/t.fp b\/w<=b:=by
 obtain⟨Y,J,Z,N,U,K,L,R⟩:=h.blk;have F:¬(l 0).fp f:=λe=>by have:=h.past 0 (by omega) f e;omega
 have X  := u.block h.lt F;have D:∀ b,b≠f->(n.setCell ⟨f,6,O⟩ x.p).heap[b]?=n.heap[b]?:=λb M=>heap_setCell_other _ _ _ _ M
 have H:(nS c p).s 0=S (crV (iP (aQ (newH c p))) (newH c p)):=rfl
 have m:∀ i,i≠0->(nS c p).s i=none:=λi a=>by
  have e:(nS c p).s i=if i=0 then S (crV (iP (aQ (newH c p))) (newH c p)) else none:=rfl
  rw[e,if_neg a]
 have r:=λb (e:x.fp b)=>u.new b e
 have Q:∀ b,x.fp b->b≠f:=λb e C=>by
  rcases r b e with g|g
  .exact F (by rw[<- C];exact g)
  .have:=h.lt;omega
 have T:∀ i,i<5->i≠0->∀ b,(l i).fp b->(n.setCell ⟨f,6,O⟩ x.p).heap[b]?=w.heap[b]?:=λi a A b d=>by
  rw[D b (by have:=h.past i a b d;omega)];exact u.block ((h.dev i a).lt b d).2 (λe=>h.apart i 0 a (by omega) A b d e)
 refine⟨⟨⟨_,heap_setCell_same n f 6 _ _ _ (X.trans J),λi a=>?_,?_,λi a=>?_,?_,?_⟩,λi v a y=>?_,λi a y=>?_,?_,λi j a z G b d o=>?_,λi a b d o=>?_,λj z=>(by cases z)⟩,λb d=>?_⟩
 .rw[ja3 (by omega),N i a];by_cases e:i=0
  .subst e;rw[Yh.lX H];rw[P]
  .rw[Yh.dp_none (m i e)]
 .rw[ja3 (by omega)];exact U
 .by_cases e:i=0
  .subst e;rw[jac (by omega),H];rfl
  .rw[ja3 (by omega),K i a,m i e];rfl
 .rw[ja3 (by omega)];exact L
 .rw[ja3 (by omega)];exact R
 .by_cases e:i=0
  .subst e;cases y;exact W.aY λb d=>D b (Q b d)
  .rw[m i e] at *;cases y
 .by_cases e:i=0
  .subst e;cases y
  .exact(h.dev i a).keep λb d=>T i a e b d
 .exact B.keep λb d=>by
   rw[D b (by have:=V b d;omega)];exact u.block (B.lt b d).2 (E 0 (by omega) b d)
 .have I:∀ i,i<5->i≠0->(l i).fp b->¬x.fp b:=λi a A e C=>by
   rcases r b C with g|g
   .exact h.apart i 0 a (by omega) A b e g
   .have:=((h.dev i a).lt b e).2;omega
  by_cases k:i=0
  .have q:j≠0:=λe=>G (by rw[k,e])
   subst k;rw[Yh.dN (m j q)] at *
   exact I j z q o d
  .rw[Yh.dN (m i k)] at *
   by_cases q:j=0
   .subst q;exact I i a k d o
   .rw[Yh.dN (m j q)] at *;exact h.apart i j a z G b d o
 .by_cases k:i=0
  .subst k;rcases r b o with g|g
   .exact E 0 (by omega) b d g
   .have:=(B.lt b d).2;omega
  .rw[Yh.dN (m i k)] at *;exact E i a b d o
 .rcases d with e|⟨i,a,e⟩|e|e
  .exact .inl e
  .by_cases k:i=0
   .subst k;rcases r b e with g|g
    .exact .inr (.inl ⟨0,by omega,g⟩)
    .exact .inr (.inr (.inr g))
   .rw[Yh.dN (m i k)] at e;exact .inr (.inl ⟨i,a,e⟩)
  .exact .inr (.inr (.inl e))
  .exact absurd rfl e.1
def NS{B g cap}(l w)(I:1<=l.length)(E:l.length<=1000000000)(m:∀ x∈l,x.2.length=16)
  (c:w.ownsRow B 180 17 (.slice (S ⟨g,0,O⟩) l.length cap) l.length (jw l)) :
  κ prog 147 #[.slice (S ⟨g,0,O⟩) l.length cap] w λe w' =>
   ∃ b a,e=.returned (.slice (S ⟨b,0,O⟩) l.length a)/\w'.ownsRow w 180 17 (.slice (S ⟨b,0,O⟩) l.length a) l.length (jw l)/\β w w w':=by
 obtain⟨d,q,o,t,f⟩:=info_parts Hg;have r:=wK c;have y:=Zw l m;have i:=Ei l;obtain⟨_,z,F,_⟩:=fB c
 have n:χ (∀ j u,(jw l)[j]?=S u->(w.alloc (.cells #[] 180)).cell? ((⟨g,0,O⟩:Addr).add j)=S u):=λj u s=>by
  have:=r j u s
  rw[jbi _ _ _ (ja2 w _ this)];exact this
 have H  := λw=>by
  simpa using jbE (P:=prog) w 176 180 (S ⟨g,0,O⟩) l.length cap 0 0 underlying176
 go_enter func147,ntmps147;go_wp2_with (at_builtin;refine wpList_append_lies _ rfl _ _ 176 rfl w.heap.size 180 d En 17 24 underlying176 q o t f rfl (by decide) _ 0 [] rfl (Jd w _ 17) _ _ _ _ rfl y n i (by omega) (by omega) (by omega) (by simp) _ rfl ?_;intro b a A C v G D)
 go_ret
 exact⟨b,a,rfl,by simp_all,((ja0 _ _).alloc (ja1 _) _).grown (row:=S _) v (by simp) (λk e=>by
  simp_all)⟩
def NU(w) :
  κ prog 147 #[.slice O 0 0] w λe w'=>e=.returned (.slice O 0 0)/\w'=w:=by
 have a  := λw=>by
  simpa using jbE  w _ _ O 0 0 0 0 underlying176
 go_enter func147,ntmps147;go_wp2;go_ret;simp_all
def NT{B h d}(w)(hd:aS B w h d) :
  κ prog 147 #[h.v2] w λe w' =>
   ∃ a c,e=.returned (.slice a d.pend.length c)/\w'.ownsRow w 180 17 (.slice a d.pend.length c) d.pend.length (jw d.pend)/\β w w w'/\(d.pend=[]->(Value.slice a d.pend.length c)=.slice O 0 0):=by
 by_cases f:d.pend=[]
 .rw[hd.pn f];refine(NU w).mono ?_;rintro e w' ⟨rfl,rfl⟩;rw[f];exact⟨O,0,rfl,jaa _ _ _ _,ja0 _ _,λ_=>rfl⟩
 .have i  := List.length_pos_iff.2 f;obtain⟨g,cap,l,_⟩:=hd.op.form i;have j:=hd.op;rw[l] at *
  refine(NS _ w i (by have:=hd.ok.few;have:=hd.ok.few2;omega) (λx k=>(hd.ok.l3 x k).2) j).mono ?_;rintro e w' ⟨n,m,rfl,a,b⟩;exact⟨_,_,rfl,a,b,λq=>absurd q f⟩
def yc{B h d}(w)(hd:aS B w h d) :
  κ prog 73 #[h.p] w λe w' =>
   ∃ I,e=.returned I.p/\aS w w' I d/\β w w w':=by
 obtain⟨c0,c1,c2,c3,c4,fz⟩:=hd.cells;have r  := (hd.lt _ (.inl rfl)).2;have j:χ (aS B w h d):=hd;obtain⟨c,g,H⟩:=hd.v2;have HV:χ (h.v2=.slice c d.pend.length g):=H;rw[H] at c2;have N:=hd.ok.n1;have L:=hd.ok.n2;have x:χ (β w w (w.alloc (.cells #[.slice (S ⟨h.bf,0,O⟩) d.fl.length h.cf,.slice (S ⟨h.bs,0,O⟩) d.fl.length h.cs,.slice c d.pend.length g,(d.wr:Int),d.fail] 178))):=(ja0 _ _).alloc (ja1 _) _;have U:χ ((w.alloc (.cells #[.slice (S ⟨h.bf,0,O⟩) d.fl.length h.cf,.slice (S ⟨h.bs,0,O⟩) d.fl.length h.cs,.slice c d.pend.length g,(d.wr:Int),d.fail] 178)).heap[w.heap.size]?=S (.cells #[.slice (S ⟨h.bf,0,O⟩) d.fl.length h.cf,.slice (S ⟨h.bs,0,O⟩) d.fl.length h.cs,.slice c d.pend.length g,(d.wr:Int),d.fail] 178 (0,0))):=heap_alloc_new w _;have a0:χ ((w.alloc (.cells #[.slice (S ⟨h.bf,0,O⟩) d.fl.length h.cf,.slice (S ⟨h.bs,0,O⟩) d.fl.length h.cs,.slice c d.pend.length g,(d.wr:Int),d.fail] 178)).heap.size=w.heap.size+1):=by unfold χ;simp
 have am:(w.alloc (.cells #[.slice (S ⟨h.bf,0,O⟩) d.fl.length h.cf,.slice (S ⟨h.bs,0,O⟩) d.fl.length h.cs,.slice c d.pend.length g,(d.wr:Int),d.fail] 178)).cell? ⟨h.p,0,O⟩=S (.slice (S ⟨h.bf,0,O⟩) d.fl.length h.cf):=by rw[x.out.cell r];exact c0
 go_enter func73,ntmps73;go_wp2_with fail;generalize w.alloc (.cells #[.slice (S ⟨h.bf,0,O⟩) d.fl.length h.cf,.slice (S ⟨h.bs,0,O⟩) d.fl.length h.cs,.slice c d.pend.length g,(d.wr:Int),d.fail] 178)=m at *
 have F:χ (∀ W:ω,β w w W->aS B W h d):=(λW (T:β w w W)=>j.keep λk hk=>T.block k (j.lt k hk).2);have a2:w.heap.size<m:=by rw[a0.out];omega
 refine(xZ d.fl m N L j.ok.l1 (F m x).of).mono ?_;rintro e f ⟨g1,a,rfl,J,G⟩;have s:χ (β w w (f.setCell ⟨w,0,O⟩ (.slice (S ⟨g1,0,O⟩) d.fl.length a))):=(x.trans (G.mono (by omega))).setCell (ja1 _) _;have D  := (G.block w.heap.size a2).trans U
 have a6:χ ((f.setCell ⟨w,0,O⟩ (.slice (S ⟨g1,0,O⟩) d.fl.length a)).heap[w.heap.size]?=S (.cells #[.slice (S ⟨g1,0,O⟩) d.fl.length a,.slice (S ⟨h.bs,0,O⟩) d.fl.length h.cs,.slice c d.pend.length g,(d.wr:Int),d.fail] 178 (0,0))):=by
  unfold χ;rw[heap_setCell_same f _ 0 _ _ _ D];rfl
 have z:χ ((f.setCell ⟨w,0,O⟩ (.slice (S ⟨g1,0,O⟩) d.fl.length a)).ownsRow m.heap.size 175 16 (.slice (S ⟨g1,0,O⟩) d.fl.length a) d.fl.length (dU d.fl)):=bg J (λq e=>by
  have:g1=q:=by simpa [Value.ownBlock] using e
  subst this;have:=(fB J).1
  exact heap_setCell_other _ _ _ _ (show g1≠w.heap.size by omega))
 have ac:=frozen_of_row f w.heap.size 0 _ _ D;have ab:=cell_of_row f w.heap.size 0 _ _ _ D;have an:(f.setCell ⟨w,0,O⟩ (.slice (S ⟨g1,0,O⟩) d.fl.length a)).cell? ⟨h.p,1,O⟩=S (.slice (S ⟨h.bs,0,O⟩) d.fl.length h.cs):=by rw[s.out.cell r];exact c1
 have ap:(f.setCell ⟨w,0,O⟩ (.slice (S ⟨g1,0,O⟩) d.fl.length a)).cell? ⟨h.p,2,O⟩=S (.slice c d.pend.length g):=by rw[s.out.cell r];exact c2
 have ae:m.heap.size<=(f.setCell ⟨w,0,O⟩ (.slice (S ⟨g1,0,O⟩) d.fl.length a)).heap.size:=by have:=G.size;simpa [World.setCell] using this
 have a4:g1<(f.setCell ⟨w,0,O⟩ (.slice (S ⟨g1,0,O⟩) d.fl.length a)).heap.size:=by
  obtain⟨_,X,C,_⟩:=fB z;exact lt_of_some C
 go_wp2_with fail;generalize f.setCell ⟨w,0,O⟩ (.slice (S ⟨g1,0,O⟩) d.fl.length a)=t at *
 have Q:=(F t s).os;rw[<- j.out.ok.same] at Q;have a9:=xZ d.seen t (by rw[j.out.ok.same];exact N) (by rw[j.out.ok.same];exact L) j.ok.l2 Q;rw[j.out.ok.same] at *
 refine a9.mono ?_;rintro e i ⟨g2,b,rfl,R,u⟩;have E:χ (β w w (i.setCell ⟨w,1,O⟩ (.slice (S ⟨g2,0,O⟩) d.fl.length b))):=(s.trans (u.mono (by omega))).setCell (ja1 _) _;have A  := (u.block w.heap.size (by omega)).trans a6
 have a1:χ ((i.setCell ⟨w,1,O⟩ (.slice (S ⟨g2,0,O⟩) d.fl.length b)).heap[w.heap.size]?=S (.cells #[.slice (S ⟨g1,0,O⟩) d.fl.length a,.slice (S ⟨g2,0,O⟩) d.fl.length b,.slice c d.pend.length g,(d.wr:Int),d.fail] 178 (0,0))):=by
  unfold χ;rw[heap_setCell_same i _ 1 _ _ _ A];rfl
 have aq:=(fB z).1;have ai:=(fB R).1
 have Z:χ ((i.setCell ⟨w,1,O⟩ (.slice (S ⟨g2,0,O⟩) d.fl.length b)).ownsRow m.heap.size 175 16 (.slice (S ⟨g1,0,O⟩) d.fl.length a) d.fl.length (dU d.fl)):=bg z (λq e=>by
  have:g1=q:=by simpa [Value.ownBlock] using e
  subst this
  rw[heap_setCell_other _ _ _ _ (show g1≠w.heap.size by omega)];exact u.block g1 a4)
 have P:χ ((i.setCell ⟨w,1,O⟩ (.slice (S ⟨g2,0,O⟩) d.fl.length b)).ownsRow t.heap.size 175 16 (.slice (S ⟨g2,0,O⟩) d.fl.length b) d.fl.length (dU d.seen)):=bg R (λq e=>by
  have:g2=q:=by simpa [Value.ownBlock] using e
  subst this
  exact heap_setCell_other _ _ _ _ (show g2≠w.heap.size by omega))
 have ad:=frozen_of_row i w.heap.size 1 _ _ A;have ag:=cell_of_row i w.heap.size 1 _ _ _ A;have aa:(i.setCell ⟨w,1,O⟩ (.slice (S ⟨g2,0,O⟩) d.fl.length b)).cell? ⟨h.p,2,O⟩=S (.slice c d.pend.length g):=by rw[E.out.cell r];exact c2
 have af:t.heap.size<=(i.setCell ⟨w,1,O⟩ (.slice (S ⟨g2,0,O⟩) d.fl.length b)).heap.size:=by have:=u.size;simpa [World.setCell] using this
 have a5:g2<(i.setCell ⟨w,1,O⟩ (.slice (S ⟨g2,0,O⟩) d.fl.length b)).heap.size:=by
  obtain⟨_,X,C,_⟩:=fB P;exact lt_of_some C
 go_wp2_with fail;generalize i.setCell ⟨w,1,O⟩ (.slice (S ⟨g2,0,O⟩) d.fl.length b)=K at *
 have a8:=NT K (F K E);rw[HV.out] at *
 refine a8.mono ?_;rintro e l ⟨o,n,rfl,M,v,a7⟩;have V:χ (β w w (l.setCell ⟨w,2,O⟩ (.slice o d.pend.length n))):=(E.trans (v.mono (by omega))).setCell (ja1 _) _;have y  := (v.block w.heap.size (by omega)).trans a1
 have Y:χ (aS w.heap.size (l.setCell ⟨w,2,O⟩ (.slice o d.pend.length n)) ⟨w.heap.size,g1,a,g2,b,.slice o d.pend.length n⟩ d):=by
  refine⟨j.ok,ja1 _,?_,?_,?_,?_,show g1≠g2 by omega,a7⟩
  .show(l.setCell ⟨w,2,O⟩ (.slice o d.pend.length n)).heap[w.heap.size]?=_
   rw[heap_setCell_same l _ 2 _ _ _ y];rfl
  .exact ownsRow_base (bg Z (λq e=>by
    have:g1=q:=by simpa [Value.ownBlock] using e
    subst this
    rw[heap_setCell_other _ _ _ _ (show g1≠w.heap.size by omega)];exact v.block g1 (by omega))) (by omega)
  .exact ownsRow_base (bg P (λq e=>by
    have:g2=q:=by simpa [Value.ownBlock] using e
    subst this
    rw[heap_setCell_other _ _ _ _ (show g2≠w.heap.size by omega)];exact v.block g2 a5)) (by omega)
  .exact ownsRow_base (bg M (λq e=>by
    have:=(M.lt q e).1
    exact heap_setCell_other _ _ _ _ (show q≠w.heap.size by omega))) (by omega)
 have al:=frozen_of_row l w.heap.size 2 _ _ y;have ao:=cell_of_row l w.heap.size 2 _ _ _ y;go_wp2;go_ret;exact⟨⟨w.heap.size,g1,a,g2,b,.slice o d.pend.length n⟩,rfl,Y,V⟩
