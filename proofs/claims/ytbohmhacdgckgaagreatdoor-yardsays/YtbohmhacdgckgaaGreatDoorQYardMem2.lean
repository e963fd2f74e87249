/- Put and Wipe of a range (G3). -/
import Derived.Test.YtbohmhacdgckgaaGreatDoorQJobP6
set_option linter.all false
set_option maxHeartbeats 2000000
set_option maxRecDepth 100000
namespace Go.Proofs.YtbohmhacdgckgaaGreatDoor
open Go.RowKit renaming Below->β
open Go renaming World->ω, Value->υ, Calls->κ
open Option renaming none->O, some->S
open Go.Proofs.Tryz Go.RowKit Go.Maps
attribute [local go_sem ↓] Go.wp_at_zero Go.wp_at_succ
def QA(l:List Pt)(i:Nat)(h:i<l.length):(kR l)[i*4]?=S (.int .i64 (l[i].c:Int))/\(kR l)[i*4+1]?=S (.int .i64 (l[i].f:Int))/\(kR l)[i*4+2]?=S (.int .i64 (l[i].n:Int))/\(kR l)[i*4+3]?=S (.int .i64 (l[i].a:Int)):=by
 induction l generalizing i with
 | nil=>cases h
 | cons p l b =>
  have e:kR (p::l)=.int .i64 (p.c:Int)::.int .i64 (p.f:Int)::.int .i64 (p.n:Int)::.int .i64 (p.a:Int)::kR l:=rfl
  cases i with
  | zero=>simp_all
  | succ i =>
   have:=b i (by simpa using h)
   rw[show(i+1)*4=i*4+1+1+1+1 by omega]
   simp_all
structure qZ(w:ω)(g cap:Nat)(P:List Pt):Prop where
 own:w.ownsRow 0 224 4 (.slice (S ⟨g,0,O⟩) P.length cap) P.length (kR P)
def qZ.cells{w:ω}{g cap:Nat}{P:List Pt}(h:qZ w g cap P){i:Nat}(j:i<P.length) :
  w.cell? ⟨g,i*4,O⟩=S (.int .i64 (P[i].c:Int))/\w.cell? ⟨g,i*4+1,O⟩=S (.int .i64 (P[i].f:Int))/\w.cell? ⟨g,i*4+2,O⟩=S (.int .i64 (P[i].n:Int))/\w.cell? ⟨g,i*4+3,O⟩=S (.int .i64 (P[i].a:Int)):=by
 obtain⟨k,d,b,l⟩:=QA P i j;refine⟨?_,?_,?_,?_⟩
 .rw[h.own.cellAt _ (by omega)];exact k
 .rw[h.own.cellAt _ (by omega)];exact d
 .rw[h.own.cellAt _ (by omega)];exact b
 .rw[h.own.cellAt _ (by omega)];exact l
def Bq{w:ω}{B n cap:Nat}{a:Option Addr}{P:List Pt}(b:w.ownsRow B 224 4 (.slice a n cap) n (kR P))(d:P.length=n)(f:0<n):∃ g,a=S ⟨g,0,O⟩/\B<=g/\g<w.heap.size/\qZ w g cap P:=by
 obtain⟨g,c2,c,i,j⟩:=b.form f
 injection c with e1 e2 e3
 subst e1;subst d;exact⟨g,rfl,i,j,⟨ownsRow_base b (ja6 _)⟩⟩
structure mJ(w1:ω)(sp:Nat)(xs:Nat->Ih)(s:SV)(m:Nat)(C:Int)(l:List Int)(op:SV->Pt->SV × Int)(P:List Pt)(R:SV × Int)(i:Nat)(ys:Nat->Ih)(z:SV)(wr:ω):Prop where
 shelf:bD wr sp ys z (m+10*i)
 good:z.good C l
 go:jC op z (P.drop i)=R
 moved:Moved (fpS xs s) w1 (fpS ys z) wr
def mJ.step{c wr W g:ω}{sp m i:Nat}{d f:Nat->Ih}{s z:SV}{C:Int}{l:List Int}{a:SV->Pt->SV × Int}{P:List Pt}{R:SV × Int}{e:Ending}(h:mJ c sp d s m C l a P R i f z wr)(o:β wr wr W)(r:i<P.length)(t:∀(s:SV) p,s.good C l->(a s p).1.good C l)(hd:cZ W sp f z (m+10*i+10) (a z P[i]) e g)(k:(a z P[i]).2=0) :
  ∃ b q,mJ c sp d s m C l a P R (i+1) b q g:=by
 obtain⟨b,u,j,n⟩:=hd;refine⟨b,(a z P[i]).1,⟨by exact j,t _ _ h.good,?_,h.moved.trans ((Moved.of_below o).trans n)⟩⟩
 have:=h.go
 rw[Ec r,pY,if_pos k] at this;exact this
def mJ.stop{b wr W f:ω}{sp m i M:Nat}{c d:Nat->Ih}{s z:SV}{C:Int}{l:List Int}{a:SV->Pt->SV × Int}{P:List Pt}{R:SV × Int}{e:Ending}(h:mJ b sp c s m C l a P R i d z wr)(q:β wr wr W)(r:i<P.length)(k:m+10*i+10<=M)(hd:cZ W sp d z (m+10*i+10) (a z P[i]) e f)(n:(a z P[i]).2≠0) :
  R=a z P[i]/\cZ b sp c s M R e f:=by
 have t:R=a z P[i]:=by
  have:=h.go
  rw[Ec r,pY,if_neg n] at this
  simp_all
 obtain⟨g,u,j,o⟩:=hd;rw[t];exact⟨rfl,g,u,j.more k,h.moved.trans ((Moved.of_below q).trans o)⟩
def mJ.fin{a wr:ω}{sp m M:Nat}{b c:Nat->Ih}{s z:SV}{C:Int}{l:List Int}{j:SV->Pt->SV × Int}{P:List Pt}{R:SV × Int}{i:Nat}(h:mJ a sp b s m C l j P R i c z wr)(g:i=P.length)(f:m+10*i<=M):cZ a sp b s M R (.returned .nilIface) wr:=by
 have d:=h.go;rw[g,jbL] at d;rw[d.symm,<- aN];exact⟨c,rfl,h.shelf.more f,h.moved⟩
def Ld{sp m cap C:Nat}{j:Nat->Ih}{s:SV}{a:Option Addr}(l:List Int)(fr n:Int)(w:ω)(h:bD w sp j s m)(Y:Nums w a l)(E:s.good (C:Int) l)(h5:l.length<=100)(hC:C<=40)(ha:Apart a (fpS j s))(hm:m+3000<1000000000)(an : -9223372036854775808<=fr/\fr<=9223372036854775807) :
  κ prog 117 #[.pointer (some ⟨sp,6,none⟩),.slice a l.length cap,fr,n] w (cZ w sp j s (m+2000) (s.wipe l fr n)):=by
 have y:=ah (check_any (cap:=cap) l fr n w h Y E (by omega) an)
 by_cases A:s.aW l fr n=0
 .obtain⟨D,n0,n1,n2⟩:=SV.mO E A
  obtain⟨f,rfl⟩:∃ f:Nat,fr=(f:Int):=⟨fr.toNat,by omega⟩
  obtain⟨k,rfl⟩:∃ k:Nat,n=(k:Int):=⟨n.toNat,by omega⟩
  have G:Hid (s.wipe l (f:Int) (k:Int)=jC (SV.dI l) s (aV f k 0)):=by unfold Hid SV.wipe;rw[if_pos A];rfl
  rw[A,aN] at y;have a7:=ah (λW=>Bl f k W (by omega))
  have a0:Hid (∀ p∈aV f k 0,p.fits f k C):=vw (by omega) k 0 (by omega)
  have a6:=qF f k k 0 (by omega)
  generalize aV f k 0=P at G a7 a0 a6;generalize s.wipe l (f:Int) (k:Int)=R at G |-;have ae:Hid (∀(s:SV) p,s.good (C:Int) l->(SV.dI l s p).1.good (C:Int) l):=λs p E=>E.dI l p
  have a8:Hid (∀(W b wr:ω) (u:Nat->Ih) (z:SV) (i:Nat) (v:i<P.length),β w w b->mJ b sp j s m (C:Int) l (SV.dI l) P R i u z wr->β wr wr W ->
    κ prog 184 #[.pointer (some ⟨sp,6,none⟩),.slice a l.length cap,.agg #[(P[i].c:Int),(P[i].f:Int),(P[i].n:Int),(P[i].a:Int)]] W (cZ W sp u z (m+10*i+10) (SV.dI l z P[i]))):=λW b wr u z i v U t d=>by
   have a3:=a0.out P[i] (jab v);have ai  := ((Y.below U).moved t.moved (λg o e=>ha g o e)).below d
   cases l with
   | nil=>exact absurd rfl D
   | cons x r=>exact Vp x r P[i].c P[i].f P[i].n P[i].a W (t.shelf.below d) ai t.good h5 (by omega) a3.n4 (by have:=a3.c;omega)
  have az:Hid (∀ b:ω,β w w b->mJ b sp j s m (C:Int) l (SV.dI l) P R 0 j s b):=λb d=>⟨h.below d,E,G.out.symm,Moved.refl _ _⟩
  have av:Hid (∀ k,w.heap.size<=k->¬fpS j s k):=λk hk hs=>by have:=h.gQ hs;omega
  have a5:=ah λb w' R e (d:β w w b) (hd:cZ b sp j s (m+2000) R e w')=>hd.from d
  generalize hq:l.length=q at y a8 |-;go_enter func117,ntmps117
  go_wp2_with fail
  refine cHd y.out λwA O=>?_
  go_wp2_with fail
  refine(a7.out wA).mono ?_;rintro e b ⟨pa,X,rfl,aD,U⟩;have J:=ah (O.out.trans (U.mono O.out.size));have a1:Hid (b.ownsRow w.heap.size 224 4 (.slice pa P.length X) P.length (kR P)):=ownsRow_base aD O.out.size;have ac:=ah (az.out b J.out);have ab:Hid ((P.length:Int)<=1000):=by unfold Hid;omega
  generalize aw:P.length=N at a6 ab a1 |-;have K:=ah aw;go_wp2
  go_loopw [25] (λi wr=>∃(k:Nat) (u:Nat->Ih) (z:SV),k<=N/\i=.int .i64 (k:Int)/\mJ b sp j s m (C:Int) l (SV.dI l) P R k u z wr) (λi _=>N-(intOf i).toNat)
  case atStart=>exact⟨0,j,s,ja6 _,rfl,ac.out⟩
  case round =>
   obtain⟨i,u,z,b0,rfl,t⟩:=hrel;by_cases al:i<N
   .have v:i<P.length:=by rw[K.out];exact al
    obtain⟨g,rfl,ax,ag,ar⟩:=Bq a1.out K.out (by omega)
    have ap  := t.moved.block ag (av.out g ax)
    have aa:qZ wr g X P:=⟨aZ ar.own λr e=>by
     have:g=r:=by simpa [Value.ownBlock] using e
     subst this;exact ap⟩
    obtain⟨c0,c1,c2,c3⟩:=aa.cells v;have H:=ah (λW d=>a8.out W b wr u z i v J.out t d)
    have aR:=ah v;have T:=ah λW e B (d:β wr wr W) (hd:cZ W sp u z (m+10*i+10) (SV.dI l z P[i]) e B) (D:(SV.dI l z P[i]).2=0)=>t.step d v ae.out hd D
    have S:Hid (∀ W e B,β wr wr W->cZ W sp u z (m+10*i+10) (SV.dI l z P[i]) e B->(SV.dI l z P[i]).2≠0->R=SV.dI l z P[i]/\cZ b sp j s (m+2000) R e B):=λW e B d hd D=>t.stop d v (by omega) hd D
    generalize aE:P[i]=p at c0 c1 c2 c3 H T S;generalize SV.dI l z p=Z at H T S;obtain⟨pc,pf,pn,pp⟩:=p;simp only at c0 c1 c2 c3 H;have k0:(0:Int)<=(i:Int):=by omega
    have k1:(i:Int)<(N:Int):=by omega
    have k2:((i:Int)).toNat=i:=by omega
    have Q:Hid (β wr wr (wr.alloc (.cells #[(pc:Int),(pf:Int),(pn:Int),(pp:Int)] 224))):=(ja0 _ _).alloc (ja1 _) _;go_wp2_with fail
    refine(H.out _ Q.out).mono ?_;rintro e B hd;have a9:=hd;obtain⟨aL,rfl,_,_⟩:=a9;by_cases I:Z.2=0
    .obtain⟨am,z2,ad⟩:=T.out _ _ _ Q.out hd I
     have af:=ah ad;rw[I,aN];go_wp2
     go_roundw
     case rel =>
      exact⟨i+1,am,z2,by omega,by go_num,af.out⟩
     case measure=>simp[intOf];omega
    .obtain⟨aM,aq⟩:=S.out _ _ _ Q.out hd I
     have a4:=ah (a5.out _ _ _ _ J.out aq);rw[bJ I] at a4 |-;go_wp2
     go_ret
     exact a4.out
   .have a2:i=N:=by omega
    have V:=ah (a5.out _ _ _ _ J.out (t.fin (a2.trans K.out.symm) (M:=m+2000) (by omega)))
    subst a2;go_wp2
    go_ret
    exact V.out
 .have G:Hid (s.wipe l fr n=(s,s.aW l fr n)):=by unfold Hid SV.wipe;rw[if_neg A]
  have L:Hid (∀ W:ω,β w w W->cZ w sp j s (m+2000) (s,s.aW l fr n) (.returned (erV (s.aW l fr n))) W):=λW d=>cZ.same (h.more (by omega)) d
  rw[G.out];rw[bJ A] at y L;generalize s.aW l fr n=F at y L A |-;generalize l.length=q at y |-;go_enter func117,ntmps117
  go_wp2_with fail
  refine cEq y.out λwA ao=>?_
  have V:=ah (L.out _ ao);go_wp2
  go_ret
  exact V.out
def KQ{sp m cap C : Nat}{u : Nat -> Ih}{s : SV}{a : Option Addr}(l : List Int)(fr : Int)(t : ByteArray)(w : ω)(h : bD w sp u s m)(T : Nums w a l)(H : s.good (C : Int) l)(h5 : l.length <= 100)(hC : C <= 40)(ha : Apart a (fpS u s))(hm : m + 3000 < 1000000000)(bc : -9223372036854775808 <= fr /\ fr <= 9223372036854775807)(ht : t.size <= 10000) :
    κ prog 91 #[.pointer (some ⟨sp, 6, none⟩), .slice a l.length cap, .int .i64 fr, .string t] w (cZ w sp u s (m + 2000) (s.put l fr t)) := by
  by_cases Q : t.size % 16 = 0
  . have bd : ((t.size : Int) % 16 != 0) = false := by simp; omega
    obtain ⟨k, hk⟩ : ∃ k : Nat, t.size = k * 16 := ⟨t.size / 16, by omega⟩
    have bj : (t.size : Int) / 16 = (k : Int) := by omega
    have a5 : t.size / 16 = k := by omega
    have B := ah (check_any (cap := cap) l fr (k : Int) w h T H (by omega) bc)
    by_cases I : s.aW l fr (k : Int) = 0
    . obtain ⟨V, n0, n1, n2⟩ := SV.mO H I
      obtain ⟨f, rfl⟩ : ∃ f : Nat, fr = (f : Int) := ⟨fr.toNat, by omega⟩
      have D : Hid (s.put l (f : Int) t = jC (SV.gU l t) s (aV f k 0)) := by unfold Hid SV.put; rw [if_pos Q, a5, if_pos I]; rfl
      rw [I, aN] at B;have ae := ah (λW => Bl f k W (by omega))
      have a2 : Hid (∀ p ∈ aV f k 0, p.fits f k C) := vw (by omega) k 0 (by omega)
      have aR := qF f k k 0 (by omega)
      generalize aV f k 0 = P at D ae a2 aR;generalize s.put l (f : Int) t = R at D |-;have b6 : Hid (∀ (s : SV) p, s.good (C : Int) l -> (SV.gU l t s p).1.good (C : Int) l) := λs p H => H.gU l t p
      have af : Hid (∀ (W b wr : ω) (y : Nat -> Ih) (z : SV) (i : Nat) (v : i < P.length), β w w b -> mJ b sp u s m (C : Int) l (SV.gU l t) P R i y z wr -> β wr wr W ->
          κ prog 168 #[.pointer (some ⟨sp, 6, none⟩), .slice a l.length cap, .agg #[(P[i].c : Int), .int .i64 (P[i].f : Int), .int .i64 (P[i].n : Int), .int .i64 (P[i].a : Int)], .string (eU t P[i].a P[i].n)] W (cZ W sp y z (m + 10 * i + 10) (SV.gU l t z P[i]))) := λW b wr y z i v a8 j d => by
        have ac := a2.out P[i] (jab v);have b8 : Nums W a l := ((T.below a8).moved j.moved (λg o e => ha g o e)).below d
        have b5 : (eU t P[i].a P[i].n).size = P[i].n * 16 := rX (by have := ac.an; omega)
        cases l with
        | nil => exact absurd rfl V
        | cons x r => exact Gh x r P[i].c P[i].f P[i].n P[i].a _ W (j.shelf.below d) b8 j.good h5 (by omega) ac.n4 (by have := ac.c; omega) b5
      have aL : Hid (∀ (i : Nat) (v : i < P.length) (W : ω), κ prog 169 #[t, .int .i64 (P[i].a : Int), .int .i64 (P[i].n : Int)] W λe w' => e = .returned (.string (eU t P[i].a P[i].n)) /\ w' = W) := λi v W => BQ t P[i].a P[i].n W (by have := (a2.out P[i] (jab v)).an; omega) (by omega)
      have ag : Hid (∀ b : ω, β w w b -> mJ b sp u s m (C : Int) l (SV.gU l t) P R 0 u s b) := λb d => ⟨h.below d, H, D.out.symm, Moved.refl _ _⟩
      have be : Hid (∀ k, w.heap.size <= k -> ¬ fpS u s k) := λk hk hs => by have := h.gQ hs; omega
      have ax := ah λb w' R e (d : β w w b) (hd : cZ b sp u s (m + 2000) R e w') => hd.from d
      generalize hq : l.length = q at B af |-;clear h T H ha I hq a2 Q hk a5;go_enter func91, ntmps91
      go_wp2_with fail
      refine cHd B.out λwA aa => ?_
      clear B;go_wp2_with fail
      refine (ae.out wA).mono ?_;rintro e b ⟨pa, ao, rfl, aD, a8⟩;have a3 := ah (aa.out.trans (a8.mono aa.out.size));have ap : Hid (b.ownsRow w.heap.size 224 4 (.slice pa P.length ao) P.length (kR P)) := ownsRow_base aD aa.out.size;have b4 := ah (ag.out b a3.out);clear aD a8 ae ag;have b3 : Hid ((P.length : Int) <= 1000) := by unfold Hid; omega
      generalize b0 : P.length = N at aR b3 ap |-;have a9 := ah b0;clear b0;go_wp2
      go_loopw [34] (λi wr => ∃ (k : Nat) (y : Nat -> Ih) (z : SV), k <= N /\ i = .int .i64 (k : Int) /\ mJ b sp u s m (C : Int) l (SV.gU l t) P R k y z wr) (λi _ => N - (intOf i).toNat)
      case atStart => exact ⟨0, u, s, ja6 _, rfl, b4.out⟩
      case round =>
        obtain ⟨i, y, z, bl, rfl, j⟩ := hrel;by_cases b9 : i < N
        . have v : i < P.length := by rw [a9.out]; exact b9
          obtain ⟨g, rfl, bf, ar, aM⟩ := Bq ap.out a9.out (by omega)
          have az : wr.heap[g]? = b.heap[g]? := j.moved.block ar (be.out g bf)
          have ai : qZ wr g ao P := ⟨aZ aM.own λr e => by
            have : g = r := by simpa [Value.ownBlock] using e
            subst this; exact az⟩
          obtain ⟨c0, c1, c2, c3⟩ := ai.cells v;have O := ah (λW d => af.out W b wr y z i v a3.out j d)
          have a4 := ah (aL.out i v);have HP := ah j;have ad := ah λW e A (d : β wr wr W) (hd : cZ W sp y z (m + 10 * i + 10) (SV.gU l t z P[i]) e A) (V : (SV.gU l t z P[i]).2 = 0) => j.step d v b6.out hd V
          have ab : Hid (∀ W e A, β wr wr W -> cZ W sp y z (m + 10 * i + 10) (SV.gU l t z P[i]) e A -> (SV.gU l t z P[i]).2 ≠ 0 -> R = SV.gU l t z P[i] /\ cZ b sp u s (m + 2000) R e A) := λW e A d hd V => j.stop d v (by omega) hd V
          have a7 : Hid (¬ fpS y z wr.heap.size) := λhs => by have := j.shelf.gQ hs; omega
          have bh : g < wr.heap.size := ja9 ar j.moved.size;clear ai aM az j af aL;generalize b2 : P[i] = p at c0 c1 c2 c3 O ad ab a4;clear b2 v;generalize SV.gU l t z p = Z at O ad ab;obtain ⟨L, J, E, G⟩ := p;simp only at c0 c1 c2 c3 O a4;generalize eU t G E = ST at O a4;have k0 : (0 : Int) <= (i : Int) := by omega
          have k1 : (i : Int) < (N : Int) := by omega
          have k2 : ((i : Int)).toNat = i := by omega
          have a1 : Hid (β wr wr (wr.alloc (.cells #[(L : Int), .int .i64 (J : Int), .int .i64 (E : Int), .int .i64 (G : Int)] 224)).drew) := ((ja0 _ _).alloc (ja1 _) _).drew;have Y : Hid ((wr.alloc (.cells #[(L : Int), .int .i64 (J : Int), .int .i64 (E : Int), .int .i64 (G : Int)] 224)).heap[wr.heap.size]? = some (.cells #[(L : Int), .int .i64 (J : Int), .int .i64 (E : Int), .int .i64 (G : Int)] 224 (0, 0))) := heap_alloc_new _ _;go_wp2
          generalize wr.alloc (.cells #[(L : Int), .int .i64 (J : Int), .int .i64 (E : Int), .int .i64 (G : Int)] 224) = X at a1 Y |-;have y0 : X.drew.cell? ⟨wr.heap.size, 0, none⟩ = some (.int .i64 (L : Int)) := by rw [jbl, cell_of_row _ _ _ _ _ _ Y.out]; rfl
          have y1 : X.drew.cell? ⟨wr.heap.size, 1, none⟩ = some (.int .i64 (J : Int)) := by rw [jbl, cell_of_row _ _ _ _ _ _ Y.out]; rfl
          have y2 : X.drew.cell? ⟨wr.heap.size, 2, none⟩ = some (.int .i64 (E : Int)) := by rw [jbl, cell_of_row _ _ _ _ _ _ Y.out]; rfl
          have y3 : X.drew.cell? ⟨wr.heap.size, 3, none⟩ = some (.int .i64 (G : Int)) := by rw [jbl, cell_of_row _ _ _ _ _ _ Y.out]; rfl
          have a6 : wr.heap.size < X.drew.heap.size := ja2 _ _ y0;have al := ah (O.out _ a1.out);clear c0 c1 c2 c3 O
          go_region_held3 (λW => W.cell? ⟨wr.heap.size, 0, none⟩ = some (.int .i64 (L : Int)) /\ W.cell? ⟨wr.heap.size, 1, none⟩ = some (.int .i64 (J : Int)) /\ W.cell? ⟨wr.heap.size, 2, none⟩ = some (.int .i64 (E : Int)) /\ W.cell? ⟨wr.heap.size, 3, none⟩ = some (.int .i64 (G : Int)))
            (first | (exact ⟨y0, y1, y2, y3⟩) | assumption)
            (first
              | (go_at_call 169; refine cEq (a4.out _) λw' rfl => ?_)
              | (go_at_call 168; refine al.out.mono ?_; rintro e A hd; have b1 := hd; obtain ⟨bi, rfl, h2, U⟩ := b1; have bb : A.cell? ⟨wr.heap.size, 0, none⟩ = some (.int .i64 (L : Int)) /\ A.cell? ⟨wr.heap.size, 1, none⟩ = some (.int .i64 (J : Int)) /\ A.cell? ⟨wr.heap.size, 2, none⟩ = some (.int .i64 (E : Int)) /\ A.cell? ⟨wr.heap.size, 3, none⟩ = some (.int .i64 (G : Int)) := ⟨(U.cell (p := ⟨wr.heap.size, 0, none⟩) a6 a7.out).trans y0, (U.cell (p := ⟨wr.heap.size, 1, none⟩) a6 a7.out).trans y1, (U.cell (p := ⟨wr.heap.size, 2, none⟩) a6 a7.out).trans y2, (U.cell (p := ⟨wr.heap.size, 3, none⟩) a6 a7.out).trans y3⟩; clear h2 U))
          clear bb y0 y1 y2 y3 al;by_cases K : Z.2 = 0
          . obtain ⟨ba, z2, am⟩ := ad.out _ _ _ a1.out hd K
            have b7 := ah am;rw [K, aN];clear hd am K;go_wp2
            go_roundw
            case rel =>
              exact ⟨i + 1, ba, z2, by omega, by go_num, b7.out⟩
            case measure => simp [intOf]; omega
          . obtain ⟨bk, aE⟩ := ab.out _ _ _ a1.out hd K
            have av := ah (ax.out _ _ _ _ a3.out aE);have HE := ah (bJ K);rw [bJ K] at av |-;clear hd aE K;go_wp2
            go_ret
            exact av.out
        . have aq : i = N := by omega
          have S := ah (ax.out _ _ _ _ a3.out (j.fin (aq.trans a9.out.symm) (M := m + 2000) (by omega)))
          subst aq;clear j;go_wp2
          go_ret
          exact S.out
    . have D : Hid (s.put l fr t = (s, s.aW l fr (k : Int))) := by unfold Hid SV.put; rw [if_pos Q, a5, if_neg I]
      have a0 : Hid (∀ W : ω, β w w W -> cZ w sp u s (m + 2000) (s, s.aW l fr (k : Int)) (.returned (erV (s.aW l fr (k : Int)))) W) := λW d => cZ.same (h.more (by omega)) d
      rw [D.out];rw [bJ I] at B a0;generalize s.aW l fr (k : Int) = F at B a0 I |-;generalize l.length = q at B |-;clear h T H ha D I hk a5 Q;go_enter func91, ntmps91
      go_wp2_with fail
      refine cEq B.out λwA aw => ?_
      have S := ah (a0.out _ aw);clear aw B a0;go_wp2
      go_ret
      exact S.out
  . have bd : ((t.size : Int) % 16 != 0) = true := by simp; omega
    have D : Hid (s.put l fr t = (s, 1)) := by unfold Hid SV.put; rw [if_neg Q]
    have S : Hid (cZ w sp u s (m + 2000) (s, 1) (.returned (erV 1)) w) := cZ.same (h.more (by omega)) (ja0 _ _)
    rw [D.out];rw [eu] at S;generalize l.length = q;clear h T H ha D Q;go_enter func91, ntmps91
    go_wp2
    go_ret
    exact S.out
def Qo{w b:ω}{B e size n:Nat}{v:υ}{c:List υ}(h:w.ownsRowF B e size v n c)(m:∀ k,v.ownBlock=S k->b.heap[k]?=w.heap[k]?):b.ownsRowF B e size v n c:=by
 obtain⟨o,a⟩:=h;refine⟨o,?_⟩;rcases a with a|⟨g,cap,f,l,d,j,i,r⟩
 .exact .inl a
 .exact .inr ⟨g,cap,f,l,d,j,by rw[m g (by rw[d];rfl)];exact i,r⟩
def zF{T e B b:Nat}{a:List υ}{w c:ω}(h:Lib.IsBuilderF T e B b a w)(i:β w w c):Lib.IsBuilderF T e B b a c:=by
 have d:∀ p,Lib.BuilderAtF T e B b p a w->Lib.BuilderAtF T e B b p a c:=by
  rintro p ⟨l,v,f,g,j⟩;exact⟨l,v,by rw[i.block _ (lt_of_some f)];exact f,Qo g λk e=>i.block k (g.lt k e).2,j⟩
 exact h.imp (d _) (d _)
def JX(B b:Nat)(l:List UInt8)(s:ByteArray)(w:ω)(h:Lib.IsBuilderF 229 5 B b (Lib.byteCells l) w)(j:l.length+s.size<=140737488355328)(d:B<=w.heap.size) :
  κ prog 172 #[b,s] w λe a =>
   e=.returned (.tuple #[.int .i64 s.size,.nilIface])/\Lib.IsBuilderF 229 5 B b (Lib.byteCells (l++s.data.toList)) a/\β B w a/\Lib.OthersKept 5 (S b) w a:=by
 refine(Any.Builder_WriteString_k {Tryz.lays105 with} Tryz.Builder_Extra_105 B b _ s w h (by rw[Lib.byteCells_length];exact j) d).mono ?_
 rintro e a ⟨rfl,g,f,i⟩;refine⟨rfl,.inr ?_,f,i⟩;have c:Lib.byteCells (l++s.data.toList)=Lib.byteCells l++Lib.strCells s:=by simp[Lib.byteCells,Lib.strCells]
 rw[c];exact g
def oD(P:List Pt)(n i:Nat):Nat:=if h:i<P.length then P[i].a else n
def JJ(a b:ByteArray):(a++b).data.toList=a.data.toList++b.data.toList:=by simp_all
structure zx(w1:ω)(B b:Nat)(G:Nat->ByteArray)(P:List Pt)(n:Nat)(i:Nat)(wr:ω):Prop where
 bld:Lib.IsBuilderF 229 5 B b (Lib.byteCells (G (oD P n i)).data.toList) wr
 bel:β B w1 wr
 row:∀ g cap,qZ w1 g cap P->qZ wr g cap P
def Kz{sp m cap C:Nat}{xs:Nat->Ih}{s:SV}{a:Option Addr}(l:List Int)(fr n:Int)(w:ω)(h:bD w sp xs s m)(hl:Nums w a l)(B:s.good (C:Int) l)(h5:l.length<=100)(hC:C<=40)(b0 : -9223372036854775808<=fr/\fr<=9223372036854775807) :
  κ prog 94 #[.pointer (some ⟨sp,6,none⟩),.slice a l.length cap,fr,n] w λe M=>e=.returned (.tuple #[.string (s.ji l fr n),erV (s.aW l fr n)])/\β w w M:=by
 have y:=ah (check_any (cap:=cap) l fr n w h hl B (by omega) b0)
 by_cases Q:s.aW l fr n=0
 .obtain⟨h0,n0,n1,n2⟩:=SV.mO B Q
  obtain⟨f,rfl⟩:∃ f:Nat,fr=(f:Int):=⟨fr.toNat,by omega⟩
  obtain⟨k,rfl⟩:∃ k:Nat,n=(k:Int):=⟨n.toNat,by omega⟩
  have O:Hid (s.ji l (f:Int) (k:Int)=s.jS l f k):=by unfold Hid SV.ji;rw[if_pos Q];rfl
  rw[Q,aN] at y |-;have aq:=ah (λW=>Bl f k W (by omega))
  have ap:=qF f k k 0 (by omega)
  have Z:Hid (∀ p∈aV f k 0,p.fits f k C):=vw (by omega) k 0 (by omega)
  have a6:=ah (Qz f k k 0 (by omega))
  have am:Hid (oD (aV f k 0) k 0=0):=by
   unfold Hid oD;split
   .next A=>exact(a6.out 0 A).2.2.2 rfl
   .next A =>
    by_cases hk:0<k
    .rw[qE hk] at A;simp at A
    .omega
  have ai:Hid (∀ i (b:i<(aV f k 0).length),oD (aV f k 0) k i=(aV f k 0)[i].a/\oD (aV f k 0) k (i+1)=(aV f k 0)[i].a+(aV f k 0)[i].n):=λi b=>by
   refine⟨by unfold oD;rw[dif_pos b],?_⟩
   unfold oD;split
   .next A=>exact(a6.out i b).2.1 (i+1) A rfl
   .next A=>exact((a6.out i b).2.2.1 (by omega)).symm
  have af:Hid (oD (aV f k 0) k (aV f k 0).length=k):=by unfold Hid oD;rw[dif_neg (by omega)]
  have a4:Hid (∀ p∈aV f k 0,s.jS l f (p.a+p.n)=s.jS l f p.a++eU (s.read l (p.c:Int)).1 p.f p.n):=λp D=>SV.Nw (Z.out p D) p.n (ja1 _)
  have al:Hid (∀ j,j<=k->(s.jS l f j).size=j*16):=λj hj=>SV.EC B h.ok h0 j (by omega)
  have ae:Hid (s.jS l f 0=bytesOf []):=rfl
  have a7:Hid (∀(i:Nat) (b:i<(aV f k 0).length) (W:ω),β w w W->κ prog 171 #[.pointer (some ⟨sp,6,none⟩),.slice a l.length cap,((aV f k 0)[i].c:Int)] W λe M=>e=.returned (.tuple #[.string (s.read l ((aV f k 0)[i].c:Int)).1,.nilIface])/\β W W M):=λi b W hb=>by
   have t:=Z.out _ (jab b);have:=zN (cap:=cap) l ((aV f k 0)[i].c:Int) W (h.below hb) (hl.below hb) B h5
   rw[(SV.kS B h.ok h0 (c:=((aV f k 0)[i].c:Int)) ⟨by omega,by have:=t.c;omega⟩).1,aN] at this;exact this
  have ao:Hid (∀(i:Nat) (b:i<(aV f k 0).length) (W:ω),κ prog 169 #[.string (s.read l ((aV f k 0)[i].c:Int)).1,((aV f k 0)[i].f:Int),((aV f k 0)[i].n:Int)] W λe M=>e=.returned (.string (eU (s.read l ((aV f k 0)[i].c:Int)).1 (aV f k 0)[i].f (aV f k 0)[i].n))/\M=W):=λi b W=>by
   have t:=Z.out _ (jab b);have hz:=(SV.kS B h.ok h0 (c:=((aV f k 0)[i].c:Int)) ⟨by omega,by have:=t.c;omega⟩).2
   exact BQ _ _ _ W (by have:=t.n4;omega) (by omega)
  have ab:Hid (∀(i:Nat) (b:i<(aV f k 0).length),(eU (s.read l ((aV f k 0)[i].c:Int)).1 (aV f k 0)[i].f (aV f k 0)[i].n).size<=100/\(aV f k 0)[i].a<=k):=λi b=>by
   have t:=Z.out _ (jab b);have hz:=(SV.kS B h.ok h0 (c:=((aV f k 0)[i].c:Int)) ⟨by omega,by have:=t.c;omega⟩).2
   refine⟨?_,by have:=t.an;omega⟩
   rw[rX (by have:=t.n4;omega)]
   have:=t.n4;omega
  generalize aV f k 0=P at aq ap am ai af a4 a7 ao ab;generalize s.ji l (f:Int) (k:Int)=R at O |-;generalize s.jS l f=G at O a4 al ae;generalize hq:l.length=q at y a7 |-;have ba:k<=1000:=by omega
  go_enter func94,ntmps94
  go_wp2_with fail
  refine cEq y.out λd a5=>?_
  have T:=ah a5;have ad:Hid (Lib.IsBuilderF 229 5 d.heap.size d.heap.size (Lib.byteCells []) (d.alloc (.cells #[.pointer none,.slice none 0 0] 229))):=Lib.IsBuilderF.of (Lib.fresh_isBuilder _ _ _);have a8:Hid (β d d (d.alloc (.cells #[.pointer none,.slice none 0 0] 229))):=(ja0 _ _).alloc (ja1 _) _;go_wp2_with fail
  generalize d.alloc (.cells #[.pointer none,.slice none 0 0] 229)=wB at ad a8 |-;refine(aq.out wB).mono ?_;rintro e w1 ⟨pa,aL,rfl,b3,ar⟩;have ac:=ah b3;have az:Hid (zx w1 d.heap.size d.heap.size G P k 0 w1):=⟨by rw[am.out,ae.out];exact zF ad.out ar,ja0 _ _,λ_ _ h=>h⟩
  generalize b6:P.length=N at ap ac |-;have a3:=ah b6;go_wp2
  go_loopw [28] (λi wr=>∃(j:Nat),j<=N/\i=.int .i64 (j:Int)/\zx w1 d.heap.size d.heap.size G P k j wr) (λi _=>N-(intOf i).toNat)
  case atStart=>exact⟨0,ja6 _,rfl,az.out⟩
  case round =>
   obtain⟨i,bc,rfl,D⟩:=hrel;have I  := (a8.out.trans (ar.mono a8.out.size)).trans D.bel;have ag:Hid (β w w wr):=T.out.trans (I.mono T.out.size);by_cases aR:i<N
   .have b:i<P.length:=by rw[a3.out];exact aR
    obtain⟨g,rfl,bd,bb,b5⟩:=Bq ac.out a3.out (by omega)
    obtain⟨c0,c1,c2,c3⟩:=(D.row g aL b5).cells b;obtain⟨a1,a2⟩:=ai.out i b;have S:=ah (a7.out i b);have K:=ah (ao.out i b);obtain⟨U,z2⟩:=ab.out i b;have J:=ah (a4.out P[i] (jab b));have HP:=ah D;have L:=D.bld;rw[a1] at L;have V:=ah L;have a9:=ah a2;generalize b9:P[i]=p at c0 c1 c2 c3 S K J U z2 V a9;obtain⟨H,x,z,o⟩:=p;simp only at c0 c1 c2 c3 S K J U z2 V a9;generalize (s.read l (H:Int)).1=ax at S K J U;generalize eU ax x z=ST at K J U;have k0:(0:Int)<=(i:Int):=by omega
    have k1:(i:Int)<(N:Int):=by omega
    have k2:((i:Int)).toNat=i:=by omega
    have X:Hid (β wr wr (wr.alloc (.cells #[(H:Int),(x:Int),(z:Int),(o:Int)] 224))):=(ja0 _ _).alloc (ja1 _) _;have HX:Hid ((wr.alloc (.cells #[(H:Int),(x:Int),(z:Int),(o:Int)] 224)).heap[wr.heap.size]?=some (.cells #[(H:Int),(x:Int),(z:Int),(o:Int)] 224 (0,0))):=heap_alloc_new _ _;go_wp2_with fail
    generalize wr.alloc (.cells #[(H:Int),(x:Int),(z:Int),(o:Int)] 224)=wN at X HX |-;refine cEq (S.out wN (ag.out.trans (X.out.mono ag.out.size))) λu a0=>?_
    have E:=ah (X.out.trans (a0.mono X.out.size));have aa:u.heap[wr.heap.size]?=some (.cells #[(H:Int),(x:Int),(z:Int),(o:Int)] 224 (0,0)):=by rw[a0.block _ (lt_of_some HX.out)];exact HX.out
    have y1:u.cell? ⟨wr,1,none⟩=some (.int .i64 (x:Int)):=by rw[cell_of_row _ _ _ _ _ _ aa];rfl
    have y2:u.cell? ⟨wr,2,none⟩=some (.int .i64 (z:Int)):=by rw[cell_of_row _ _ _ _ _ _ aa];rfl
    have b4:(G o).data.toList.length=o*16:=by rw[<- (al.out o z2)];simp
    go_wp2_with (go_at_call 169;refine cSt (K.out _) ?_)
    refine(JX d.heap.size d.heap.size (G o).data.toList ST u (zF V.out E.out) (by rw[b4];omega) (ja4 I.size E.out.size)).mono ?_
    rintro e w3 ⟨rfl,aw,b7,aD⟩
    have b1:Hid (zx w1 d.heap.size d.heap.size G P k (i+1) w3):=by
     refine⟨?_,?_,λg2 b2 h2=>?_⟩
     .rw[a9.out,J.out,JJ];exact aw
     .exact HP.out.bel.trans ((E.out.mono I.size).trans b7)
     .have h3:=HP.out.row g2 b2 h2
      refine⟨aZ h3.own λr e=>?_⟩
      obtain⟨aE,hh⟩:=ownsRow_kind h3.own r e;have h4:u.heap[r]?=some (.cells aE 224 (0,0)):=by rw[E.out.block r (lt_of_some hh)];exact hh
      rw[hh];refine aD r _ h4 (λe2=>?_) (λc fz e2=>by cases e2)
      cases e2
      have Y:∃ p v,u.heap[d.heap.size]?=some (.cells #[p,v] 229 (0,0)):=by
       rcases zF V.out E.out with⟨_,v,q,_⟩|⟨_,v,q,_⟩<;>exact⟨_,v,q⟩
      obtain⟨p,v,Y⟩:=Y;rw[h4] at Y;cases Y
    go_wp2
    go_roundw
    case rel =>
     exact⟨i+1,by omega,by go_num,b1.out⟩
    case measure=>simp[intOf];omega
   .have aM:i=N:=by omega
    subst aM;have L:=D.bld;have e1:oD P k i=k:=by rw[<- a3.out];exact af.out
    rw[e1,<- O.out] at L;have av:=ah (Tryz.Builder_String_any_k d.heap.size d.heap.size R.data.toList wr L I.size);have b8:ByteArray.mk R.data.toList.toArray=R:=by simp
    rw[b8] at av;go_wp2_with fail
    refine av.out.mono ?_;rintro e u ⟨rfl,_,a0,_⟩;have E:Hid (β w w u):=T.out.trans ((I.trans a0).mono T.out.size);go_wp2
    go_ret2
    exact⟨rfl,E.out⟩
 .have O:Hid (s.ji l fr n=bytesOf []):=by unfold Hid SV.ji;rw[if_neg Q]
  rw[O.out];rw[bJ Q] at y |-;generalize s.aW l fr n=F at y |-;generalize l.length=q at y |-;go_enter func94,ntmps94
  go_wp2_with fail
  refine cEq y.out λd a5=>?_
  go_wp2
  go_ret2
  exact⟨rfl,a5⟩
structure Jh where
 jp:Nat
 lp:Nat
 bp:Nat
 a:Option Addr
 cap:Nat
structure Yh where
 ds:Nat->Hd
 tp:Hd
 xs:Nat->Ih
 jb:Jh
def Yh.fpF(Y:Yh)(s:SV)(i k:Nat):Prop:=match s i with
 | none=>(Y.ds i).fp k
 | some _=>(Y.xs i).fp k
def Yh.dp(Y:Yh)(s:SV)(i:Nat):Nat:=match s i with
 | none=>(Y.ds i).p
 | some _=>(Y.xs i).h.p
def Yh.dH{Y:Yh}{s:SV}{i k:Nat}(h:s i=O):Y.fpF s i k=(Y.ds i).fp k:=by unfold Yh.fpF;rw[h]
def Yh.dX{Y:Yh}{s:SV}{i k:Nat}{v:IV}(h:s i=S v):Y.fpF s i k=(Y.xs i).fp k:=by unfold Yh.fpF;rw[h]
def Yh.dp_none{Y:Yh}{s:SV}{i:Nat}(h:s i=O):Y.dp s i=(Y.ds i).p:=by unfold Yh.dp;rw[h]
def Yh.kY{Y:Yh}{s:SV}{i:Nat}{v:IV}(h:s i=S v):Y.dp s i=(Y.xs i).h.p:=by unfold Yh.dp;rw[h]
def Jh.fp(b:Jh)(j:Option JV)(k:Nat):Prop:=j≠O/\(k=b.jp\/k=b.lp\/k=b.bp)
def fpY(a:Nat)(Y:Yh)(y:YV)(k:Nat):Prop:=k=a\/(∃ i,i<5/\Y.fpF y.s i k)\/Y.tp.fp k\/Y.jb.fp y.j k
def qw(b:Jh):Option JV->υ
 | none=>.pointer O
 | some _=>.pointer (S ⟨b.jp,0,O⟩)
structure je(w:ω)(yp:Nat)(Y:Yh)(s:SV)(r:Int)(jv:υ):Prop where
 is:∃ cur,w.heap[yp]?=S (.cells cur 74 (0,0))/\(∀ i,i<5->cur[i]?=S (Y.dp s i:υ))/\cur[5]?=S (Y.tp.p:υ) /\
  (∀ i,i<5->cur[6+i]?=S (iE (Y.xs i) (s i)))/\cur[11]?=S (r:υ)/\cur[12]?=S jv
structure aB(w:ω)(yp:Nat)(Y:Yh)(y:YV):Prop where
 blk:je w yp Y y.s y.kd.root (qw Y.jb y.j)
 img:∀ i v,i<5->y.s i=S v->aH Gd.no w (Y.xs i) v
 dev:∀ i,i<5->y.s i=O->bQ Gd.no w (Y.ds i) (y.dv i)
 top:bQ Gd.no w Y.tp y.top
 apart:∀ i j,i<5->j<5->i≠j->∀ k,Y.fpF y.s i k->¬Y.fpF y.s j k
 apTop:∀ i,i<5->∀ k,Y.tp.fp k->¬Y.fpF y.s i k
 job:∀ j,y.j=S j->iG w Y.jb.jp yp Y.jb.lp Y.jb.bp Y.jb.a Y.jb.cap j/\Nums w Y.jb.a j.l/\j.l≠[]/\j.l.length<=Y.jb.cap/\Apart Y.jb.a (fpY yp Y y)
def je.lt{w:ω}{a:Nat}{Y:Yh}{s:SV}{r:Int}{d:υ}(h:je w a Y s r d):a<w.heap.size:=by
 obtain⟨c,b,_⟩:=h.is;exact lt_of_some b
def je.keep{w b:ω}{a:Nat}{Y:Yh}{s:SV}{r:Int}{c:υ}(h:je w a Y s r c)(e:b.heap[a]?=w.heap[a]?):je b a Y s r c:=⟨by rw[e];exact h.is⟩
def je.cells{w:ω}{a:Nat}{Y:Yh}{s:SV}{r:Int}{g:υ}(h:je w a Y s r g) :
  (∀ i,i<5->w.cell? ⟨a,i,O⟩=S (Y.dp s i:υ))/\w.cell? ⟨a,5,O⟩=S (Y.tp.p:υ)/\(∀ i,i<5->w.cell? ⟨a,6+i,O⟩=S (iE (Y.xs i) (s i)))/\w.cell? ⟨a,11,O⟩=S (r:υ)/\w.cell? ⟨a,12,O⟩=S g/\∀ i,w.frozen? ⟨a,i,O⟩=false:=by
 obtain⟨c,f,k,n,l,m,j⟩:=h.is;have b:∀ i,w.cell? _=c[i]?:=λi=>cell_of_row w a _ _ _ _ f
 exact⟨λi d=>(b i).trans (k i d),(b 5).trans n,λi d=>(b _).trans (l i d),(b 11).trans m,(b 12).trans j,λi=>frozen_of_row w a i _ _ f⟩
def bQ.nY{B:Gd}{w:ω}{h:Hd}{d:DV}(hd:bQ B w h d){k:Nat}{a:Array υ}{t:TypeId}(i:w.heap[k]?=S (.cells a t (0,0)))(g:¬(t=178\/t=175\/t=180\/t=235\/t=168)):¬h.fp k:=λb=>by
 obtain⟨f,t2,c,p⟩:=hd.kinds k b
 simp_all
def aB.kZ{w:ω}{d:Nat}{Y:Yh}{y:YV}(h:aB w d Y y){i k:Nat}(c:i<5)(a:Y.fpF y.s i k):k<w.heap.size:=by
 cases b:y.s i with
 | none=>rw[Yh.dH b] at a;exact((h.dev i c b).lt k a).2
 | some v=>rw[Yh.dX b] at a;exact(h.img i v c b).gQ k a
def aB.qB{w:ω}{g:Nat}{Y:Yh}{y:YV}(h:aB w g Y y){i k:Nat}(b:i<5){f:Array υ}{t:TypeId}(d:w.heap[k]?=S (.cells f t (0,0)))(c:¬(t=178\/t=175\/t=180\/t=235\/t=168)):¬Y.fpF y.s i k:=by
 cases a:y.s i with
 | none=>rw[Yh.dH a];exact(h.dev i b a).nY d c
 | some v=>rw[Yh.dX a];exact(h.img i v b a).uX d c
def aB.fF{w:ω}{b:Nat}{Y:Yh}{y:YV}(h:aB w b Y y){k:Nat}(a:fpY b Y y k):k<w.heap.size:=by
 rcases a with rfl|⟨i,c,a⟩|a|⟨d,a⟩
 .exact h.blk.lt
 .exact h.kZ c a
 .exact(h.top.lt k a).2
 .cases e:y.j with
  | none=>simp_all
  | some j =>
   obtain⟨f,g,l⟩:=(h.job j e).1.lts;omega
def aB.kH{w:ω}{a:Nat}{Y:Yh}{y:YV}(h:aB w a Y y):(∀ i,i<5->¬Y.fpF y.s i a)/\¬Y.tp.fp a/\¬Y.jb.fp y.j a:=by
 obtain⟨c,f,_⟩:=h.blk.is;refine⟨λi k=>h.qB k f (by decide),h.top.nY f (by decide),λ⟨n,g⟩=>?_⟩
 cases e:y.j with
 | none=>simp_all
 | some j =>
  have b:=(h.job j e).1;have l:=b.blk;have o:w.heap[Y.jb.lp]?=_:=b.set;have m:w.heap[Y.jb.bp]?=_:=b.bkt;rcases g with d|d|d
  .simp_all
  .simp_all
  .simp_all
def aB.kC{w:ω}{l:Nat}{Y:Yh}{y:YV}(h:aB w l Y y){k:Nat}(b:Y.jb.fp y.j k):(∀ i,i<5->¬Y.fpF y.s i k)/\¬Y.tp.fp k:=by
 obtain⟨m,b⟩:=b
 cases e:y.j with
 | none=>simp_all
 | some j =>
  have c:=(h.job j e).1;have d:=c.blk;have g  := c.set;have f  := c.bkt;rcases b with rfl|rfl|rfl
  .exact⟨λi a=>h.qB a d (by decide),h.top.nY d (by decide)⟩
  .exact⟨λi a=>h.qB a g (by decide),h.top.nY g (by decide)⟩
  .exact⟨λi a=>h.qB a f (by decide),h.top.nY f (by decide)⟩
def aB.inS{w:ω}{d:Nat}{Y:Yh}{y:YV}(g:aB w d Y y){k:Nat}(b:fpS Y.xs y.s k):∃ i,i<5/\Y.fpF y.s i k:=by
 obtain⟨i,f,j,a⟩:=b
 cases c:y.s i with
 | none=>simp_all
 | some v=>exact⟨i,f,by rw[Yh.dX c];exact a⟩
def aB.shelf{w:ω}{d m:Nat}{Y:Yh}{y:YV}(h:aB w d Y y)(o:y.s.ok m):bD w d Y.xs y.s m:=by
 obtain⟨c,x,g,A,t,D,C⟩:=h.blk.is;refine⟨⟨c,x,t,λi a B=>?_⟩,h.img,o,λi j a r n z E k q f=>?_⟩
 .cases b:y.s i with
  | none=>simp_all
  | some v=>rw[g i a,Yh.kY b]
 .cases b:y.s i with
  | none=>simp_all
  | some v =>
   cases l:y.s j with
   | none=>simp_all
   | some u=>exact h.apart i j a r n k (by rw[Yh.dX b];exact q) (by rw[Yh.dX l];exact f)
theorem aB.keep{w l:ω}{m:Nat}{Y:Yh}{y:YV}(h:aB w m Y y)(b:∀ k,fpY m Y y k->l.heap[k]?=w.heap[k]?)(u:∀ g o,Y.jb.a=S ⟨g,o,O⟩->g<w.heap.size->l.heap[g]?=w.heap[g]?):aB l m Y y :=
 ⟨h.blk.keep (b _ (.inl rfl)),λi v d f=>(h.img i v d f).jm λk c=>b k (.inr (.inl ⟨i,d,by rw[Yh.dX f];exact c⟩)),λi d f=>(h.dev i d f).keep λk c=>b k (.inr (.inl ⟨i,d,by rw[Yh.dH f];exact c⟩)),h.top.keep λk c=>b k (.inr (.inr (.inl c))),h.apart,h.apTop,λj s=>by
  obtain⟨x,q,r,t,z⟩:=h.job j s;have n:y.j≠none:=by simp_all
  exact⟨x.keep (b _ (.inr (.inr (.inr ⟨n,.inl rfl⟩)))) (b _ (.inr (.inr (.inr ⟨n,.inr (.inl rfl)⟩)))) (b _ (.inr (.inr (.inr ⟨n,.inr (.inr rfl)⟩)))),q.keep λg o e=>u g o e (q.lt r e),r,t,z⟩⟩
def aB.below{w a:ω}{b:Nat}{Y:Yh}{y:YV}(h:aB w b Y y)(c:β w w a):aB a b Y y :=
 h.keep (λ_ d=>c.block _ (h.fF d)) λ_ _ _ f=>c.block _ f
def aB.beside{S i:Nat->Prop}{w f:ω}{b:Nat}{Y:Yh}{y:YV}(h:aB w b Y y)(d:Moved S w i f)(m:∀ k,fpY b Y y k->¬S k)(l:Apart Y.jb.a S):aB f b Y y :=
 h.keep (λk c=>d.block (h.fF c) (m k c)) λg o e j=>d.block j (l g o e)
def oV(d:Nat)(Y:Yh)(y y':YV)(w c:ω):Prop:=∃ b:Yh,(b.jb=Y.jb\/∀ g o,b.jb.a=S ⟨g,o,O⟩->w.heap.size<=g/\g<c.heap.size)/\aB c d b y'/\Moved (fpY d Y y) w (fpY d b y') c
theorem oV.of_below{w c:ω}{a:Nat}{Y:Yh}{y:YV}(h:aB w a Y y)(b:β w w c):oV a Y y y w c:=⟨Y,.inl rfl,h.below b,Moved.of_below b⟩
def aB.kL{S U:Nat->Prop}{w G:ω}{t m':Nat}{Y:Yh}{y:YV}{r:Nat->Ih}{z:SV}{j':Option JV}(h:aB w t Y y)(P:bD G t r z m')(J:Moved S w U G)
  (hS:∀ k,S k->fpS Y.xs y.s k\/Y.jb.fp y.j k) (aa:∀ k,fpS r z k\/Y.jb.fp y.j k->U k\/k<w.heap.size/\(fpS Y.xs y.s k\/Y.jb.fp y.j k)) (Q:j'=none↔y.j=none)
  (hj:∀ a,j'=some a->∃ j,y.j=some j/\a.l=j.l/\iG G Y.jb.jp t Y.jb.lp Y.jb.bp Y.jb.a Y.jb.cap a) :
  aB G t {Y with xs:=r} {y with s:=z,j:=j'}/\Moved (fpY t Y y) w (fpY t {Y with xs:=r} {y with s:=z,j:=j'}) G:=by
 obtain⟨n1,n2,n3⟩:=h.kH
 have K:∀ k,S k->(∃ i,i<5/\Y.fpF y.s i k/\y.s i≠none)\/Y.jb.fp y.j k:=λk d=>by
  rcases hS k d with⟨i,f,x,g⟩|d
  .cases m:y.s i with
   | none=>exact absurd m x
   | some v=>exact .inl ⟨i,f,by rw[Yh.dX m];exact g,(by rw[m];intro e;cases e)⟩
  .exact .inr d
 have a8:¬S t:=λe=>by
  rcases K t e with⟨i,f,g,_⟩|d
  .exact n1 i f g
  .exact n3 d
 have a0:=J.block h.blk.lt a8;obtain⟨c,W,T,h3,h4,h5,h6⟩:=h.blk.is;obtain⟨c',g1,g2,g3⟩:=P.is_;rw[a0,W] at g1;have ec:c=c':=by cases g1;rfl
 subst ec
 have M:∀ i,i<5->(z i=none↔y.s i=none):=λi f=>by
  have e:=(g2 i f).symm.trans (h4 i f)
  cases o:z i with
  | none =>
   cases m:y.s i with
   | none=>exact⟨λ_=>rfl,λ_=>rfl⟩
   | some v=>rw[o,m] at e;cases e
  | some u =>
   cases m:y.s i with
   | none=>rw[o,m] at e;cases e
   | some v=>exact⟨λe=>(by cases e),λe=>(by cases e)⟩
 have a5:∀ i,i<5->({Y with xs:=r}:Yh).dp z i=Y.dp y.s i:=λi f=>by
  cases o:z i with
  | none=>rw[Yh.dp_none o,Yh.dp_none ((M i f).1 o)]
  | some u =>
   cases m:y.s i with
   | none=>rw[(M i f).2 m] at o;cases o
   | some v =>
    have e:=(g3 i f (by rw[o];intro e;cases e)).symm.trans (T i f)
    rw[Yh.kY o];have H:=jaO e
    injection H with R
    have e4:=jaO R
    injection e4
 have a1:∀ i,i<5->y.s i=none->∀ k,(Y.ds i).fp k->¬S k:=λi f m k d e=>by
  have B:Y.fpF y.s i k:=by rw[Yh.dH m];exact d
  rcases K k e with⟨C,A,g,x⟩|g
  .exact h.apart i C f A (λe=>x (by rw[<- e];exact m)) k B g
  .exact(h.kC g).1 i f B
 have a3:∀ k,Y.tp.fp k->¬S k:=λk d e=>by
  rcases K k e with⟨C,A,g,_⟩|g
  .exact h.apTop C A k d g
  .exact(h.kC g).2 d
 have Z:∀ k,fpS r z k\/Y.jb.fp y.j k->(fpS Y.xs y.s k\/Y.jb.fp y.j k)\/w.heap.size<=k:=λk d=>by
  rcases aa k d with n|n
  .rcases J.new k n with F|F
   .exact .inl (hS k F)
   .exact .inr F
  .exact .inl n.2
 have I:∀ i k,i<5->({Y with xs:=r}:Yh).fpF z i k->(y.s i=none/\(Y.ds i).fp k)\/(z i≠none/\fpS r z k/\(r i).fp k):=λi k f d=>by
  cases o:z i with
  | none=>rw[Yh.dH o] at d;exact .inl ⟨(M i f).1 o,d⟩
  | some u=>rw[Yh.dX o] at d;exact .inr ⟨(by intro e;cases e),⟨i,f,(by rw[o];intro e;cases e),d⟩,d⟩
 have O:∀ k,k<w.heap.size->fpS r z k->(∃ i,i<5/\Y.fpF y.s i k/\y.s i≠none)\/Y.jb.fp y.j k:=λk L d=>by
  rcases Z k (.inl d) with n|n
  .rcases n with⟨i,f,x,g⟩|n
   .cases m:y.s i with
    | none=>exact absurd m x
    | some v=>exact .inl ⟨i,f,by rw[Yh.dX m];exact g,(by rw[m];intro e;cases e)⟩
   .exact .inr n
  .omega
 have N:Moved (fpY t Y y) w (fpY t {Y with xs:=r} {y with s:=z,j:=j'}) G:=by
  refine⟨J.kept.mono λk _ d=>?_,λk d=>?_⟩
  .rcases K k d with⟨i,f,g,_⟩|g
   .exact .inr (.inl ⟨i,f,g⟩)
   .exact .inr (.inr (.inr g))
  .rcases d with rfl|⟨i,f,g⟩|g|⟨a7,D⟩
   .exact .inl (.inl rfl)
   .rcases I i k f g with⟨m,d⟩|⟨_,d,_⟩
    .exact .inl (.inr (.inl ⟨i,f,by rw[Yh.dH m];exact d⟩))
    .rcases Z k (.inl d) with n|n
     .rcases n with n|n
      .exact .inl (.inr (.inl (h.inS n)))
      .exact .inl (.inr (.inr (.inr n)))
     .exact .inr n
   .exact .inl (.inr (.inr (.inl g)))
   .exact .inl (.inr (.inr (.inr ⟨λe=>a7 (Q.2 e),D⟩)))
 refine⟨⟨⟨c,by rw[a0];exact W,λi f=>by rw[a5 i f];exact T i f,h3,g2,h5,?_⟩,P.img,λi f o=>?_,?_,λi j f D V k d q=>?_,λi f k d q=>?_,λa ha=>?_⟩,N⟩
 .rw[h6]
  cases e:j' with
  | none=>rw[Q.1 e]
  | some a =>
   cases H:y.j with
   | none=>rw[Q.2 H] at e;cases e
   | some b=>rfl
 .have m:=(M i f).1 o
  have hd:=h.dev i f m;exact hd.keep λk d=>J.block (hd.lt k d).2 (a1 i f m k d)
 .exact h.top.keep λk d=>J.block (h.top.lt k d).2 (a3 k d)
 .rcases I i k f d with⟨m,d⟩|⟨x,d,a6⟩
  .have L:=((h.dev i f m).lt k d).2
   have B:Y.fpF y.s i k:=by rw[Yh.dH m];exact d
   rcases I j k D q with⟨E,q⟩|⟨_,q,_⟩
   .exact h.apart i j f D V k B (by rw[Yh.dH E];exact q)
   .rcases O k L q with⟨C,A,g,x⟩|g
    .exact h.apart i C f A (λe=>x (by rw[<- e];exact m)) k B g
    .exact(h.kC g).1 i f B
  .rcases I j k D q with⟨E,q⟩|⟨ab,_,a2⟩
   .have L:=((h.dev j D E).lt k q).2
    have B:Y.fpF y.s j k:=by rw[Yh.dH E];exact q
    rcases O k L d with⟨C,A,g,a4⟩|g
    .exact h.apart j C D A (λe=>a4 (by rw[<- e];exact E)) k B g
    .exact(h.kC g).1 j D B
   .exact P.apart i j f D V x ab k a6 a2
 .rcases I i k f q with⟨E,q⟩|⟨_,q,_⟩
  .exact h.apTop i f k d (by rw[Yh.dH E];exact q)
  .rcases O k (h.top.lt k d).2 q with⟨C,A,g,_⟩|g
   .exact h.apTop C A k d g
   .exact(h.kC g).2 d
 .obtain⟨j,e1,H,R⟩:=hj a ha
  obtain⟨n,F,h9,a9,X⟩:=h.job j e1;rw[H];exact⟨R,F.moved N X,h9,a9,X.moved F h9 N⟩
def bQ.nG{B:Gd}{w:ω}{h:Hd}{d:DV}(hd:bQ B w h d):bQ (Gd.but w h.fp) w h d:=⟨hd.toaO,λ_ a b=>b.2 a⟩
def bQ.noG{B:Gd}{w:ω}{h:Hd}{d:DV}(hd:bQ B w h d):bQ Gd.no w h d:=⟨hd.toaO,λ_ _ a=>a⟩
def bQ.moved{w a:ω}{h b:Hd}{d:DV}{T:Nat->Prop}(hd:bQ (Gd.but w h.fp) a b d)(c:Kept T w a)(f:∀ k,T k->¬(Gd.but w h.fp).g k):Moved h.fp w b.fp a:=nH c f hd.out
def aB.pK{w m:ω}{g:Nat}{Y:Yh}{y:YV}(h:aB w g Y y){f:Hd}{q:DV}(hd:bQ Gd.no m f q)(L:f.p=Y.tp.p)(l:Moved Y.tp.fp w f.fp m) :
  aB m g {Y with tp:=f} {y with top:=q}/\Moved (fpY g Y y) w (fpY g {Y with tp:=f} {y with top:=q}) m:=by
 obtain⟨N,J,K⟩:=h.kH
 have o:Moved (fpY g Y y) w (fpY g {Y with tp:=f} _) m:=⟨l.kept.mono λk _ a=>.inr (.inr (.inl a)),λk a=>by
  rcases a with a|a|a|a
  .exact .inl (.inl a)
  .exact .inl (.inr (.inl a))
  .rcases l.new k a with d|d
   .exact .inl (.inr (.inr (.inl d)))
   omega
  .exact .inl (.inr (.inr (.inr a)))⟩
 have x:=λi (b:i<5) k (a:Y.fpF y.s i k)=>l.block (h.kZ b a) λe=>h.apTop i b k e a
 refine⟨⟨?_,λi v b n=>(h.img i v b n).jm λk a=>x i b k (by rw[Yh.dX n];exact a),λi b n=>(h.dev i b n).keep λk a=>x i b k (by rw[Yh.dH n];exact a),hd,h.apart,λi b k a t=>?_,λj I=>?_⟩,o⟩
 .obtain⟨c,d,C,M,E,G,H⟩:=h.blk.is
  exact⟨c,(l.block h.blk.lt J).trans d,C,by simp_all,E,G,H⟩
 .rcases l.new k a with d|d
  .exact h.apTop i b k d t
  .have:=h.kZ b t;omega
 .obtain⟨F,z,B,D,u⟩:=h.job j I
  have A:y.j≠none:=by simp_all
  have r:=λk (a:k=Y.jb.jp\/k=Y.jb.lp\/k=Y.jb.bp)=>l.block (h.fF (.inr (.inr (.inr ⟨A,a⟩)))) (h.kC ⟨A,a⟩).2
  exact⟨F.keep (r _ (.inl rfl)) (r _ (.inr (.inl rfl))) (r _ (.inr (.inr rfl))),z.moved o u,B,D,u.moved z B o⟩
def aB.pF{w J r:ω}{n i:Nat}{Y f:Yh}{y y':YV}(h:aB w n Y y)(q:i<5)(o:Moved (Y.fpF y.s i) w (f.fpF y'.s i) J)(u:Kept (λk=>k=n) J r)
  (T:je r n f y'.s y'.kd.root (qw f.jb y'.j)) (R:∀ v,y'.s i=some v->aH Gd.no r (f.xs i) v) (Z:y'.s i=none->bQ Gd.no r (f.ds i) (y'.dv i))
  (t:∀ j,j≠i->y'.s j=y.s j/\y'.dv j=y.dv j/\f.xs j=Y.xs j/\f.ds j=Y.ds j) (V:f.tp=Y.tp/\f.jb=Y.jb/\y'.top=y.top/\y'.j=y.j) :
  aB r n f y'/\Moved (fpY n Y y) w (fpY n f y') r:=by
 obtain⟨n1,n2,U⟩:=h.kH;obtain⟨t1,t2,t3,t4⟩:=V
 have A:∀ j,j≠i->∀ k,f.fpF y'.s j k=Y.fpF y.s j k:=λj d k=>by
  obtain⟨z,_,C,D⟩:=t j d;unfold Yh.fpF;rw[z,C,D]
 have E:=λk (c:k<w.heap.size) (g:¬Y.fpF y.s i k) (S:k≠n)=>(u.block k (ja9 c o.size) S).trans (o.block c g)
 have F:Moved (fpY n Y y) w (fpY n f y') r:=by
  refine⟨⟨u.os.trans o.kept.os,u.tape.trans o.kept.tape,u.output.trans o.kept.output,ja4 o.size u.size,λk c t=>E k c (λe=>t (.inr (.inl ⟨i,q,e⟩))) (λe=>t (.inl e))⟩,λk c=>?_⟩
  rcases c with c|⟨j,d,c⟩|c|c
  .exact .inl (.inl c)
  .by_cases e:j=i
   .rw[e] at c
    rcases o.new k c with g|g
    .exact .inl (.inr (.inl ⟨i,q,g⟩))
    .exact .inr g
   .rw[A j e] at c;exact .inl (.inr (.inl ⟨j,d,c⟩))
  .rw[t1] at c;exact .inl (.inr (.inr (.inl c)))
  .rw[t2,t4] at c;exact .inl (.inr (.inr (.inr c)))
 have M:=λj (d:j<5) (e:j≠i) k (c:Y.fpF y.s j k)=>E k (h.kZ d c) (λx=>h.apart j i d q e k c x) (λx=>n1 j d (by rw[<- x];exact c))
 refine⟨⟨T,λj v d l=>?_,λj d l=>?_,?_,λa b ha P K k c m=>?_,λj d k c m=>?_,λj d=>?_⟩,F⟩
 .by_cases e:j=i
  .rw[e] at l |-;exact R v l
  .obtain⟨z,_,C,D⟩:=t j e
   rw[z] at l;rw[C];exact(h.img j v d l).jm λk c=>M j d e k (by rw[Yh.dX l];exact c)
 .by_cases e:j=i
  .rw[e] at l |-;exact Z l
  .obtain⟨z,x,C,D⟩:=t j e
   rw[z] at l;rw[D,x];exact(h.dev j d l).keep λk c=>M j d e k (by rw[Yh.dH l];exact c)
 .rw[t1,t3]
  exact h.top.keep λk c=>E k (h.top.lt k c).2 (h.apTop i q k c) (λe=>n2 (by rw[<- e];exact c))
 .have hx:∀ j,j<5->j≠i->Y.fpF y.s j k->¬f.fpF y'.s i k:=λj d e N a0=>by
   rcases o.new k a0 with g|g
   .exact h.apart j i d q e k N g
   .have:=h.kZ d N;omega
  by_cases I:a=i
  .have B:b≠i:=λe=>K (by rw[I,e])
   rw[A b B] at m;rw[I] at c;exact hx b P B m c
  .rw[A a I] at c
   by_cases B:b=i
   .simp_all
   .rw[A b B] at m;exact h.apart a b ha P K k c m
 .rw[t1] at c
  by_cases e:j=i
  .rw[e] at m
   rcases o.new k m with g|g
   .exact h.apTop i q k c g
   .have:=(h.top.lt k c).2;omega
  .rw[A j e] at m;exact h.apTop j d k c m
 .rw[t4] at d
  obtain⟨X,O,Q,W,L⟩:=h.job j d;have H:y.j≠none:=by rw[d];intro e;cases e
  have G:=λk (c:k=Y.jb.jp\/k=Y.jb.lp\/k=Y.jb.bp)=>E k (h.fF (.inr (.inr (.inr ⟨H,c⟩)))) ((h.kC ⟨H,c⟩).1 i q) (λe=>U (by rw[<- e];exact⟨H,c⟩))
  rw[t2];exact⟨X.keep (G _ (.inl rfl)) (G _ (.inr (.inl rfl))) (G _ (.inr (.inr rfl))),O.moved F L,Q,W,L.moved O Q F⟩
def aB.own{w l:ω}{c:Nat}{Y:Yh}{y:YV}(h:aB w c Y y)(a:Kept (λk=>k=c) w l){d:aP}(x:je l c Y y.s d.root (qw Y.jb y.j)):aB l c Y {y with kd:=d}/\Moved (fpY c Y y) w (fpY c Y {y with kd:=d}) l:=by
 obtain⟨C,E,z⟩:=h.kH;have m:Moved (fpY c Y y) w _ l:=⟨a.mono λk _ e=>.inl e,λk a=>.inl a⟩
 have u:=λi (b:i<5) k (f:Y.fpF y.s i k)=>a.block k (h.kZ b f) (λe=>C i b (by simp_all))
 refine⟨⟨x,λi v b g=>(h.img i v b g).jm λk a=>u i b k (by rw[Yh.dX g];exact a),λi b g=>(h.dev i b g).keep λk a=>u i b k (by rw[Yh.dH g];exact a),h.top.keep λk f=>a.block k (h.top.lt k f).2 (λe=>E (by simp_all)),h.apart,h.apTop,λj B=>?_⟩,m⟩
 obtain⟨D,o,r,A,t⟩:=h.job j B;have q:y.j≠none:=by simp_all
 have n:=λk (f:k=Y.jb.jp\/k=Y.jb.lp\/k=Y.jb.bp)=>a.block k (h.fF (.inr (.inr (.inr ⟨q,f⟩)))) (λe=>z (by rw[<- e];exact⟨q,f⟩))
 exact⟨D.keep (n _ (.inl rfl)) (n _ (.inr (.inl rfl))) (n _ (.inr (.inr rfl))),o.moved m t,r,A,t.moved o r m⟩
def je.vN{w:ω}{a:Nat}{Y:Yh}{s:SV}{r:Int}{f:υ}(h:je w a Y s r f)(d:Int):je (w.setCell ⟨a,11,O⟩ d) a Y s d f:=by
 obtain⟨c,k,g,m,j,o,n⟩:=h.is;have l:12<c.size:=by rcases jaq 12 _ with e|e;exact e;simp_all
 refine⟨_,heap_setCell_same w a 11 _ _ _ k,λi b=>?_,?_,λi b=>?_,?_,?_⟩
 .rw[ja3 (by omega)];exact g i b
 .simp_all
 .rw[ja3 (by omega)];exact j i b
 .rw[jaa (by omega)]
 .simp_all
def je.yL{w:ω}{a:Nat}{Y:Yh}{s:SV}{r:Int}{k:υ}(h:je w a Y s r k)(b:Jh)(v:υ):je (w.setCell ⟨a,12,O⟩ v) a {Y with jb:=b} s r v:=by
 obtain⟨c,j,f,m,g,o,n⟩:=h.is;have l:12<c.size:=by rcases jaq 12 _ with e|e;exact e;simp_all
 refine⟨_,heap_setCell_same w a 12 _ _ _ j,λi d=>?_,?_,λi d=>?_,?_,?_⟩
 .rw[ja3 (by omega)];exact f i d
 .simp_all
 .rw[ja3 (by omega)];exact g i d
 .simp_all
 .simp_all
def je.Hy{w:ω}{b i:Nat}{Y a:Yh}{s s':SV}{r:Int}{g:υ}(h:je w b Y s r g)(v:i<5)(f:∀ j,j≠i->a.xs j=Y.xs j/\s' j=s j)(hd:∀ j,j<5->a.dp s' j=Y.dp s j)(l:a.tp.p=Y.tp.p) :
  je (w.setCell ⟨b,6+i,O⟩ (iE (a.xs i) (s' i))) b a s' r g:=by
 obtain⟨c,q,k,m,o,t,n⟩:=h.is;have u:12<c.size:=by rcases jaq 12 _ with e|e;exact e;simp_all
 refine⟨_,heap_setCell_same w b _ _ _ _ q,λj d=>?_,?_,λj d=>?_,?_,?_⟩
 .rw[ja3 (by omega),hd j d];exact k j d
 .rw[ja3 (by omega),l];exact m
 .by_cases e:j=i
  .rw[e,jaa (by omega)]
  .rw[ja3 (by omega),(f j e).1,(f j e).2];exact o j d
 .rw[ja3 (by omega)];exact t
 .rw[ja3 (by omega)];exact n
theorem aB.vN{w:ω}{a:Nat}{Y:Yh}{y:YV}(h:aB w a Y y)(d:aP):aB (w.setCell ⟨a,11,O⟩ d.root) a Y {y with kd:=d}/\Moved (fpY a Y y) w (fpY a Y {y with kd:=d}) (w.setCell ⟨a,11,O⟩ d.root) :=
 h.own (Kept.setCell (S:=λk=>k=a)  (Kept.refl _ w) (.inl rfl) _) (h.blk.vN _)
theorem aB.yL{w:ω}{m:Nat}{Y:Yh}{y:YV}{b:Jh}{j:JV}(h:aB w m Y y)(n:iG w b.jp m b.lp b.bp b.a b.cap j)(u:Nums w b.a j.l)(t:j.l≠[])(G:j.l.length<=b.cap)(x:Apart b.a (fpY m {Y with jb:=b} {y with j:=some j})) :
  aB (w.setCell ⟨m,12,O⟩ b.jp) m {Y with jb:=b} {y with j:=some j}:=by
 obtain⟨D,F,I⟩:=h.kH;obtain⟨c,L,_⟩:=h.blk.is;have d:Kept _ w (w.setCell ⟨m,12,O⟩ b.jp):=Kept.setCell (S:=λk=>k=m)  (Kept.refl _ w) (.inl rfl) _
 have A:=λi (f:i<5) k (r:Y.fpF y.s i k)=>d.block k (h.kZ f r) (λe=>D i f (by simp_all))
 refine⟨h.blk.yL b _,λi v f q=>(h.img i v f q).jm λk d=>A i f k (by rw[Yh.dX q];exact d),λi f q=>(h.dev i f q).keep λk d=>A i f k (by rw[Yh.dH q];exact d),h.top.keep λk r=>d.block k (h.top.lt k r).2 (λe=>F (by rw[<- e];exact r)),h.apart,h.apTop,λj' B=>?_⟩
 have e  := jaO B;subst e;have J:=n.blk;have z:w.heap[b.lp]?=_:=n.set;have K:w.heap[b.bp]?=_:=n.bkt;obtain⟨C,E,H⟩:=n.lts;refine⟨n.keep (d.block _ C λe=>?_) (d.block _ E λe=>?_) (d.block _ H λe=>?_),u.keep λg o e=>d.block g (u.lt t e) λz=>x g o e (.inl z),t,G,x⟩
 .simp_all
 .simp_all
 .simp_all
