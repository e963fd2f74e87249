/- The document's yard is made (J1): the walk. -/
import Derived.Test.YtbohmhacdgckgaaGreatDoorQRyN1
set_option linter.all false
set_option maxHeartbeats 2000000
set_option maxRecDepth 100000
namespace Go.Proofs.YtbohmhacdgckgaaGreatDoor
open Go.RowKit renaming Below->β
open Go renaming World->ω, Value->υ, Calls->κ
open Option renaming none->O, some->S
open Go.Proofs.Tryz Go.RowKit Go.Maps
attribute [local go_sem ↓] Go.wp_at_zero Go.wp_at_succ
def xP{c p:Int}(b:(newH c p).ok=true):aQ (newH c p)<=200:=by
 have a:=HV.dK b;unfold newH at a |-;simp only at a;unfold aQ dw ay;simp only
 omega
def CZ(w:ω)(c p:Int)(d:Nat)(b:ω):Prop:=β w w b/\∃ Z:Zh,aC b d Z (lG c p)/\(∀ k,fpZ d Z (lG c p) k->w.heap.size<=k)/\(∀ g o,Z.la=S ⟨g,o,O⟩->w.heap.size<=g/\g<b.heap.size)/\Z.jb.a=O
def WX(c p:Int)(w:ω)(f:(newH c p).ok≠true) :
  κ prog 9 #[c,p] w λe a=>e=.returned (.tuple #[.pointer O,(1:Int)])/\β w w a:=by
 have b:Hid (β w w (w.alloc (bz c p (-1)))):=(ja0 _ _).alloc (ja1 _) _
 have d:Hid (κ prog 33 #[.agg #[c,p,(-1:Int)]] (w.alloc (bz c p (-1))) λe a=>e=.returned (1:Int)/\β w w a):=by
  have:=o8 c p (-1) (w.alloc (bz c p (-1)))
  rw[show HV.fault _=1 by unfold HV.fault;rw[if_neg (show ¬HV.ok ⟨c,p,-1⟩=true from f)]] at this
  exact this.mono λe a ⟨i,g⟩=>⟨i,b.out.trans (g.mono b.out.size)⟩
 unfold bz at b d;go_enter func9,ntmps9
 go_wp2_with fail
 refine cHd d.out λk j=>?_
 go_wp2
 go_ret2
 exact⟨rfl,j.out⟩
def WY(c p:Int)(w:ω)(C:(newH c p).ok=true) :
    κ prog 9 #[c,p] w λe d=>∃ zp:Nat,e=.returned (.tuple #[zp,(0:Int)])/\CZ w c p zp d:=by
  have hn:=xP C;have t:=HV.dK C;have a8:1<=aQ (newH c p):=by unfold aQ dw;omega
  obtain⟨j,N⟩:∃ j,j=w.alloc (bz c p (-1)):=⟨_,rfl⟩;have B:β w w j:=by rw[N];exact(ja0 _ _).alloc (ja1 _) _
  have al:j.heap[w.heap.size]?=some (bz c p (-1)):=by rw[N];exact heap_alloc_new _ _
  have aq:=lt_of_some al
  have HF:Hid (κ prog 33 #[.agg #[c,p,(-1:Int)]] j λe d=>e=.returned (0:Int)/\β j j d):=by
    have:=o8 c p (-1) j
    rw[show HV.fault ⟨c,p,-1⟩=0 by unfold HV.fault;rw[if_pos (show HV.ok ⟨c,p,-1⟩=true from C)]] at this
    exact this
  have R:Hid (∀ W:ω,κ prog 34 #[.agg #[c,p,(-1:Int)]] W λe d=>e=.returned (aQ (newH c p):Int)/\β W W d):=λW=>yx c p (-1) W C
  have J:=ah λW (t:β j j W)=>zG ((t.block _ aq).trans al)
  have ap:Hid (∀ W:ω,κ prog 35 #[(0:Int)] W λe d=>e=.returned (.agg #[(0:Int),(0:Int),(-1:Int),(0:Int),(0:Int)])/\β W W d):=λW=>wo 0 W
  have ag:Hid (∀(W y:ω),β j j W->β (W.alloc mF).heap.size (W.alloc mF) y->κ prog 36 #[(1:Int)] (y.alloc (.cells #[(0:Int)] 3)) λe d=>∃ n:Rh,e=.returned n.p/\NZ j d W.heap.size y.heap.size n):=λW y t F=>by
    refine(FI 1 (y.alloc (.cells #[(0:Int)] 3)) (by omega) (by omega)).mono ?_
    rintro e d ⟨n,rfl,h1,h2⟩;have ad:(W.alloc mF).heap.size=W.heap.size+1:=by simp
    have a5:(y.alloc (.cells #[(0:Int)] 3)).heap.size=y.heap.size+1:=by simp
    have b6:=F.size;rw[ad] at b6;have a7:β j j (W.alloc mF):=t.alloc t.size _;have L:=a7.trans (F.mono a7.size);have ao:β j j (y.alloc (.cells #[(0:Int)] 3)):=L.alloc L.size _;have hq:=t.size;refine⟨n,rfl,ao.trans (h2.mono ao.size),?_,?_,h1.toG.noG,λb e=>?_,t.size,by omega⟩
    . rw[h2.block _ (by rw[a5];omega),jal _ _ _ (by omega),F.block _ (by rw[ad];omega)]
      exact heap_alloc_new W _
    . rw[h2.block _ (by rw[a5];omega)]
      exact heap_alloc_new y _
    . have:=(h1.lt b e).1
      rw[a5] at this;omega
  have a4:Hid (∀ W:ω,κ prog 36 #[(aQ (newH c p):Int)] W λe d=>∃ q:Rh,e=.returned q.p/\dA W.heap.size d q (ig (aQ (newH c p)))/\β W W d):=λW=>FI (aQ (newH c p)) W a8 hn
  have a1:Hid (∀(l wr:ω) (sp lb:Nat) (n:Rh) (r:Nat->Rh),NZ j l sp lb n->DZ l wr l.heap.size 5 92 (newC n.p sp lb) r (λ_=>ig (aQ (newH c p)))->wr.cell? ⟨l,0,none⟩=some ((r 0).p:υ)/\β j j wr/\κ prog 37 #[(r 0).p,.agg #[c,p,(-1:Int)]] wr.drew λe d=>∃ xp:Nat,e=.returned (.tuple #[xp,(0:Int)])/\β j j d/\d.cell? ⟨l,0,none⟩=some ((r 0).p:υ)/\d.cell? ⟨l,6,none⟩=some (sp:υ)/\(∃ v,d.cell? ⟨sp,0,none⟩=some v)/\d.frozen? ⟨sp,0,none⟩=false /\
      (((d.setCell ⟨sp,0,none⟩ xp).cell? ⟨l,7,none⟩=some (.int .i64 0)/\(d.setCell ⟨sp,0,none⟩ xp).cell? ⟨l,8,none⟩=some (.int .i64 0)/\(d.setCell ⟨sp,0,none⟩ xp).cell? ⟨l,9,none⟩=some (.int .i64 (-1))/\(d.setCell ⟨sp,0,none⟩ xp).cell? ⟨l,10,none⟩=some (.int .i64 0)/\(d.setCell ⟨sp,0,none⟩ xp).cell? ⟨l,11,none⟩=some (.int .i64 0)) /\
      κ prog 38 #[l.heap.size,.agg #[(0:Int),(0:Int),(-1:Int),(0:Int),(0:Int)]] (d.setCell ⟨sp,0,none⟩ xp) λe G=>(∃ f:Int,e=.returned f)/\CZ w c p l.heap.size G)):=λl wr sp lb n r K hd=>by
    obtain⟨hy,Z,z⟩:=K.dM hd;obtain⟨k0,_⟩:=hy.blk.cells;have b7:=k0 0 (by omega)
    refine⟨b7,z,?_⟩;have S:β wr wr wr.drew:=(ja0 _ _).drew;have u:=hy.below S;obtain⟨V,d2,d3⟩:=u.kP (i:=0) (by omega)
    have b3:(wE (aQ (newH c p))).dev 0=ig (aQ (newH c p)):=rfl;rw[b3] at V;have bb:(Zh.hd ⟨r,n,λ_=>⟨0,n,.slice none 0 0,.slice none 0 0⟩,sp,some ⟨lb,0,none⟩,1,⟨0,none,0⟩⟩ (wE (aQ (newH c p))).s 0)=r 0:=rfl
    rw[bb] at V d3;have aM  := tZ a8 hn;have bc  := FH C (ja1 _);refine(DY c p (-1) wr.drew V.nG aM (by omega) (ja1 _)).mono ?_
    rintro e d ⟨x,ar,_,ax,h4|h4⟩
    . obtain⟨_,rfl,af⟩:=h4
      have E  := nH ax (λ_ e=>e.1) af.out
      obtain⟨g1,g2⟩:=u.made (i:=0) (by omega) E (af.re λ_ _ e=>e) ar
      have aR:=λk (e:(r 0).fp k)=>Z k (.inr (.inr (.inl ⟨0,by omega,e⟩)))
      have ae  := (z.trans (S.mono z.size)).trans (E.below (ja4 z.size S.size) aR);have aD  := λe=>u.kH.2.1 0 (by omega) e
      have ba  := λe=>u.oN.1 0 (by omega) e
      have am:=E.block u.blk.lt aD;have a9:=E.block (lt_of_some u.shf) ba;obtain⟨q0,_,q6,_⟩:=u.blk.cells;have bd:=Ii u.shf (k:=0) (by omega)
      obtain⟨v0,b9⟩:=bd;obtain⟨_,_,_,t7,t8,t9,ac,ab,_⟩:=g1.blk.cells;refine⟨x.p,rfl,ae,(jad (a:=⟨l.heap.size,0,none⟩) am).trans (q0 0 (by omega)),(jad (a:=⟨l.heap.size,6,none⟩) am).trans q6,⟨v0,(jad (a:=⟨sp,0,none⟩) a9).trans b9⟩,(jaF (a:=⟨sp,0,none⟩) a9).trans (frozen_of_row _ sp 0 _ _ u.shf),⟨t7,t8,t9,ac,ab⟩,?_⟩
      refine(uG (m:=20) (aj 0) _ g1 ((tZ (by omega) (by omega)).more (by omega)) (kX (by omega) (by omega)) (by omega)).mono ?_
      rintro e G ⟨rfl,Z2,e2,p1,Q⟩;refine⟨⟨_,rfl⟩,?_,Z2,p1,λk e=>?_,λg o e=>?_,?_⟩
      . have P:β j j (d.setCell ⟨sp,0,none⟩ x.p):=ae.setCell K.new.1 _
        have I:=B.trans (P.mono B.size);refine I.trans (Q.below I.size λk e=>?_)
        rcases g2.new k e with A|A
        . exact ja4 B.size (Z k A)
        . exact ja4 B.size (ja4 z.size A)
      . have I  := ja4 B.size z.size
        rcases Q.new k e with A|A
        . rcases g2.new k A with e4|e4
          . exact ja4 B.size (Z k e4)
          . exact ja4 I e4
        . have a3:(d.setCell ⟨sp,0,none⟩ x.p).heap.size=d.heap.size:=by simp[World.setCell]
          rw[a3] at A;have:=E.size
          exact ja4 I (ja4 this A)
      . rw[e2.la] at e
        cases e
        have q1:=lt_of_some K.lst;have q2:=K.new.2;have q3:=hd.bel.size;have q4:wr.heap.size<=d.heap.size:=E.size;have q5:=Q.size;have a3:(d.setCell ⟨sp,0,none⟩ x.p).heap.size=d.heap.size:=by simp[World.setCell]
        rw[a3] at q5;exact⟨ja4 B.size q2,by omega⟩
      . rw[e2.jb]
    . exact absurd bc h4.1
  have gN:decide (200<(aQ (newH c p):Int))=false:=decide_eq_false (by omega)
  have Y:Hid (∀(l:ω) (sp lb:Nat) (n:Rh),∃ r,DZ l (l.alloc (.cells (newC n.p sp lb) 92)) l.heap.size 0 92 (newC n.p sp lb) r (λ_=>ig (aQ (newH c p)))):=λl sp lb n=>⟨λ_=>⟨0,0,0,.nilIface,.nilIface⟩,DZ.start (ja0 _ _)⟩
  generalize ig (aQ (newH c p))=ND at a4 a1 Y;generalize aQ (newH c p)=nn at R a4 gN;unfold bz at N;unfold mF at ag;unfold newC at Y a1;go_enter func9,ntmps9
  go_wp2_with fail
  rw[<- N];refine cEq HF.out λw1 F=>?_
  obtain⟨b0,b1,b2⟩:=J.out _ F;have b4:=ah F;go_wp2_with fail
  refine cBl (R.out _) b4.out λG aL=>?_
  go_wp2_with fail
  refine cEq (ap.out _) λT L=>?_
  have az:=ah (ag.out _ _ aL.out L);go_wp2_with fail
  refine az.out.mono ?_;rintro e w4 ⟨n,rfl,b8⟩;have D:=ah b8;have av:=ah (Y.out w4 G.heap.size T.heap.size n);go_wp2
  go_loopw [9] (λi wr=>∃(k:Nat) (r:Nat->Rh),k<=5/\i=.int .i64 (k:Int)/\DZ w4 wr w4.heap.size k 92 #[.pointer none,.pointer none,.pointer none,.pointer none,.pointer none,n.p,G.heap.size,(0:Int),(0:Int),(-1:Int),(0:Int),(0:Int),.slice (some ⟨T,0,none⟩) 1 1,.pointer none] r (λ_=>ND)) (λi _=>5-(intOf i).toNat)
  case atStart =>
    obtain⟨r,h0⟩:=av.out;exact⟨0,r,by omega,rfl,h0⟩
  case round =>
    obtain⟨k,r,C,rfl,hL⟩:=hrel;by_cases bf:k<5
    . have M:=ah hL
      have k0:(0:Int)<=(k:Int):=by omega
      have k5:(k:Int)<5:=by omega
      have U:=ah λW (t:β wr wr W)=>J.out W ((D.out.bel.trans (M.out.bel.mono D.out.bel.size)).trans (t.mono (ja4 D.out.bel.size M.out.bel.size)))
      have H:Hid (β wr wr wr.drew):=(ja0 _ _).drew;have X:=U.out _ H.out;go_wp2
      go_region_held3 (λW=>W.cell? ⟨w,0,none⟩=some (c:υ)/\W.cell? ⟨w,1,none⟩=some (p:υ)/\W.cell? ⟨w,2,none⟩=some (.int .i64 (-1)))
        (first|(exact X)|assumption)
        (first
          | (go_at_call 34;refine cEq (R.out _) λw5 P=>?_;have O:=ah (H.out.trans (P.mono H.out.size));have be:=U.out _ O.out;clear P)
          | (go_at_call 36;refine(a4.out _).mono ?_;rintro e w6 ⟨q,rfl,hq,a2⟩;have aa:=ah ((M.out.below O.out).step (show k<14 by omega) a2 hq);have a0:=O.out.trans (a2.mono O.out.size);have bj:=U.out _ a0;have a6:=(M.out.below a0).cell;have b5  := J.out _ (D.out.bel.trans (aa.out.bel.mono D.out.bel.size));have aw:∃ v,w6.cell? ⟨w4.heap.size,k,none⟩=some v:=⟨_,(a6.2.1 k (ja1 _)).trans (jbd (show k<14 by omega))⟩;obtain⟨vk,bi⟩:=aw;have bh:=a6.2.2 k;clear a6 hq a2 a0))
      go_wp2
      go_roundw
      case rel =>
        exact⟨k+1,_,by omega,by go_num,aa.out⟩
      case measure=>simp[intOf];omega
    . have e5:k=5:=by omega
      subst e5;obtain⟨c0,z,aE⟩:=a1.out w4 wr G.heap.size T.heap.size n r D.out hL;have HM:=ah aE;have H:Hid (β j j wr.drew):=z.drew;have X:=And.intro (show wr.drew.cell? ⟨w4,0,none⟩=_ from c0) (J.out _ H.out)
      go_wp2
      go_region_held3 (λW=>W.cell? ⟨w4,0,none⟩=some ((r 0).p:υ)/\W.cell? ⟨w,0,none⟩=some (c:υ)/\W.cell? ⟨w,1,none⟩=some (p:υ)/\W.cell? ⟨w,2,none⟩=some (.int .i64 (-1)))
        (first|(exact X)|assumption)
        (first
          | (go_at_call 37;refine HM.out.mono ?_;rintro e w7 ⟨xp,rfl,an,q0,q6,⟨v7,q7⟩,f7,⟨t7,t8,t9,ac,ab⟩,ai⟩;have b5:=And.intro q0 (J.out _ an);have HW:=ah ai;clear an ai))
      go_wp2_with fail
      refine HW.out.mono ?_;rintro e w8 ⟨⟨f,rfl⟩,hm⟩;have HQ:=ah hm;go_wp2
      go_ret2
      exact⟨w4.heap.size,rfl,HQ.out⟩
def Mc(w:ω):(binOp BinOp.eql 27 .nilIface (.iface 96 (.int .i64 1))).run prog w=.ok (.bool false) w:=by kernel_rfl
def Ei(F:Int)(w:ω):(binOp BinOp.eql 27 (.iface 96 (.int .i64 F)) (.iface 96 (.int .i64 1))).run prog w=.ok (.bool (F==1)) w:=by kernel_rfl
def vY{d:Nat}{Y:Yh}{y:YV}(fr n F:Int)(w:ω)(h:aB w d Y y)(i:y.busy≠true\/n=0\/F=1) :
  κ prog 93 #[d,fr,n,erV F] w λe g=>e=.returned (.tuple #[])/\g=w:=by
 have b:=ah (oO w h);unfold goV at b;by_cases c:y.busy=true
 .rw[if_pos c] at b
  by_cases f:n=0
  .subst f
   go_enter func93,ntmps93
   go_wp2_with fail
   refine cSt b.out ?_;go_wp2
   refine bodyPost_ret (results_none rfl _ _ _) rfl ?_;exact⟨rfl,rfl⟩
  .have a:F=1:=by
    rcases i with a|a|a
    .exact absurd c a
    .exact absurd a f
    .exact a
   rw[a,eu];have j:=Ei 1;go_enter func93,ntmps93
   go_wp2_with fail
   refine cSt b.out ?_;go_wp2
   refine bodyPost_ret (results_none rfl _ _ _) rfl ?_;exact⟨rfl,rfl⟩
 .rw[if_neg c] at b
  generalize erV F=E;go_enter func93,ntmps93
  go_wp2_with fail
  refine cSt b.out ?_;go_wp2
  refine bodyPost_ret (results_none rfl _ _ _) rfl ?_;exact⟨rfl,rfl⟩
def V4{b C m:Nat}{Y:Yh}{y:YV}(fr n:Nat)(F:Int)(w:ω)(h:aB w b Y y)(A:YOk y C m)(N:F≠1)(z:y.busy=true)(hn:1<=n)(hl:fr+n<=1000) :
  κ prog 93 #[b,(fr:Int),(n:Int),erV F] w λe q=>e=.returned (.tuple #[])/\au b Y y (y.mark fr n) w q:=by
 have r:=ah (oO w h);unfold goV at r;rw[if_pos z] at r;obtain⟨j,v,J⟩:=lU z
 have L:Hid (∀ k:Nat,∀ W:ω,fr / 4+k=(fr+n-1) / 4+1->au b Y y {y with j:=some (kM j (fr / 4) k)} w W->au b Y y (y.mark fr n) w W):=λk W d hd=>by
  obtain⟨f,rfl⟩:∃ f,n=f+1:=⟨n-1,by omega⟩
  have e:y.mark fr (f+1)={y with j:=some (kM j (fr / 4) k)}:=by
   unfold YV.mark;have u:fr / 4<=(fr+f) / 4:=Nat.div_le_div_right (by omega)
   have E:k=(fr+f) / 4-fr / 4+1:=by
    have:fr+(f+1)-1=fr+f:=by omega
    rw[this] at d;omega
   rw[v,E,<- LG];rfl
  rw[e];exact hd
 have T:Hid (au b Y y {y with j:=some (kM j (fr / 4) 0)} w w):=by
  have e:({y with j:=some (kM j (fr / 4) 0)}:YV)=y:=by
   show({y with j:=some j}:YV)=y
   rw[<- v]
  unfold Hid;rw[e];exact au.refl h
 have D:Hid (∀(k:Nat) (W:ω),au b Y y {y with j:=some (kM j (fr / 4) k)} w W->κ prog 170 #[Y.jb.jp,((fr:Int) / 4+(k:Int):Int)] W λe q=>e=.returned (.tuple #[])/\au b Y y {y with j:=some (kM j (fr / 4) (k+1))} w q):=λk W ⟨i,B,t,G⟩=>by
  have R:JOk y.s C (kM j (fr / 4) k):=(A.job j v J).ok.kM _ k;obtain⟨g1,g2,g3,P,S⟩:=t.job _ rfl
  have O:PJ W b i.jb.jp i.jb.lp i.jb.bp i.jb.a i.jb.cap i.xs y.s m C (kM j (fr / 4) k):=⟨t.shelf A.s,g1,g2,λg o e d=>S g o e (by
   rcases d with d|d
   .exact .inr (.inl (t.inS d))
   .exact .inr (.inr (.inr ⟨(by intro e;cases e),d⟩))),R,P⟩
  rw[<- B,show(fr:Int) / 4+(k:Int)=((fr / 4+k:Nat):Int) by omega]
  refine cEq (LK ((fr / 4+k:Nat):Int) W O) λq hd=>?_
  obtain⟨H,M,Q,K⟩:=t.uj rfl (ja0 _ _) hd (by rw[show dW (kM j (fr / 4) k) ((fr / 4+k:Nat):Int)=kM j (fr / 4) (k+1) from rfl,Ea,Ea])
  exact⟨rfl,H,M.trans B,Q,G.trans K⟩
 generalize Y.jb.jp=V at r D
 have l:erV F=.nilIface\/(erV F=.iface 96 (.int .i64 F)/\(F==1)=false):=by
  by_cases u:F=0
  .exact .inl (by rw[u,aN])
  .exact .inr ⟨bJ u,by simpa using N⟩
 have g1:((n:Int)==0)=false:=by simp;omega
 have X:=Mc;have Z:=Ei F;rcases l with l|⟨l,gE⟩<;>rw[l]<;>clear l
 all_goals
  go_enter func93,ntmps93
  go_wp2_with fail
  refine cSt r.out ?_;go_wp2
  go_loopw [9] (λc wr=>∃ k:Nat,fr / 4+k<=(fr+n-1) / 4+1/\c=.int .i64 ((fr:Int) / 4+(k:Int))/\au b Y y {y with j:=some (kM j (fr / 4) k)} w wr) (λc _=>((fr+n) / 4+2)-(intOf c).toNat)
  case atStart=>exact⟨0,by omega,by simp,T.out⟩
  case round =>
   obtain⟨k,d,rfl,hd⟩:=hrel;by_cases U:fr / 4+k<=(fr+n-1) / 4
   .have x:=ah (D.out k _ hd)
    go_wp2_with fail
    refine cHd x.out λw2 I=>?_
    go_wp2
    refine⟨⟨k+1,by omega,by simp;omega,I.out⟩,?_⟩
    simp only[intOf];omega
   .have x:=ah (L.out k _ (by omega) hd)
    go_wp2
    go_end0
    exact⟨rfl,x.out⟩
def IB{s:SV}{C:Int}{m:Nat}{l:List Int}{n:Int}{v:IV}(f:s.good C l)(d:s.ok m)(g:n∈l)(a:s.file n=S v){c:Nat}(k:(c:Int)<C):v.there (c:Int)=true:=by
 obtain⟨u,b,i⟩:=f n g;rw[a] at b;cases b
 have j:=(d.file a).len;exact decide_eq_true (by omega)
def EZ{s:SV}{C m:Nat}{l:List Int}(a:s.good (C:Int) l)(g:s.ok m){c f k:Nat}{t:ByteArray}(w:c<C)(i:t.size=k*16)(o:f+k<=4):(s.lay l c f t).2≠1:=by
 cases l with
 | nil=>show(4:Int)≠1;decide
 | cons n r =>
  obtain⟨v,b,u⟩:=a n jag;have d:=IB a g jag b (c:=c) (by omega)
  show(match s.file n with|none=>_|some v=>_:SV × Int).2≠1
  rw[b];show(if (v.bC c).1=2 then _ else _:SV × Int).2≠1
  split
  .show v.dJ c f t≠1
   unfold IV.dJ;rw[if_pos (show oq v c f t=true by unfold oq;rw[d];simp;omega)]
   split
   .unfold IV.qU
    rcases DV.rV _ _ t _ with h|h<;>rw[h]<;>decide
   .decide
  .show v.dD c _≠1
   have j:((s.read (n::r) c).1.extract 0 (f*16)++t++(s.read (n::r) c).1.extract (f*16+t.size) 64).size=64:=by
    simp only[jaM,jaB,(SV.kS (c:=(c:Int)) a g (by simp_all) ⟨by omega,by omega⟩).2,i]
    omega
   unfold IV.dD;rw[if_pos ⟨d,j⟩];split
   .decide
   .split
    .decide
    .rename_i q r' hq
     split
     .rcases DV.nN _ with⟨h,_⟩|⟨h,_⟩<;>rw[h]<;>decide
     .unfold IV.fC
      rcases DV.rV _ _ _ 4 with h|h<;>rw[h]<;>decide
def Vq{s:SV}{C m:Nat}{l:List Int}(b:s.good (C:Int) l)(d:s.ok m){fr N:Nat}{p:Pt}(a:p.fits fr N C):(SV.dI l s p).2≠1:=by
 cases l with
 | nil=>show(4:Int)≠1;decide
 | cons n r =>
  obtain⟨v,f,g⟩:=b n jag;show(match s.file n with|none=>_|some v=>_:SV × Int).2≠1
  rw[f];show(if p.n=4 then _ else _:SV × Int).2≠1
  split
  .show v.fB _≠1
   unfold IV.fB;rw[if_pos (IB b d jag f (c:=p.c) (by have:=a.c;omega))]
   split
   .decide
   .rcases DV.nN _ with⟨h,_⟩|⟨h,_⟩<;>rw[h]<;>decide
  .split
   .omega
   .exact(EZ   (t:=dY _) b d a.c (by show(List.replicate _ (0:UInt8)).toArray.size=_;simp_all) a.n4)
def ED{a:SV->Pt->SV × Int}{C:Nat}{l:List Int}{fr N:Nat}(o:∀(s:SV) (m:Nat) p,s.good (C:Int) l->s.ok m->m+10<=1000000000->p.fits fr N C->(a s p).2≠1/\(a s p).1.ok (m+10)/\(a s p).1.good (C:Int) l) :
  ∀(P:List Pt) (s:SV) (m:Nat),s.good (C:Int) l->s.ok m->m+10*P.length<=1000000000->(∀ p∈P,p.fits fr N C)->(jC a s P).2≠1:=by
 intro P
 induction P with
 | nil=>intro s m _ _ _ _;show(0:Int)≠1;decide
 | cons p r k =>
  intro s m f g i b;simp only[jax] at i;rw[pY];obtain⟨c,d,n⟩:=o s m p f g (by omega) (b p jag)
  split
  .exact k _ _ n d (by omega) λq j=>b q (jb2 _ j)
  .exact c
def QD{s:SV}{C m:Nat}{l:List Int}(a:s.good (C:Int) l)(b:s.ok m){fr:Int}{t:ByteArray}(i:t.size % 16=0)(f:s.aW l fr ((t.size / 16:Nat):Int)=0)(g:m+10*(t.size / 16)<=1000000000):(s.put l fr t).2≠1:=by
 obtain⟨k,n,o,j⟩:=SV.mO a f;unfold SV.put;rw[if_pos i,if_pos f];have q:=qF fr.toNat (t.size / 16) _ 0 (ja1 _);refine ED     (λs m p a b g d=>⟨EZ a b d.c (rX (by have:=d.an;omega)) d.n4,b.lay _ _ _ _ g,?_⟩) _ s m a b (by omega) (vw (by omega) _ 0 (ja1 _))
 exact(bT.lay l s l _ _ _).good a
def Vs{s:SV}{C m:Nat}{l:List Int}(a:s.good (C:Int) l)(b:s.ok m){fr n:Int}(d:s.aW l fr n=0)(c:m+10*n.toNat<=1000000000):(s.wipe l fr n).2≠1:=by
 obtain⟨i,o,j,g⟩:=SV.mO a d;unfold SV.wipe;rw[if_pos d];have k:=qF fr.toNat n.toNat _ 0 (ja1 _);refine ED     (λs m p a b c f=>⟨Vq a b f,b.dI _ _ c,?_⟩) _ s m a b (by omega) (vw (by omega) _ 0 (ja1 _))
 exact(bT.dI l s l p).good a
def Dx{s:SV}{l:List Int}{fr n:Int}(a:l≠[])(h:s.aW l fr n≠0):s.aW l fr n=1:=by
 unfold SV.aW at h |-
 simp_all
def Ji{f C m:Nat}{Y:Yh}{y:YV}(fr n F:Int)(w:ω)(h:aB w f Y y)(j:YOk y C m)(l:C<=40)(o:F≠1->0<=fr/\0<=n/\fr+n<=4*C) :
  κ prog 93 #[f,fr,n,erV F] w λe c=>e=.returned (.tuple #[])/\au f Y y (if F=1 then y else y.mark fr.toNat n.toNat) w c:=by
 by_cases d:F=1
 .refine(vY fr n F w h (.inr (.inr d))).mono ?_
  rintro e c ⟨rfl,rfl⟩;rw[if_pos d];exact⟨rfl,au.refl h⟩
 .rw[if_neg d]
  obtain⟨a,rfl⟩:∃ k:Nat,fr=(k:Int):=⟨fr.toNat,by omega⟩
  obtain⟨b,rfl⟩:∃ k:Nat,n=(k:Int):=⟨n.toNat,by omega⟩
  rw[show((a:Int)).toNat=a by omega,show((b:Int)).toNat=b by omega]
  by_cases g:y.busy=true
  .by_cases i:b=0
   .subst i
    refine(vY (a:Int) 0 F w h (.inr (.inl rfl))).mono ?_;rintro e c ⟨rfl,rfl⟩;rw[OZ];exact⟨rfl,au.refl h⟩
   .exact V4 a b F w h j d g (by omega) (by omega)
  .refine(vY (a:Int) (b:Int) F w h (.inl g)).mono ?_
   rintro e c ⟨rfl,rfl⟩;rw[OY g];exact⟨rfl,au.refl h⟩
def Jr{c C m:Nat}{Y:Yh}{y:YV}(fr:Int)(t:ByteArray)(w:ω)(h:aB w c Y y)(b:YOk y C m)(q:C<=40)(hm:m+7000<1000000000)(H : -9223372036854775808<=fr/\fr<=9223372036854775807)(J:t.size<=10000) :
    κ prog 24 #[c,fr,t] w λe a=>e=.returned (erV (y.dJ fr t))/\au c Y y (y.write fr t) w a:=by
  have S:Hid (∀ W:ω,β w w W->κ prog 92 #[c] W λe a=>∃(g o cap:Nat),e=.returned (.slice (some ⟨g,o,none⟩) y.l.length cap)/\Nums a (some ⟨g,o,none⟩) y.l/\w.heap.size<=g/\β w w a):=λW i=>(sH W (h.below i) b).mono λe a ⟨g,o,cap,f,k,j,_,_,U⟩=>⟨g,o,cap,f,k,ja4 i.size j,i.trans (U.mono i.size)⟩
  have r:Hid (∀(W:ω) (g o cap:Nat),β w w W->Nums W (some ⟨g,o,none⟩) y.l->w.heap.size<=g->κ prog 91 #[.pointer (some ⟨c,6,none⟩),.slice (some ⟨g,o,none⟩) y.l.length cap,fr,t] W λe a=>e=.returned (erV (y.s.put y.l fr t).2)/\au c Y y {y with s:=(y.s.put y.l fr t).1} w a):=λW g o cap i T hg =>
    (KQ y.l fr t W ((h.shelf b.s).below i) T b.ch.good (by have:=b.ch.len;omega) q (λg' o' e Q=>by
      cases e
      have:=h.fF (.inr (.inl (h.inS Q)))
      omega) (by omega) H J).mono λe a hd=>h.vK i hd
  have D:Hid (∀ W:ω,au c Y y {y with s:=(y.s.put y.l fr t).1} w W->κ prog 93 #[c,fr,((t.size:Int) / 16:Int),erV (y.s.put y.l fr t).2] W λe a=>e=.returned (.tuple #[])/\erV (y.s.put y.l fr t).2=erV (y.dJ fr t)/\au c Y y (y.write fr t) w a):=λW ⟨M,A,f,k⟩=>by
    have z:YOk {y with s:=(y.s.put y.l fr t).1} C (m+10*(t.size / 16)):=b.files (b.s.put _ _ _ (by omega)) (λl=>.put l _ _ _ _) (by omega)
    by_cases d:t.size % 16=0/\y.s.aW y.l fr ((t.size / 16:Nat):Int)=0
    . obtain⟨_,K,n0,hl⟩:=SV.mO b.ch.good d.2
      refine(Ji fr ((t.size:Int) / 16) _ W f z q (λ_=>⟨K,by omega,by omega⟩)).mono ?_
      rintro e a ⟨rfl,I,O,j,x⟩;rw[if_neg (QD b.ch.good b.s d.1 d.2 (by omega))] at j x
      have V:y.write fr t=({y with s:=(y.s.put y.l fr t).1}:YV).mark fr.toNat ((t.size:Int) / 16).toNat:=by
        unfold YV.write;rw[if_pos d,show((t.size:Int) / 16).toNat=t.size / 16 by omega]
      refine⟨rfl,?_,?_⟩
      . unfold YV.dJ;rw[if_pos d]
      . rw[V];exact⟨I,O.trans A,j,k.trans x⟩
    . have X:y.s.put y.l fr t=(y.s,1):=by
        unfold SV.put;by_cases n:t.size % 16=0
        . rw[if_pos n,if_neg (λe=>d ⟨n,e⟩),Dx b.ch.ne (λe=>d ⟨n,e⟩)]
        . rw[if_neg n]
      rw[X] at f k z |-;refine(vY fr ((t.size:Int) / 16) 1 W f (.inr (.inr rfl))).mono ?_;rintro e a ⟨rfl,rfl⟩;refine⟨rfl,?_,?_⟩
      . unfold YV.dJ;rw[if_neg d]
      . unfold YV.write;rw[if_neg d];exact⟨M,A,f,k⟩
  generalize y.s.put y.l fr t=R at r D;have L:Hid (β w w w.drew):=(ja0 _ _).drew;go_enter func24,ntmps24
  go_wp2
  go_region_held3 (λ_=>True)
    (first|trivial|assumption)
    (first
      | (go_at_call 92;refine(S.out _ L.out).mono ?_;rintro e F ⟨g,o,cap,rfl,f,j,N⟩;have P:=ah (r.out F g o cap N f j);have a0:=True.intro)
      | (go_at_call 91;refine cEq P.out λw2 E=>?_;have u:=ah (D.out _ E);have a1:=True.intro))
  go_wp2_with fail
  refine u.out.mono ?_;rintro e w3 ⟨rfl,B,v⟩;have Z:=ah B;have G:=ah v;clear B v u;go_wp2
  go_ret
  exact⟨lu Z.out,G.out⟩
def Jq{c C m:Nat}{Y:Yh}{y:YV}(fr n:Int)(w:ω)(h:aB w c Y y)(b:YOk y C m)(q:C<=40)(hm:m+7000<1000000000)(F : -9223372036854775808<=fr/\fr<=9223372036854775807) :
    κ prog 42 #[c,fr,n] w λe a=>e=.returned (erV (y.mG fr n))/\au c Y y (y.wipe fr n) w a:=by
  have O:Hid (∀ W:ω,β w w W->κ prog 92 #[c] W λe a=>∃(g o cap:Nat),e=.returned (.slice (some ⟨g,o,none⟩) y.l.length cap)/\Nums a (some ⟨g,o,none⟩) y.l/\w.heap.size<=g/\β w w a):=λW i=>(sH W (h.below i) b).mono λe a ⟨g,o,cap,d,k,j,_,_,Q⟩=>⟨g,o,cap,d,k,ja4 i.size j,i.trans (Q.mono i.size)⟩
  have r:Hid (∀(W:ω) (g o cap:Nat),β w w W->Nums W (some ⟨g,o,none⟩) y.l->w.heap.size<=g->κ prog 117 #[.pointer (some ⟨c,6,none⟩),.slice (some ⟨g,o,none⟩) y.l.length cap,fr,n] W λe a=>e=.returned (erV (y.s.wipe y.l fr n).2)/\au c Y y {y with s:=(y.s.wipe y.l fr n).1} w a):=λW g o cap i P X =>
    (Ld y.l fr n W ((h.shelf b.s).below i) P b.ch.good (by have:=b.ch.len;omega) q (λg' o' e N=>by
      cases e
      have:=h.fF (.inr (.inl (h.inS N)))
      omega) (by omega) F).mono λe a hd=>h.vK i hd
  have A:Hid (∀ W:ω,au c Y y {y with s:=(y.s.wipe y.l fr n).1} w W->κ prog 93 #[c,fr,n,erV (y.s.wipe y.l fr n).2] W λe a=>e=.returned _/\erV _=erV (y.mG fr n)/\au c Y y (y.wipe fr n) w a):=λW ⟨J,x,d,k⟩=>by
    by_cases f:y.s.aW y.l fr n=0
    . obtain⟨_,H,Z,hl⟩:=SV.mO b.ch.good f
      refine(Ji fr n _ W d (b.files (b.s.wipe _ _ _ (by omega)) (λl=>.wipe l _ _ _ _) (by omega)) q (λ_=>⟨H,by omega,by omega⟩)).mono ?_
      rintro e a ⟨rfl,G,L,j,v⟩;rw[if_neg (Vs b.ch.good b.s f (by omega))] at j v
      have S:y.wipe fr n=({y with s:=(y.s.wipe y.l fr n).1}:YV).mark fr.toNat n.toNat:=by
        unfold YV.wipe;rw[if_pos f]
      refine⟨rfl,?_,?_⟩
      . unfold YV.mG;rw[if_pos f]
      . rw[S];exact⟨G,L.trans x,j,k.trans v⟩
    . have T:y.s.wipe y.l fr n=(y.s,1):=by
        unfold SV.wipe;rw[if_neg f,Dx b.ch.ne f]
      rw[T] at d k |-;refine(vY fr n 1 W d (.inr (.inr rfl))).mono ?_;rintro e a ⟨rfl,rfl⟩;refine⟨rfl,?_,?_⟩
      . unfold YV.mG;rw[if_neg f]
      . unfold YV.wipe;rw[if_neg f];exact⟨J,x,d,k⟩
  generalize y.s.wipe y.l fr n=R at r A;have I:Hid (β w w w.drew):=(ja0 _ _).drew;go_enter func42,ntmps42
  go_wp2
  go_region_held3 (λ_=>True)
    (first|trivial|assumption)
    (first
      | (go_at_call 92;refine(O.out _ I.out).mono ?_;rintro e D ⟨g,o,cap,rfl,d,j,K⟩;have M:=ah (r.out D g o cap K d j);have a0:=True.intro)
      | (go_at_call 117;refine cEq M.out λw2 B=>?_;have t:=ah (A.out _ B);have a1:=True.intro))
  go_wp2_with fail
  refine t.out.mono ?_;rintro e V ⟨rfl,z,u⟩;have U:=ah z;have E:=ah u;clear z u t;go_wp2
  go_ret
  exact⟨lu U.out,E.out⟩
def getD_in{l:List Int}{k:Nat}(h:k<l.length):l.getD k 0∈l:=by
 simp_all
def V7{a C m:Nat}{Y:Yh}{y:YV}(w:ω)(h:aB w a Y y)(x:YOk y C m) :
  κ prog 45 #[a] w λe t=>e=.returned (.tuple #[])/\au a Y y y.flush w t:=by
 have H:=ah (sH w h x)
 have F:Hid (∀ W:ω,au a Y y {y with s:=y.s.gK (y.l.take y.l.length)} w W->au a Y y y.flush w W):=λW hd=>by
  rw[jaT] at hd;exact hd
 have E:Hid (∀(k:Nat) (b W:ω) (g o:Nat),k<y.l.length->Nums b (some ⟨g,o,none⟩) y.l->w.heap.size<=g->β w w b->au a Y y {y with s:=y.s.gK (y.l.take k)} b W->∃(n xp:Nat),W.cell? ⟨g,o+k,none⟩=some (.int .i64 (n:Int))/\n<5/\W.cell? ⟨a,6+n,none⟩=some (xp:υ) /\
   κ prog 119 #[xp] W λe t=>e=.returned (.tuple #[])/\au a Y y {y with s:=y.s.gK (y.l.take (k+1))} b t):=λk b W g o c V hg u ⟨j,B,d,f⟩=>by
  have hN  := V.moved f (λQ U e A=>by
   cases e
   have:=h.fF A
   omega)
  obtain⟨Q,U,Z,D⟩:=hN k c;cases Z
  obtain⟨v,I,_⟩:=Nc x.ch.good (y.l.take k) _ (getD_in c);obtain⟨a0,a5,a2⟩:=SV.dS I;have G:W.cell? ⟨a,6+(y.l.getD k 0).toNat,none⟩=some (iE (j.xs (y.l.getD k 0).toNat) (y.s.gK (y.l.take k) (y.l.getD k 0).toNat)):=d.blk.cells.2.2.1 (y.l.getD k 0).toNat (by omega)
  rw[a2] at G;refine⟨(y.l.getD k 0).toNat,(j.xs (y.l.getD k 0).toNat).p,by rw[D,show(((y.l.getD k 0).toNat:Nat):Int)=y.l.getD k 0 by omega],by omega,G,?_⟩
  refine(Et W (d.shelf (SV.ok.gK _ x.s)) I).mono ?_;rintro e t ⟨rfl,K,q,X⟩;obtain⟨P,R⟩:=d.vO (ja0 _ _) q X;refine⟨rfl,{j with xs:=K},B,?_,?_⟩
  .rw[Cj c,SV.Ae];exact P
  .rw[Cj c,SV.Ae];exact f.trans R
 have S:Hid (∀(b W:ω) (z:YV),β w w b->au a Y y z b W->au a Y y z w W):=λb W z u ⟨j,B,d,f⟩=>⟨j,B,d,(Moved.of_below u).trans f⟩
 have O:=ah λW (u:β w w W)=>au.refl (h.below u)
 have N  := x.ch.len;generalize hl:y.l.length=ln at H E F N;go_enter func45,ntmps45
 go_wp2_with fail
 refine H.out.mono ?_;rintro e r ⟨g,o,cap,rfl,d,f,h3,D,q⟩;have T:=ah (λW z hd=>S.out r W z q hd)
 go_wp2
 go_loopw [7] (λi wr=>∃ k:Nat,k<=ln/\i=.int .i64 (k:Int)/\au a Y y {y with s:=y.s.gK (y.l.take k)} r wr) (λi _=>ln-(intOf i).toNat)
 case atStart=>exact⟨0,ja6 _,rfl,(O.out r q)⟩
 case round =>
  obtain⟨k,c,rfl,hd⟩:=hrel;by_cases J:k<ln
  .obtain⟨n,xp,q1,q2,q3,A⟩:=(λk W c hd=>E.out k r W g o c d f q hd) k wr J hd
   have k0:(0:Int)<=(k:Int):=by omega
   have k2:((k:Int)).toNat=k:=by omega
   have n0:(0:Int)<=(n:Int):=by omega
   have n1:(n:Int)<5:=by omega
   have n2:((n:Int)).toNat=n:=by omega
   have k3:IntKind.i64.wrap _=(k:Int)+1:=ja8 _ (by omega)
   go_wp2_with fail
   refine cHd A λw2 M=>?_
   go_wp2
   refine⟨⟨k+1,by omega,by simp,M.out⟩,?_⟩
   simp only[intOf];omega
  .have L:k=ln:=by omega
   rw[L] at hd;go_wp2
   go_end0
   exact⟨rfl,(F.out _ (T.out _ _ hd))⟩
def bx(a b c:Int):Obj:=.cells #[a,b,c] 67 (0,0)
def sS{W:ω}{N:Nat}{a b c:Int}(h:W.heap[N]?=S (bx a b c)):W.cell? ⟨N,0,O⟩=S (a:υ)/\W.cell? ⟨N,1,O⟩=S (b:υ)/\W.cell? ⟨N,2,O⟩=S (c:υ)/\W.frozen? ⟨N,1,O⟩=false:=by
 refine⟨?_,?_,?_,frozen_of_row W N 1 _ _ h⟩<;>(rw[cell_of_row _ _ _ _ _ _ h];rfl)
def aB.creates{w W:ω}{c i N m C:Nat}{Y:Yh}{y:YV}{back R:Int}(h:aB w c Y y)(M:YOk y C m)(g:i<5)(hm:m+20<1000000000)(S:y.used (i:Int)≠true)(hR:R=nO (y.dev i).fl.length (C:Int))(t:β w w W)(hN:w.heap.size<=N)(A:W.heap[N]?=some (bx (C:Int) R back)) :
  κ prog 30 #[Y.dp y.s i,.agg #[(C:Int),R,back]] W λe b=>∃ j:Option Addr,e=.returned (.tuple #[.pointer j,erV (y.eX (i:Int) back)]) /\
   (b.cell? ⟨c,i,none⟩=some (Y.dp y.s i:υ)/\b.cell? ⟨N,0,none⟩=some (.int .i64 (C:Int))/\b.cell? ⟨N,1,none⟩=some (R:υ)/\b.cell? ⟨N,2,none⟩=some (back:υ))/\(∃ v,b.cell? ⟨c,6+i,none⟩=some v)/\b.frozen? ⟨c,6+i,none⟩=false /\
   ((b.setCell ⟨c,6+i,none⟩ (.pointer j)).cell? ⟨c,i,none⟩=some (Y.dp y.s i:υ)/\(b.setCell ⟨c,6+i,none⟩ (.pointer j)).cell? ⟨N,0,none⟩=some (.int .i64 (C:Int))/\(b.setCell ⟨c,6+i,none⟩ (.pointer j)).cell? ⟨N,1,none⟩=some (R:υ)/\(b.setCell ⟨c,6+i,none⟩ (.pointer j)).cell? ⟨N,2,none⟩=some (back:υ)) /\
   au c Y y (y.blank (i:Int) back) w (b.setCell ⟨c,6+i,none⟩ (.pointer j)):=by
 have f:=h.below t;obtain⟨d1,q,H⟩:=f.kP g;have a2:=h.blk.lt;have Z:¬(Y.hd y.s i).fp N:=λe=>by have:=h.fF (.inr (.inl ⟨i,g,H N e⟩));omega
 have J  := λe=>f.kH.1 i g (H c e)
 have T:y.head (i:Int) back=⟨(C:Int),R,back⟩:=by
  unfold YV.head;rw[M.ch.gZ,show((i:Int)).toNat=i by omega,hR]
 have P:((i:Int)).toNat=i:=by omega
 have hF:y.eX (i:Int) back=crF (y.dev i) ⟨(C:Int),R,back⟩:=by
  unfold YV.eX;rw[if_pos ⟨by omega,by omega⟩,if_neg S,T,P]
 have hV:y.blank (i:Int) back=if crF (y.dev i) ⟨(C:Int),R,back⟩=0 then {y with s:=y.s.upd i (crV (y.dev i) ⟨(C:Int),R,back⟩)} else {y with s:=y.s.gone i,dv:=λk=>if k=i then iQ (y.dev i) ⟨(C:Int),R,back⟩ else y.dv k}:=by
  unfold YV.blank;rw[if_pos ⟨by omega,by omega⟩,if_neg S,T,P]
 have O:∀(b:ω) (l:υ),b.heap[c]?=W.heap[c]?->b.heap[N]?=W.heap[N]? ->
   (b.cell? ⟨c,i,none⟩=some (Y.dp y.s i:υ)/\b.cell? ⟨N,0,none⟩=some (.int .i64 (C:Int))/\b.cell? ⟨N,1,none⟩=some (R:υ)/\b.cell? ⟨N,2,none⟩=some (back:υ))/\(∃ v,b.cell? ⟨c,6+i,none⟩=some v)/\b.frozen? ⟨c,6+i,none⟩=false /\
   ((b.setCell ⟨c,6+i,none⟩ l).cell? ⟨c,i,none⟩=some (Y.dp y.s i:υ)/\(b.setCell ⟨c,6+i,none⟩ l).cell? ⟨N,0,none⟩=some (.int .i64 (C:Int))/\(b.setCell ⟨c,6+i,none⟩ l).cell? ⟨N,1,none⟩=some (R:υ)/\(b.setCell ⟨c,6+i,none⟩ l).cell? ⟨N,2,none⟩=some (back:υ)):=λb l F e2=>by
  obtain⟨c0,_,c6,_,_,fz⟩:=f.blk.cells;have V:=(jad (a:=⟨c,i,none⟩) F).trans (c0 i g);have a6:=(jad (a:=⟨c,6+i,none⟩) F).trans (c6 i g);have af:=(jaF (a:=⟨c,6+i,none⟩) F).trans (fz (6+i));obtain⟨K,I,Q,_⟩:=sS (e2.trans A);have r:∀ k,(⟨c,6+i,none⟩:Addr)≠⟨N,k,none⟩:=λk e=>by simp_all
  refine⟨⟨V,K,I,Q⟩,⟨_,a6⟩,af,?_,?_,?_,?_⟩
  .rw[jai _ _ _ _ (by simp_all)];exact V
  .rw[jai _ _ _ _ (r 0)];exact K
  .rw[jai _ _ _ _ (r 1)];exact I
  .rw[jai _ _ _ _ (r 2)];exact Q
 rw[<- q,hF];refine(DX (C:Int) R _ W d1.nG (M.dev i) hm (ja1 _)).mono ?_;rintro e b ⟨x,U,_,a1,B|B⟩
 .obtain⟨n,rfl,L,_,_⟩:=B
  have d  := nH a1 (λ_ e=>e.1) L.out
  obtain⟨u,D⟩:=f.made g d (L.re λ_ _ e=>e) U
  obtain⟨o,E,z,G⟩:=O b _ (d.block f.blk.lt J) (d.block (lt_of_some A) Z);rw[q];refine⟨some _,by rw[n,aN],o,E,z,G,?_⟩
  rw[hV,if_pos n];exact⟨{Y with xs:=mD _ i x},rfl,u,(Moved.of_below t).trans D⟩
 .obtain⟨n,rfl,X⟩:=B
  have d  := nH a1 (λ_ e=>e.1) X.out
  obtain⟨u,D⟩:=f.yY g d X.noG U;obtain⟨o,E,z,G⟩:=O b _ (d.block f.blk.lt J) (d.block (lt_of_some A) Z);rw[q];refine⟨none,rfl,o,E,z,G,?_⟩;rw[hV,if_neg n];exact⟨{Y with ds:=fG _ i _},rfl,u,(Moved.of_below t).trans D⟩
