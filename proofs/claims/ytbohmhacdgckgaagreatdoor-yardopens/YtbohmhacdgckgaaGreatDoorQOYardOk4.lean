/- What is always so of a yard, kept by files that are made, by jobs that begin, go on and end. -/
import Derived.Test.YtbohmhacdgckgaaGreatDoorQORyMem2
set_option linter.all false
set_option maxHeartbeats 4000000
set_option maxRecDepth 100000
namespace Go.Proofs.YtbohmhacdgckgaaGreatDoor
open Go.RowKit renaming Below->β
open Go renaming World->ω, Value->υ, Calls->κ
open Option renaming none->O, some->S
open Go.RowKit Go.Maps
attribute [local go_sem ↓] Go.wp_at_zero Go.wp_at_succ
def YOk.jobs{y:YV}{C m:Nat}(h:YOk y C m){j:Option JV}
  (b:∀ a,j=S a->a.stage<4->JIn y.s C y.l y.kd a) (c:∀ a,j=S a->S4.jw a.n a.x/\a.n<=40/\(a.stage=1\/a.stage=2\/a.stage=4\/a.stage=5)):YOk {y with j:=j} C m :=
 ⟨h.s,h.dv,h.top,h.aA,h.ch,b,c⟩
def JOk.su{s:SV}{C:Nat}{j:JV}(h:JOk s C j):S4.jw j.n j.x/\j.n<=40/\(j.stage=1\/j.stage=2\/j.stage=4\/j.stage=5):=⟨h.set,by have:=h.n;have:=h.c40;omega,h.stage⟩
def lU{y:YV}(h:y.busy=true):∃ j,y.j=S j/\j.stage<4:=by
 unfold YV.busy at h;split at h
 .cases h
 .simp_all
def lT{y:YV}(h:y.busy≠true):∀ j,y.j=S j->4<=j.stage:=by
 intro j a;unfold YV.busy at h
 simp_all
def YOk.turn{y:YV}{C m:Nat}(h:YOk y C m){j a:JV}(i:y.j=S j)(n:j.stage<4)(f:JOk y.s C j->JOk y.s C a)(k:a.l=j.l)(g:jD a=jD j):YOk {y with j:=S a} C m:=by
 have c:=h.job j i n;refine h.jobs (λb d _=>?_) (λb d=>?_)
 .cases d
  exact c.as (λl=>.refl l _) (f c.ok) k g
 .cases d
  exact(f c.ok).su
def xZ(j:JV)(a:Bool):(l9 j a).l=j.l/\jD (l9 j a)=jD j:=by
 unfold l9;split
 .split<;>exact⟨rfl,rfl⟩
 .split<;>exact⟨rfl,rfl⟩
def Cm(j:JV)(n:Int):(jQ j n).l=j.l/\jD (jQ j n)=jD j:=by
 unfold jQ;by_cases h:S4.inB n 100000=true
 .rw[if_pos h];exact⟨rfl,rfl⟩
 .simp_all
def uw(s:SV)(j:JV):(stepJ s j).l=j.l/\jD (stepJ s j)=jD j:=by
 have a:∀ c,(j.went c).l=j.l/\jD (j.went c)=jD j:=λ_=>⟨rfl,rfl⟩
 have b:j.fell.l=j.l/\jD j.fell=jD j:=⟨rfl,rfl⟩;unfold stepJ;by_cases h:j.stage=1/\j.some=true/\S4.inB 4 j.lv=true
 .rw[if_pos h]
  by_cases g:j.iL s j.pick=true/\(j.moved s j.pick).2≠0
  .simp_all
  .rw[if_neg g];exact a _
 .rw[if_neg h];simp_all
def Ic(s:SV)(j:JV):(eG s j).l=j.l/\jD (eG s j)=jD j:=by
 unfold eG;split<;>exact⟨rfl,rfl⟩
theorem YOk.pause{y:YV}{C m:Nat}(h:YOk y C m)(a:Bool):YOk (y.pause a) C m:=by
 unfold YV.pause;split
 .next c =>
  obtain⟨j,b,d⟩:=lU c;rw[b];exact h.turn b d (λk=>k.pause a) (xZ j a).1 (xZ j a).2
 .exact h
theorem YOk.tick{y:YV}{C m:Nat}(h:YOk y C m)(n:Int):YOk (y.tick n) C m:=by
 unfold YV.tick;split
 .next b =>
  obtain⟨j,a,c⟩:=lU b;rw[a];exact h.turn a c (λk=>k.tick n) (Cm j n).1 (Cm j n).2
 .exact h
theorem YOk.arm{y:YV}{C m:Nat}(h:YOk y C m)(f n:Int)(r:n<=9223372036854775807):YOk (y.arm f n) C m:=by
 have c:∀ {d:DV} {k:Nat},d.fine k m->0<=n->(d.failing n).fine k m:=λa q=>⟨a.ok.failing (by omega) (by omega),zX a.sn _,a.len,a.wr⟩
 unfold YV.arm;split
 .next b =>
  split
  .exact⟨h.s,h.dv,c h.top b.2.2,h.aA,h.ch,h.job,h.set⟩
  .next o =>
   split
   .refine⟨h.s,λi=>?_,h.top,h.aA,h.ch,h.job,h.set⟩
    show(if i=f.toNat then (y.dv i).failing n else y.dv i).fine (if i=f.toNat then (y.dv i).failing n else y.dv i).fl.length m
    split
    .exact c (h.dv i) b.2.2
    .exact h.dv i
   .next v g =>
    have j:y.s.file f=S v:=by
     unfold SV.file;rw[if_pos ⟨by omega,b.2.1⟩];exact g
    exact h.files (h.s.upd (ja1 _) ((h.s _ _ g).dev (c (h.s _ _ g).d b.2.2) (ja1 _))) (λl=>.upd j rfl) (ja1 _)
 .exact h
def KW{d:DV}{m:Nat}{h:HV}(hd:d.fine d.fl.length m)(f:m+20<1000000000):(iQ d h).fine (iQ d h).fl.length (m+15):=by
 unfold iQ;split
 .next a =>
  split
  .exact(zM hd a.1 a.2 f).d
  .have g:ay h.c.toNat<=5:=by have:=HV.dK a.1;unfold ay;omega
   have b:=(wR hd a.1 a.2 (by omega) _ (ja1 _)).more (show m+ay _<=m+15 by omega)
   unfold crD;rw[b.len];exact b
 .exact hd.more (by omega)
def KT{d:DV}{h:HV}(a:crF d h=0):h.ok=true/\aQ h<=d.fl.length:=by
 unfold crF at a;split at a
 .next b =>
  split at a
  .cases a
  .simp_all
 .cases a
def wV(d:DV)(h:HV):(crV d h).h=h:=by
 unfold crV IV.jZ;split<;>rfl
def IQ{y:YV}{f:Int}(h:y.used f≠true):f ∉ y.l/\(y.busy=true->y.kd.file≠f):=by
 have h:¬(y.busy&&decide _||y.l.contains f)=true:=h
 simp_all
theorem YOk.blank{y:YV}{C m:Nat}(h:YOk y C m)(f back:Int)(g:m+20<1000000000):YOk (y.blank f back) C (m+15):=by
 unfold YV.blank;split
 .next a =>
  split
  .exact h.more (by omega)
  .next q =>
   obtain⟨n,r⟩:=IQ q;have hd:=h.dev f.toNat
   have apart:∀ j,y.j=S j->j.stage<4->f ∉ [y.kd.file]:=λj c b g=>by
    rw[jaK] at g;exact r (by unfold YV.busy;simp_all) g.symm
   split
   .next u =>
    obtain⟨o,t⟩:=KT u;have d:bT y.l y.s (y.s.upd _ (crV (y.dev f.toNat) (y.head f back))):=.set a.1 a.2 n _;refine⟨h.s.upd (by omega) (zM hd o t g),λi=>(h.dv i).more (by omega),h.top.more (by omega),h.aA,h.ch.over d,λj c b=>?_,h.set⟩
    exact(h.job j c b).other d (.set a.1 a.2 (apart j c b) _)
   .have d:bT y.l y.s _:=.gone a.1 a.2 n
    refine⟨λi v e=>?_,λi=>?_,h.top.more (by omega),h.aA,h.ch.over d,λj c b=>?_,h.set⟩
    .have k:(y.s.gone _) i=S v:=e
     unfold SV.gone at k;split at k
     .cases k
     .exact(h.s i v k).more (by omega)
    .show(if i=f.toNat then iQ _ _ else y.dv i).fine (if i=f.toNat then iQ _ _ else y.dv i).fl.length _
     split
     .exact KW hd g
     .exact(h.dv i).more (by omega)
    .exact(h.job j c b).other d (.gone a.1 a.2 (apart j c b))
 .exact h.more (by omega)
def Dj(y:YV)(f back:Int):(y.blank f back).j=y.j/\(y.blank f back).kd=y.kd/\(y.blank f back).l=y.l/\(y.blank f back).top=y.top:=by
 unfold YV.blank;split
 .split
  .simp_all
  .split<;>exact⟨rfl,rfl,rfl,rfl⟩
 .simp_all
def zC{y:YV}{f back:Int}(h:y.eX f back=0):0<=f/\f<5/\y.used f≠true/\crF (y.dev f.toNat) (y.head f back)=0/\y.blank f back={y with s:=y.s.upd f.toNat (crV (y.dev f.toNat) (y.head f back))}:=by
 unfold YV.eX at h;unfold YV.blank;split at h
 .next a =>
  split at h
  .cases h
  .simp_all
 .cases h
def MK:∀(n:Nat) (l:List Int),l.Nodup->(∀ x∈l,0<=x/\x<(n:Int))->l.length<=n:=by
 intro n
 induction n with
 | zero =>
  intro l _ h
  cases l with
  | nil=>simp_all
  | cons x r=>have:=h x jaf;omega
 | succ n b =>
  intro l hd h;by_cases c:(n:Int)∈l
  .have d:=b (l.erase (n:Int)) (hd.erase _) (λx a=>by
    rw[hd.mem_erase_iff] at a;have:=h x a.2
    omega)
   simp_all
  .have:=b l hd (λx a=>by
    have d:=h x a;have:x≠(n:Int):=λe=>c (e▸a)
    omega)
   omega
def Chain.few{s:SV}{C root f:Int}{l:List Int}(h:Chain s C root l)(g:0<=f)(d:f<5)(a:f ∉ l):l.length<=4:=by
 have:=MK 5 _ (List.nodup_cons.2 ⟨a,h.nodup⟩) (λx c=>by
  rcases List.mem_cons.1 c with e|e
  .omega
  .obtain⟨v,b,_⟩:=h.good x e
   have:=SV.dS b
   omega)
 simp_all
theorem YOk.snap{y:YV}{C m:Nat}(h:YOk y C m)(f:Int)(v:m+20<1000000000):YOk (y.snap f) C (m+16):=by
 unfold YV.snap;split
 .exact h.more (by omega)
 .next u =>
  rw[not_or] at u;split
  .next z =>
   have a:=h.blank f y.kd.root v;obtain⟨A,I,J,H⟩:=Dj y f _;obtain⟨k,x,D,L,F⟩:=zC z;obtain⟨q,_⟩:=IQ D;obtain⟨c,t,w,g⟩:=ny _ _;have r:=λB=>qV a.top (aj f) B
   have G:Chain (y.blank f y.kd.root).s C f (f::y.l):=by
    rw[F];exact h.ch.push (h.ch.few k x q) k x q (by rw[wV];exact h.ch.gZ) (by rw[wV];rfl)
   split
   .next n =>
    have b:=vX  (d:=aj f) n;refine⟨by rw[c];exact a.s.more (by omega),?_,r (by omega),?_,?_,λj E K=>?_,?_⟩
    .rw[t];exact λi=>(a.dv i).more (by omega)
    .rw[b];exact kX k (by omega)
    .rw[c,b];exact G
    .have o  := E
     rw[g,A] at o;exact absurd ((lT u.1) j o) (by omega)
    .rw[g];exact a.set
   .next n =>
    have b:=vW  (d:=aj f) n;refine⟨by rw[c];exact a.s.more (by omega),by rw[t];exact λi=>(a.dv i).more (by omega),r (by omega),by rw[b];exact a.aA,by rw[c,w,b];exact a.ch,by rw[g,c,w,b];exact a.job,by rw[g];exact a.set⟩
  .exact(h.blank f _ v).more (by omega)
def Xf{c C m:Nat}{Z:Zh}{y:YV}(n:Int)(w:ω)(h:aC w c Z y)(x:YOk y C m) :
  κ Tryz.prog 60 #[c,n] w λe f=>e=.returned (YV.uy n)/\aF c Z y (y.tick n) w f:=by
 have k:=ah (qW w h);have i:Hid (aF c Z y y w w):=aF.below h (ja0 _ _);obtain⟨_,_,_,_,_,_,_,_,_,q,_⟩:=h.blk.cells;unfold YV.uy
 cases b:S4.inB n 100000 with
 | false =>
  have F:y.tick n=y:=by
   unfold YV.tick;split
   .cases a:y.j with
    | none =>
     show({y with j:=none}:YV)=y
     rw[<- a]
    | some j =>
     show({y with j:=S (jQ j n)}:YV)=y
     rw[show jQ j n=j by unfold jQ;rw[if_neg (by rw[b];decide)],<- a]
   .rfl
  rw[F,if_neg (by decide)]
  have J:n<0\/100000<n:=by unfold S4.inB at b;simp at b;omega
  by_cases O:n<0
  .go_enter Tryz.func60,Tryz.ntmps60
   go_wp2
   go_ret
   exact⟨rfl,i.out⟩
  .go_enter Tryz.func60,Tryz.ntmps60
   go_wp2
   go_ret
   exact⟨rfl,i.out⟩
 | true =>
  have J:0<=n/\n<=100000:=by unfold S4.inB at b;simp at b;omega
  rw[if_pos rfl];by_cases d:y.busy=true
  .obtain⟨j,a,D⟩:=lU d
   rw[d] at k;have s:=(x.job j a D).ok;have o:=s.lv;have l:y.tick n={y with j:=S (jQ j n)}:=by unfold YV.tick;rw[if_pos d,a];rfl
   have g:({j with lv:=S4.fQ j.rate j.burst j.lv ((n.toNat:Nat):Int)}:JV)=jQ j n:=by unfold jQ;rw[b,if_pos rfl,show((n.toNat:Nat):Int)=n by omega]
   rw[a] at q;have Q:w.cell? ⟨c,13,none⟩=S (Z.jb.xp:υ):=q;obtain⟨P,u,z⟩:=(h.job j a).1.bkt
   have t:Hid (κ Tryz.prog 135 #[.pointer (S ⟨Z.jb.xp,75,none⟩),n] w λe f=>(∃ v,e=.returned v)/\aF c Z y (y.tick n) w f):=by
    have:=S4.QH n.toNat w u (by omega) s.rate ⟨o.1,o.2.1⟩ o.2.2
    rw[show((n.toNat:Nat):Int)=n by omega] at this
    refine this.mono ?_;rintro e f ⟨L,E,A⟩;refine⟨L,?_⟩;have r:=bK.ofB E z;rw[show n=((n.toNat:Nat):Int) by omega,g] at r
    have I:(jQ j n).state=j.state:=by rw[<- g];rfl
    rw[<- I] at r;obtain⟨H,B⟩:=h.ER a (Kept.of4 A) r (by rw[<- g])
    rw[l];exact⟨Z,.refl Z,H,B⟩
   generalize y.tick n=y' at t |-;clear h x i q u z s o l g b;go_enter Tryz.func60,Tryz.ntmps60
   go_wp2_with fail
   refine cSt k.out ?_;go_wp2_with fail
   refine t.out.mono ?_;rintro e N ⟨⟨v,rfl⟩,G⟩;have M:=ah G;go_wp2
   go_ret
   exact⟨rfl,M.out⟩
  .have K:y.busy=false:=by simpa using d
   rw[K] at k;have l:y.tick n=y:=by unfold YV.tick;rw[if_neg d]
   rw[l];go_enter Tryz.func60,Tryz.ntmps60
   go_wp2_with fail
   refine cSt k.out ?_;go_wp2
   go_ret
   exact⟨rfl,i.out⟩
def bZ.nG{B:Gd}{w:ω}{h:Rh}{d:DV}(hd:bZ B w h d):bZ (Gd.but w h.fp) w h d:=⟨hd.todA,λ_ a b=>b.2 a⟩
def bZ.noG{B:Gd}{w:ω}{h:Rh}{d:DV}(hd:bZ B w h d):bZ Gd.no w h d:=⟨hd.todA,λ_ _ a=>a⟩
def bZ.moved{w a:ω}{h b:Rh}{d:DV}{T:Nat->Prop}(hd:bZ (Gd.but w h.fp) a b d)(c:Kept T w a)(f:∀ k,T k->¬(Gd.but w h.fp).g k):Moved h.fp w b.fp a:=nH c f hd.out
def Xh{d m:Nat}{Z:Zh}{y:YV}(s:ByteArray)(w:ω)(h:aC w d Z y)(b:y.top.fine y.top.fl.length m)(n:m<1000000000)(l:s.size=16) :
  κ Tryz.prog 109 #[Z.tp.p,(0:Int),s] w λe c=>e=.returned y.top.aU/\aF d Z y {y with top:=y.top.put 0 s.data.toList} w c:=by
 refine(um 0 s w h.top.nG b n (ja1 _) l (by have:=b.ok.n1;omega)).mono ?_
 rintro e c ⟨r,rfl,a,f,g,_⟩;obtain⟨i,q⟩:=h.pK f.noG a (f.moved g λk o j=>j.2 o)
 exact⟨rfl,{Z with tp:=r},⟨rfl,rfl,rfl,rfl,a⟩,i,q⟩
def Xg{c m:Nat}{Z:Zh}{y:YV}(w:ω)(h:aC w c Z y)(a:y.top.fine y.top.fl.length m) :
  κ Tryz.prog 110 #[Z.tp.p] w λe b=>e=.returned (.tuple #[])/\aF c Z y {y with top:=y.top.flushed} w b:=by
 refine(yw w h.top.todA a.ok a.sn).mono ?_;rintro e b ⟨rfl,j,g⟩;have d  := h.top.nG.nilled j;obtain⟨i,l⟩:=h.pK d.noG rfl (d.moved g λk f n=>n.2 f)
 exact⟨rfl,{Z with tp:={Z.tp with v1:=.slice _ 0 0,v2:=.slice _ 0 0}},⟨rfl,rfl,rfl,rfl,rfl⟩,i,l⟩
def Tc{w c:ω}{sp m':Nat}{a qs:Nat->Qh}{z s:SV}(f:bG c sp a z m')(k:c.heap[sp]?=w.heap[sp]?)(h:w.heap[sp]?=S (.cells #[bU (qs 0) (s 0),bU (qs 1) (s 1),bU (qs 2) (s 2),bU (qs 3) (s 3),bU (qs 4) (s 4)] 87 (0,0))):∀ i,i<5->(z i=O↔s i=O):=by
 have l:=f.blk
 have j:∀ i,bU (qs i) (s i)=bU (a i) (z i)->(z i=O↔s i=O):=λi e=>by
  cases d:z i with
  | none =>
   cases b:s i with
   | none=>simp_all
   | some v=>rw[d,b] at e;cases e
  | some u =>
   cases b:s i with
   | none=>rw[d,b] at e;cases e
   | some v=>simp_all
 have m:(#[bU (qs 0) (s 0),bU (qs 1) (s 1),bU (qs 2) (s 2),bU (qs 3) (s 3),bU (qs 4) (s 4)]:Array _) = #[bU (a 0) (z 0),bU (a 1) (z 1),bU (a 2) (z 2),bU (a 3) (z 3),bU (a 4) (z 4)]:=by
  simp_all
 intro i g
 match i,g with
 | 0,_=>simp_all
 | 1,_=>simp_all
 | 2,_=>simp_all
 | 3,_=>simp_all
 | 4,_=>simp_all
def aC.kL{S U:Nat->Prop}{w J:ω}{F m':Nat}{Z:Zh}{y:YV}{qs':Nat->Qh}{z:SV}{j':Option JV}(h:aC w F Z y)(P:bG J Z.sp qs' z m')(K:Moved S w U J)
  (ac:∀ i,i<5->y.s i≠none->z i≠none/\(qs' i).d.p=(Z.qs i).d.p)
  (hS:∀ k,S k->fpQ Z.qs y.s k\/Z.jb.fp y.j k) (aa:∀ k,fpQ qs' z k\/Z.jb.fp y.j k->U k\/k<w.heap.size/\(fpQ Z.qs y.s k\/Z.jb.fp y.j k)) (T:j'=none↔y.j=none)
  (hj:∀ a,j'=some a->∃ j,y.j=some j/\a.l=j.l/\bK J Z.jb.xp Z.sp Z.jb.a Z.jb.cap a a.state) :
  aC J F {Z with qs:=qs'} {y with s:=z,j:=j'}/\Moved (fpZ F Z y) w (fpZ F {Z with qs:=qs'} {y with s:=z,j:=j'}) J:=by
 obtain⟨_,n1,n2,n3⟩:=h.kH;obtain⟨m1,m2,m3⟩:=h.oN
 have L:∀ k,S k->(∃ i,i<5/\Z.fpF y.s i k/\y.s i≠none)\/Z.jb.fp y.j k:=λk f=>by
  rcases hS k f with⟨i,m,A,n⟩|f
  .cases q:y.s i with
   | none=>exact absurd q A
   | some v=>exact .inl ⟨i,m,by rw[Zh.dX q];exact n,(by rw[q];intro e;cases e)⟩
  .exact .inr f
 have a8:¬S F:=λe=>by
  rcases L F e with⟨i,m,n,_⟩|f
  .exact n1 i m n
  .exact n3 f
 have a3:¬S Z.sp:=λe=>by
  rcases L _ e with⟨i,m,n,_⟩|f
  .exact m1 i m n
  .exact m3 f
 have ad:=K.block h.blk.lt a8;have O:=Tc P (K.block (lt_of_some h.shf) a3) h.shf
 have a5:∀ i,i<5->({Z with qs:=qs'}:Zh).dp z i=Z.dp y.s i:=λi m=>by
  cases x:z i with
  | none=>rw[Zh.dp_none x,Zh.dp_none ((O i m).1 x)]
  | some u =>
   cases q:y.s i with
   | none=>rw[(O i m).2 q] at x;cases x
   | some v=>rw[Zh.kY x,Zh.kY q];exact(ac i m (by rw[q];intro e;cases e)).2
 have a0:∀ i,i<5->y.s i=none->∀ k,(Z.ds i).fp k->¬S k:=λi m q k f e=>by
  have C:Z.fpF y.s i k:=by rw[Zh.dH q];exact f
  rcases L k e with⟨D,B,n,A⟩|n
  .exact h.apart i D m B (λe=>A (by rw[<- e];exact q)) k C n
  .exact(h.kC n).1 i m C
 have a2:∀ k,Z.tp.fp k->¬S k:=λk f e=>by
  rcases L k e with⟨D,B,n,_⟩|n
  .exact h.apTop D B k f n
  .exact(h.kC n).2 f
 have X:∀ k,fpQ qs' z k\/Z.jb.fp y.j k->(fpQ Z.qs y.s k\/Z.jb.fp y.j k)\/w.heap.size<=k:=λk f=>by
  rcases aa k f with r|r
  .rcases K.new k r with I|I
   .exact .inl (hS k I)
   .exact .inr I
  .exact .inl r.2
 have M:∀ i k,i<5->({Z with qs:=qs'}:Zh).fpF z i k->(y.s i=none/\(Z.ds i).fp k)\/(z i≠none/\fpQ qs' z k/\(qs' i).fp k):=λi k m f=>by
  cases x:z i with
  | none=>rw[Zh.dH x] at f;exact .inl ⟨(O i m).1 x,f⟩
  | some u=>rw[Zh.dX x] at f;exact .inr ⟨(by intro e;cases e),⟨i,m,(by rw[x];intro e;cases e),f⟩,f⟩
 have R:∀ k,k<w.heap.size->fpQ qs' z k->(∃ i,i<5/\Z.fpF y.s i k/\y.s i≠none)\/Z.jb.fp y.j k:=λk N f=>by
  rcases X k (.inl f) with r|r
  .rcases r with⟨i,m,A,n⟩|r
   .cases q:y.s i with
    | none=>exact absurd q A
    | some v=>exact .inl ⟨i,m,by rw[Zh.dX q];exact n,(by rw[q];intro e;cases e)⟩
   .exact .inr r
  .omega
 have H:Moved (fpZ F Z y) w (fpZ F {Z with qs:=qs'} {y with s:=z,j:=j'}) J:=by
  refine⟨K.kept.mono λk _ f=>?_,λk f=>?_⟩
  .rcases L k f with⟨i,m,n,_⟩|n
   .exact .inr (.inr (.inl ⟨i,m,n⟩))
   .exact .inr (.inr (.inr (.inr n)))
  .rcases f with rfl|rfl|⟨i,m,n⟩|n|⟨a7,E⟩
   .exact .inl (.inl rfl)
   .exact .inl (.inr (.inl rfl))
   .rcases M i k m n with⟨q,f⟩|⟨_,f,_⟩
    .exact .inl (.inr (.inr (.inl ⟨i,m,by rw[Zh.dH q];exact f⟩)))
    .rcases X k (.inl f) with r|r
     .rcases r with r|r
      .exact .inl (.inr (.inr (.inl (h.inS r))))
      .exact .inl (.inr (.inr (.inr (.inr r))))
     .exact .inr r
   .exact .inl (.inr (.inr (.inr (.inl n))))
   .exact .inl (.inr (.inr (.inr (.inr ⟨λe=>a7 (T.2 e),E⟩))))
 obtain⟨c,h1,h2,h3,h4,h5⟩:=h.blk.is;refine⟨⟨⟨c,by rw[ad];exact h1,λi m=>by rw[a5 i m];exact h2 i m,h3,h4,?_⟩,P.blk,P.img,λi m x=>?_,?_,λi j m E V k f t=>?_,λi m k f t=>?_,⟨h.list.1.moved H h.list.2.2,λg o e=>ja9 (h.list.2.1 g o e) H.size,h.list.2.2.AU h.list.2.1 H⟩,λa ha=>?_⟩,H⟩
 .have ej:qY Z.jb j'=qY Z.jb y.j:=by
   cases e:j' with
   | none=>rw[T.1 e]
   | some a =>
    cases Q:y.j with
    | none=>rw[T.2 Q] at e;cases e
    | some b=>rfl
  rw[show qY ({Z with qs:=qs'}:Zh).jb ({y with s:=z,j:=j'}:YV).j=qY Z.jb y.j from ej]
  exact h5
 .have q:=(O i m).1 x
  have hd:=h.dev i m q;exact hd.keep λk f=>K.block (hd.lt k f).2 (a0 i m q k f)
 .exact h.top.keep λk f=>K.block (h.top.lt k f).2 (a2 k f)
 .rcases M i k m f with⟨q,f⟩|⟨A,f,a6⟩
  .have N:=((h.dev i m q).lt k f).2
   have C:Z.fpF y.s i k:=by rw[Zh.dH q];exact f
   rcases M j k E t with⟨G,t⟩|⟨_,t,_⟩
   .exact h.apart i j m E V k C (by rw[Zh.dH G];exact t)
   .rcases R k N t with⟨D,B,n,A⟩|n
    .exact h.apart i D m B (λe=>A (by rw[<- e];exact q)) k C n
    .exact(h.kC n).1 i m C
  .rcases M j k E t with⟨G,t⟩|⟨ab,_,a1⟩
   .have N:=((h.dev j E G).lt k t).2
    have C:Z.fpF y.s j k:=by rw[Zh.dH G];exact t
    rcases R k N f with⟨D,B,n,a4⟩|n
    .exact h.apart j D E B (λe=>a4 (by rw[<- e];exact G)) k C n
    .exact(h.kC n).1 j E C
   .exact P.apart i j m E V A ab k a6 a1
 .rcases M i k m t with⟨G,t⟩|⟨_,t,_⟩
  .exact h.apTop i m k f (by rw[Zh.dH G];exact t)
  .rcases R k (h.top.lt k f).2 t with⟨D,B,n,_⟩|n
   .exact h.apTop D B k f n
   .exact(h.kC n).2 f
 .obtain⟨j,e1,Q,e3⟩:=hj a ha
  obtain⟨r,I,Y,a9,W⟩:=h.job j e1;rw[Q];exact⟨e3,I.moved H W,Y,a9,W.moved I Y H⟩
def aC.vO{w g d:ω}{l m':Nat}{Z:Zh}{y:YV}{z:SV}{qs':Nat->Qh}(h:aC w l Z y)(m:β w w g)(u:bG d Z.sp qs' z m')(f:jr Z.qs y.s g qs' z d):aF l Z y {y with s:=z} w d:=by
 have c:=h.below m
 obtain⟨r,t⟩:=c.kL  u f.toMoved f.dp (λk b=>.inl b) (λk b=>by
  rcases b with b|b
  .exact .inl b
  .exact .inr ⟨c.fF (.inr (.inr (.inr (.inr b)))),.inr b⟩) Iff.rfl (λa n=>⟨a,n,rfl,by
  obtain⟨o,_⟩:=c.job a n;have x:y.j≠none:=by simp_all
  exact o.keep (f.block o.lt λe=>by
   obtain⟨i,v,q⟩:=c.inS e
   exact(c.kC ⟨x,rfl⟩).1 i v q)⟩)
 exact⟨{Z with qs:=qs'},⟨rfl,rfl,rfl,rfl,rfl⟩,r,(Moved.of_below m).trans t⟩
def aC.yt{w a b:ω}{c m':Nat}{Z:Zh}{y:YV}{R:SV × Int}{e:Ending}(h:aC w c Z y)(i:β w w a)(hd:bH a Z.sp Z.qs y.s m' R e b) :
  e=.returned (yA R.2)/\aF c Z y {y with s:=R.1} w b:=by
 obtain⟨j,f,d,g⟩:=hd;exact⟨f,h.vO i d g⟩
def aC.wX{w f g:ω}{n m C:Nat}{Z:Zh}{y:YV}{z:SV}{j a:JV}(h:aC w n Z y)(u:y.j=S j)(d:β w w f)(hd:dP Z.sp Z.jb.xp Z.jb.a Z.jb.cap Z.qs y.s z m C a f g)(q:a.l=j.l):aF n Z y {y with s:=z,j:=S a} w g:=by
 obtain⟨qs',o,i⟩:=hd;have t:y.j≠none:=by simp_all
 obtain⟨r,v⟩:=(h.below d).kL (j':=S a) o.shelf i.toMoved i.dp (λk c=>by
  rcases c with c|c
  .exact .inl c
  .exact .inr ⟨t,c⟩) (λk c=>by
  rcases c with c|c
  .exact .inl (.inl c)
  .exact .inl (.inr c.2)) (by simp_all) (λb d=>by
  cases d
  exact⟨j,u,q,o.job⟩)
 exact⟨{Z with qs:=qs'},⟨rfl,rfl,rfl,rfl,rfl⟩,r,(Moved.of_below d).trans v⟩
def aC.own{w A:ω}{m:Nat}{Z Z':Zh}{y y':YV}(h:aC w m Z y)(b:Kept (λk=>k=m) w A)(I:jJ A m Z' y'.s y'.kd y'.l.length (qY Z'.jb y'.j))
  (M:Z'.ds=Z.ds/\Z'.tp=Z.tp/\Z'.qs=Z.qs/\Z'.sp=Z.sp) (N:y'.dv=y.dv/\y'.top=y.top/\y'.s=y.s) (n:Nums w Z'.la y'.l/\(∀ g o,Z'.la=some ⟨g,o,none⟩->g<w.heap.size)/\Apart Z'.la (fpZ m Z' y'))
  (O:∀ j,y'.j=some j->bK w Z'.jb.xp Z'.sp Z'.jb.a Z'.jb.cap j j.state/\Nums w Z'.jb.a j.l/\j.l≠[]/\j.l.length<=Z'.jb.cap/\Apart Z'.jb.a (fpZ m Z' y')):aC A m Z' y':=by
 obtain⟨H,P,Q,_⟩:=h.kH;obtain⟨C,B,z,K⟩:=M;obtain⟨y1,S,q⟩:=N;have t:∀ i k,Z'.fpF y'.s i k=Z.fpF y.s i k:=λi k=>by unfold Zh.fpF;rw[q,C,z]
 have E:=λi (d:i<5) k (r:Z.fpF y.s i k)=>b.block k (h.kZ d r) (λe=>P i d (by simp_all))
 obtain⟨c,U,_⟩:=h.blk.is;refine⟨I,?_,λi v d f=>?_,λi d f=>?_,?_,λi j d R J k=>?_,λi d k b=>?_,⟨n.1.keep λg o e=>b.block g (n.2.1 g o e) λx=>n.2.2 g o e (.inl x),λg o e=>ja9 (n.2.1 g o e) b.size,n.2.2⟩,λj e=>?_⟩
 .rw[K,z,q,b.block _ (lt_of_some h.shf) (λe=>H e.symm)];exact h.shf
 .rw[q] at f;rw[z]
  exact(h.img i v d f).jm λk b=>E i d k (by rw[Zh.dX f];exact b)
 .rw[q] at f;rw[C,y1]
  exact(h.dev i d f).keep λk b=>E i d k (by rw[Zh.dH f];exact b)
 .rw[B,S]
  exact h.top.keep λk r=>b.block k (h.top.lt k r).2 (λe=>Q (by simp_all))
 .rw[t,t];exact h.apart i j d R J k
 .rw[B] at b;rw[t];exact h.apTop i d k b
 .obtain⟨u,F,G,L,D⟩:=O j e
  obtain⟨V,T,_⟩:=u.blk;exact⟨u.keep (b.block _ u.lt λe=>by simp_all),F.keep λg o e=>b.block g (F.lt G e) λx=>D g o e (.inl x),G,L,D⟩
def kdV(d:aP):List Value:=[.int .i64 d.root,.int .i64 d.kind,.int .i64 d.file,.int .i64 d.rate,.int .i64 d.burst]
theorem jJ.size{w:ω}{b n:Nat}{Z:Zh}{s:SV}{d:aP}{a:υ}{c:Array υ}(f:jJ w b Z s d n a)(e:c[13]?=S a):13<c.size:=by
 rcases jat 13 _ with h|h
 .exact h
 .simp_all
def jJ.qN{w:ω}{a n:Nat}{Z:Zh}{s:SV}{d:aP}{b:υ}(h:jJ w a Z s d n b)(k:aP):jJ (w.setCells a 7 (kdV k)) a Z s k n b:=by
 obtain⟨c,j,f,q,v,y,r,x,m,t,u,l⟩:=h.is;have o:=h.size l;refine⟨_,heap_setCell_same _ a 11 _ _ _ (heap_setCell_same _ a 10 _ _ _ (heap_setCell_same _ a 9 _ _ _ (heap_setCell_same _ a 8 _ _ _ (heap_setCell_same w a 7 _ _ _ j)))),λi g=>?_,?_,?_,?_,?_,?_,?_,?_,?_,?_⟩
 .rw[ja3 (by omega),ja3 (by omega),ja3 (by omega),ja3 (by omega),ja3 (by omega)];exact f i g
 all_goals (first
  | (rw[jaa (by first|omega|(simp;omega))])
  | (rw[ja3 (by omega),jaa (by first|omega|(simp;omega))])
  | (rw[ja3 (by omega),ja3 (by omega),jaa (by first|omega|(simp;omega))])
  | (rw[ja3 (by omega),ja3 (by omega),ja3 (by omega),jaa (by first|omega|(simp;omega))])
  | (rw[ja3 (by omega),ja3 (by omega),ja3 (by omega),ja3 (by omega),jaa (by first|omega|(simp;omega))])
  | (rw[ja3 (by omega),ja3 (by omega),ja3 (by omega),ja3 (by omega),ja3 (by omega)];assumption))
def jJ.sD{w:ω}{a n m:Nat}{Z:Zh}{s:SV}{d:aP}{f:υ}(h:jJ w a Z s d n f)(b:Option Addr)(lc:Nat):jJ (w.setCell ⟨a,12,O⟩ (.slice b m lc)) a {Z with la:=b,lc:=lc} s d m f:=by
 obtain⟨c,k,g,r,x,z,t,y,o,u,v,l⟩:=h.is;have q:=h.size l;refine⟨_,heap_setCell_same w a 12 _ _ _ k,λi j=>?_,?_,?_,?_,?_,?_,?_,?_,?_,?_⟩
 .rw[ja3 (by omega)];exact g i j
 all_goals (first|(rw[jaa (by omega)])|(rw[ja3 (by omega)];assumption))
def jJ.vM{w:ω}{a n:Nat}{Z:Zh}{s:SV}{d:aP}{k:υ}(h:jJ w a Z s d n k)(b:Zj)(v:υ):jJ (w.setCell ⟨a,13,O⟩ v) a {Z with jb:=b} s d n v:=by
 obtain⟨c,j,f,q,x,z,r,y,m,t,u,l⟩:=h.is;have o:=h.size l;refine⟨_,heap_setCell_same w a 13 _ _ _ j,λi g=>?_,?_,?_,?_,?_,?_,?_,?_,?_,?_⟩
 .rw[ja3 (by omega)];exact f i g
 all_goals (first|(rw[jaa (by omega)])|(rw[ja3 (by omega)];assumption))
theorem aC.qN{w:ω}{a:Nat}{Z:Zh}{y:YV}(h:aC w a Z y)(d:aP):aC (w.setCells a 7 (kdV d)) a Z {y with kd:=d}/\Moved (fpZ a Z y) w (fpZ a Z {y with kd:=d}) (w.setCells a 7 (kdV d)):=by
 have b:Kept _ w (w.setCells a 7 (kdV d)):=Kept.setCells (S:=λk=>k=a) (Kept.refl _ w) (.inl rfl) _ _
 exact⟨h.own   b (h.blk.qN d) ⟨rfl,rfl,rfl,rfl⟩ ⟨rfl,rfl,rfl⟩ h.list h.job,b.mono λk _ e=>.inl e,λk b=>.inl b⟩
theorem aC.sD{w:ω}{b lc:Nat}{Z:Zh}{y:YV}{a:Option Addr}{l:List Int}(h:aC w b Z y)(d:Nums w a l)(f:l≠[])(i:Apart a (fpZ b Z y)) :
  aC (w.setCell ⟨b,12,O⟩ (.slice a l.length lc)) b {Z with la:=a,lc:=lc} {y with l:=l}/\Moved (fpZ b Z y) w (fpZ b {Z with la:=a,lc:=lc} {y with l:=l}) (w.setCell ⟨b,12,O⟩ (.slice a l.length lc)):=by
 have c:Kept _ w (w.setCell ⟨b,12,O⟩ (.slice a l.length lc)):=Kept.setCell (S:=λk=>k=b)  (Kept.refl _ w) (.inl rfl) _
 exact⟨h.own   c (h.blk.sD a lc) ⟨rfl,rfl,rfl,rfl⟩ ⟨rfl,rfl,rfl⟩ ⟨d,λg o e=>d.lt f e,i⟩ h.job,c.mono λk _ e=>.inl e,λk c=>.inl c⟩
theorem aC.vM{w:ω}{c:Nat}{Z:Zh}{y:YV}{b:Zj}{j:JV}(h:aC w c Z y)(f:bK w b.xp Z.sp b.a b.cap j j.state)(n:Nums w b.a j.l)(g:j.l≠[])(m:j.l.length<=b.cap)(i:Apart b.a (fpZ c {Z with jb:=b} {y with j:=some j}))(d:Apart Z.la (fpZ c {Z with jb:=b} {y with j:=some j})) :
  aC (w.setCell ⟨c,13,O⟩ b.xp) c {Z with jb:=b} {y with j:=some j}:=by
 exact h.own   (Kept.setCell (S:=λk=>k=c)  (Kept.refl _ w) (.inl rfl) _) (h.blk.vM b _) ⟨rfl,rfl,rfl,rfl⟩ ⟨rfl,rfl,rfl⟩ ⟨h.list.1,h.list.2.1,d⟩ λj' e=>by
  simp_all
def aC.stage{w:ω}{a:Nat}{Z:Zh}{y:YV}{j:JV}(h:aC w a Z y)(b:y.j=some j){st:Int}(c:st≠1) :
  aC (w.setCell ⟨Z.jb.xp,74,O⟩ st) a Z {y with j:=some (j.at st)}/\Moved (fpZ a Z y) w (fpZ a Z {y with j:=some (j.at st)}) (w.setCell ⟨Z.jb.xp,74,O⟩ st):=by
 refine h.ER  b (Kept.setCell (S:=λk=>k=Z.jb.xp)  (Kept.refl _ w) (.inl rfl) _) ?_ rfl
 rw[j.wC c];exact((h.job j b).1.og st).staged st
def aC.pF{w S A:ω}{x i:Nat}{Z Z':Zh}{y y':YV}(h:aC w x Z y)(t:i<5)(r:Moved (Z.fpF y.s i) w (Z'.fpF y'.s i) S)(E:Kept (λk=>k=Z.sp) S A)
  (a5:A.heap[Z.sp]?=some (.cells #[bU (Z'.qs 0) (y'.s 0),bU (Z'.qs 1) (y'.s 1),bU (Z'.qs 2) (y'.s 2),bU (Z'.qs 3) (y'.s 3),bU (Z'.qs 4) (y'.s 4)] 87 (0,0)))
  (a0:Z'.dp y'.s i=Z.dp y.s i) (a1:∀ v,y'.s i=some v->aS Gd.no A (Z'.qs i) v) (a3:y'.s i=none->bZ Gd.no A (Z'.ds i) (y'.dv i))
  (z:∀ j,j≠i->y'.s j=y.s j/\y'.dv j=y.dv j/\Z'.qs j=Z.qs j/\Z'.ds j=Z.ds j) (hz:Z'.tp=Z.tp/\Z'.jb=Z.jb/\Z'.sp=Z.sp/\Z'.la=Z.la/\Z'.lc=Z.lc) (hy:y'.top=y.top/\y'.j=y.j/\y'.kd=y.kd/\y'.l=y.l) :
  aC A x Z' y'/\Moved (fpZ x Z y) w (fpZ x Z' y') A:=by
 obtain⟨n0,n1,n2,n3⟩:=h.kH;obtain⟨m1,m2,Y⟩:=h.oN;obtain⟨t1,t2,t3,t4,t5⟩:=hz;obtain⟨u1,u2,u3,u4⟩:=hy
 have H:∀ j,j≠i->∀ k,Z'.fpF y'.s j k=Z.fpF y.s j k:=λj f k=>by
  obtain⟨u,_,D,C⟩:=z j f;unfold Zh.fpF;rw[u,D,C]
 have I:=λk (d:k<w.heap.size) (m:¬Z.fpF y.s i k) (O:k≠Z.sp)=>(E.block k (ja9 d r.size) O).trans (r.block d m)
 have B:Moved (fpZ x Z y) w (fpZ x Z' y') A:=by
  refine⟨⟨E.os.trans r.kept.os,E.tape.trans r.kept.tape,E.output.trans r.kept.output,ja4 r.size E.size,λk d z=>I k d (λe=>z (.inr (.inr (.inl ⟨i,t,e⟩)))) (λe=>z (.inr (.inl e)))⟩,λk d=>?_⟩
  rcases d with d|d|⟨j,f,d⟩|d|d
  .exact .inl (.inl d)
  .rw[t3] at d;exact .inl (.inr (.inl d))
  .by_cases e:j=i
   .rw[e] at d
    rcases r.new k d with m|m
    .exact .inl (.inr (.inr (.inl ⟨i,t,m⟩)))
    .exact .inr m
   .rw[H j e] at d;exact .inl (.inr (.inr (.inl ⟨j,f,d⟩)))
  .rw[t1] at d;exact .inl (.inr (.inr (.inr (.inl d))))
  .rw[t2,u2] at d;exact .inl (.inr (.inr (.inr (.inr d))))
 have U:=λj (f:j<5) (e:j≠i) k (d:Z.fpF y.s j k)=>I k (h.kZ f d) (λF=>h.apart j i f t e k d F) (λF=>m1 j f (by rw[<- F];exact d))
 have a2:∀ j,Z'.dp y'.s j=Z.dp y.s j:=λj=>by
  by_cases e:j=i
  .rw[e];exact a0
  .obtain⟨u,_,D,C⟩:=z j e
   unfold Zh.dp;rw[u,D,C]
 refine⟨⟨?_,by rw[t3];exact a5,λj v f n=>?_,λj f n=>?_,?_,λa b R W T k d q=>?_,λj f k d q=>?_,?_,λj f=>?_⟩,B⟩
 .obtain⟨c,m,O,h3,h4,h5,h6,L,J,N,P,M⟩:=h.blk.is
  refine⟨c,(I x h.blk.lt (n1 i t) n0).trans m,λj f=>by rw[a2];exact O j f,by rw[t1];exact h3,by rw[t3];exact h4,?_⟩
  rw[u3,u4,t4,t5,t2,u2];exact⟨h5,h6,L,J,N,P,M⟩
 .by_cases e:j=i
  .rw[e] at n |-;exact a1 v n
  .obtain⟨u,_,D,C⟩:=z j e
   rw[u] at n;rw[D];exact(h.img j v f n).jm λk d=>U j f e k (by rw[Zh.dX n];exact d)
 .by_cases e:j=i
  .rw[e] at n |-;exact a3 n
  .obtain⟨u,F,D,C⟩:=z j e
   rw[u] at n;rw[C,F];exact(h.dev j f n).keep λk d=>U j f e k (by rw[Zh.dH n];exact d)
 .rw[t1,u1]
  exact h.top.keep λk d=>I k (h.top.lt k d).2 (h.apTop i t k d) (λe=>m2 (by rw[<- e];exact d))
 .have Q:∀ j,j<5->j≠i->Z.fpF y.s j k->¬Z'.fpF y'.s i k:=λj f e V a4=>by
   rcases r.new k a4 with m|m
   .exact h.apart j i f t e k V m
   .have:=h.kZ f V;omega
  by_cases K:a=i
  .have G:b≠i:=λe=>T (by rw[K,e])
   rw[H b G] at q;rw[K] at d;exact Q b W G q d
  .rw[H a K] at d
   by_cases G:b=i
   .rw[G] at q;exact Q a R K d q
   .rw[H b G] at q;exact h.apart a b R W T k d q
 .rw[t1] at d
  by_cases e:j=i
  .rw[e] at q
   rcases r.new k q with m|m
   .exact h.apTop i t k d m
   .have:=(h.top.lt k d).2;omega
  .rw[H j e] at q;exact h.apTop j f k d q
 .rw[t4,u4]
  exact⟨h.list.1.moved B h.list.2.2,λg o e=>ja9 (h.list.2.1 g o e) B.size,h.list.2.2.AU h.list.2.1 B⟩
 .rw[u2] at f
  obtain⟨L,J,N,P,M⟩:=h.job j f;have X:y.j≠none:=by rw[f];intro e;cases e
  rw[t2,t3];exact⟨L.keep (I _ L.lt ((h.kC ⟨X,rfl⟩).1 i t) (λe=>Y ⟨X,e.symm⟩)),J.moved B M,N,P,M.moved J N B⟩
def KV.En(r k f a u:Int):KV.fault ⟨r,k,f,a,u⟩=if (inB r 0 4&&inB k 0 3&&inB f (-1) 4&&inB a 0 1000&&inB u 0 1000)=true then (if ((k==0)&&(f == -1)&&(a==0)&&(u==0) || !(k==0) && !(f==r)&&(!(f == -1)||(k==2)))=true then 0 else 2) else 1:=by
 unfold KV.fault KV.bound KV.may inB;simp only[jaS,Bool.or_eq_true,decide_eq_true_eq,beq_iff_eq,Bool.not_eq_true',beq_eq_false_iff_ne,ne_eq,and_assoc]
def KV.MI(r k f a u:Int):KV.fault ⟨r,k,f,a,u⟩=if (decide (r<0)||decide (4<r)||decide (k<0)||decide (3<k)||decide (f < -1)||decide (4<f)||decide (a<0)||decide (1000<a)||decide (u<0)||decide (1000<u))=true then 1 else if ((k==0)&&(f == -1)&&(a==0)&&(u==0) || !(k==0) && !(f==r)&&(!(f == -1)||(k==2)))=true then 0 else 2:=by
 rw[KV.En];unfold inB;generalize ((k==0)&&(f == -1)&&(a==0)&&(u==0) || !(k==0) && !(f==r)&&(!(f == -1)||(k==2)))=b
 simp only[jaS,Bool.or_eq_true,decide_eq_true_eq];split<;>split<;>first|rfl|omega
def zH(r k f a u:Int)(w:ω) :
  κ Tryz.prog 124 #[.agg #[r,k,f,a,u]] w λe b=>e=.returned (erV (KV.fault ⟨r,k,f,a,u⟩))/\β w w b:=by
 have c:=ah (KV.En r k f a u);have l:(k != 0) = !(k==0):=rfl;have o:(f != -1) = !(f == -1):=rfl;have q:(a != 0) = !(a==0):=rfl;have d:(u != 0) = !(u==0):=rfl;have g:(k != 2) = !(k==2):=rfl;cases y0:inB r 0 4;rotate_left;cases y1:inB k 0 3;rotate_left;cases s:inB f (-1) 4;rotate_left;cases i:inB a 0 1000;rotate_left;cases n:inB u 0 1000;rotate_left
 cases j:(k==0);cases c1:(f==r);cases c2:(f == -1);rotate_left;cases c3:(k==2);rotate_left 3;cases c2:(f == -1);rotate_left;cases c4:(a==0);rotate_left;cases m:(u==0)
 all_goals
  go_enter Tryz.func124,Tryz.ntmps124
  go_wp2_with (go_at_call 96;refine(lI _ _ _ _).mono ?_;rintro e b ⟨rfl,rfl⟩)
  go_ret
  exact⟨lu (by rw[c.out];simp[*];try rfl),(ja0 _ _).alloc (ja1 _) _⟩
def D5(r k f a u:Int)(w:ω) :
  κ Tryz.prog 127 #[.agg #[r,k,f,a,u]] w λe b=>e=.returned (KV.fault ⟨r,k,f,a,u⟩)/\β w w b:=by
 have c:=ah (KV.MI r k f a u);have g:(k != 2) = !(k==2):=rfl;cases y0:decide (r<0);cases y1:decide (4<r);cases t:decide (k<0);cases i:decide (3<k);cases q:decide (f < -1);cases l:decide (4<f);cases m:decide (a<0);cases d:decide (1000<a);cases j:decide (u<0);cases o:decide (1000<u)
 cases s:(k==0);cases c1:(f==r);cases c2:(f == -1);rotate_left;cases c3:(k==2);rotate_left 3;cases c2:(f == -1);rotate_left;cases c4:(a==0);rotate_left;cases n:(u==0)
 all_goals
  go_enter Tryz.func127,Tryz.ntmps127
  go_wp2
  go_ret
  exact⟨qH (by rw[c.out];simp[*]),(ja0 _ _).alloc (ja1 _) _⟩
def xY(x y:Int)(w:ω)(d:0<=x)(c:x<256)(b:0<=y)(f:y<256) :
  κ Tryz.prog 152 #[.int .u8 x,.int .u8 y] w λe a=>e=.returned (x+y*256:Int)/\a=w:=by
 go_enter Tryz.func152,Tryz.ntmps152
 go_wp2
 go_ret
 simp_all
def D8(r k f a u:Int)(w:ω)(d:KV.fault ⟨r,k,f,a,u⟩=0) :
  κ Tryz.prog 104 #[.agg #[r,k,f,a,u]] w λe i=>e=.returned (.tuple #[.string (fO [68,75,r,k,f+1,a % 256,a / 256,u % 256,u / 256]),.nilIface])/\β w w i:=by
 have g:=zH r k f a u (w.alloc (.cells #[r,k,f,a,u] 82));rw[d,aN] at g;have j:=of_decide_eq_true (KV.qC d).1;simp only at j;go_enter Tryz.func104,Tryz.ntmps104
 go_wp2_with fail
 refine cEq g λc b=>?_
 obtain⟨o,m⟩:=nU b;have q:w.heap.size<c.heap.size:=by have:=b.size;simp at this;omega
 go_wp2_with fail
 refine(Hl [68,75,r,k,f+1,a % 256,a / 256,u % 256,u / 256] _ 9 _ (by simp) ?_ (Dv c _ 5)).mono ?_
 .simp
 rintro e n ⟨rfl,l⟩;go_wp2
 go_ret2
 exact⟨rfl,((((ja0 _ _).alloc (ja1 _) _).trans (b.mono (by simp))).alloc (by omega) _).trans (l.mono (by simp;omega))⟩
def Ll(r k f a u:Int)(w:ω)(d:KV.fault ⟨r,k,f,a,u⟩≠0) :
  κ Tryz.prog 104 #[.agg #[r,k,f,a,u]] w λe g=>e=.returned (.tuple #[.string ⟨#[]⟩,.iface 96 (.int .i64 (KV.fault ⟨r,k,f,a,u⟩))])/\β w w g:=by
 have b:=zH r k f a u (w.alloc (.cells #[r,k,f,a,u] 82));have c:erV (KV.fault ⟨r,k,f,a,u⟩)=.iface 96 (.int .i64 (KV.fault ⟨r,k,f,a,u⟩)):=by unfold erV;rw[if_neg d]
 rw[c] at b;generalize KV.fault _=F at b;go_enter Tryz.func104,Tryz.ntmps104
 go_wp2_with fail
 refine cEq b λj i=>?_
 go_wp2
 go_ret2
 exact⟨rfl,((ja0 _ _).alloc (ja1 _) _).trans (i.mono (by simp))⟩
def D6(r k f a u:Int)(w:ω)(b:KV.fault ⟨r,k,f,a,u⟩=0) :
  κ Tryz.prog 112 #[.agg #[r,k,f,a,u]] w λe c=>e=.returned (.string (fO [68,75,r,k,f+1,a % 256,a / 256,u % 256,u / 256]))/\β w w c:=by
 have g:=of_decide_eq_true (KV.qC b).1;simp only at g;go_enter Tryz.func112,Tryz.ntmps112
 go_wp2_with fail
 refine(Gv [68,75,r,k,f+1,a % 256,a / 256,u % 256,u / 256] _ _ 9 _ (by simp) ?_ (Gg _ _ _ (by simp) (by simp))).mono ?_
 .simp
 rintro e i ⟨rfl,d⟩;go_wp2
 go_ret
 exact⟨rfl,(((ja0 _ _).alloc (ja1 _) _).alloc (by simp) _).trans (d.mono (by omega))⟩
def D7(d:aP):(fO d.kv.bytes).size=16:=yF _ (by show 9<=12;omega)
def aF.box{w W c:ω}{b:Nat}{Z:Zh}{y z:YV}(h:aC w b Z y)(hd:aF b Z y z W c){n:Nat}{o:Obj}(f:w.heap.size<=n)(a:W.heap[n]?=S o):c.heap[n]?=S o:=by
 obtain⟨Z',_,_,d⟩:=hd;rw[d.block (lt_of_some a) (λe=>by have:=h.fF e;omega)];exact a
def uG{a m:Nat}{Z:Zh}{y:YV}(d:aP)(w:ω)(h:aC w a Z y)(G:y.top.fine y.top.fl.length m)(hd:d.kv.fault=0)(hm:m<1000000000) :
    κ Tryz.prog 38 #[a,.agg #[d.root,d.kind,d.file,d.rate,d.burst]] w λe c=>e=.returned y.aJ/\aF a Z y (y.aA d) w c:=by
  have q:Hid (β w w (w.alloc (bF d))):=(ja0 _ _).alloc (ja1 _) _;have t:=h.below q.out;have I:=ah λW=>D6 d.root d.kind d.file d.rate d.burst W hd
  have f:Hid (∀ W:ω,β (w.alloc (bF d)).heap.size (w.alloc (bF d)) W->κ Tryz.prog 109 #[Z.tp.p,(0:Int),.string (fO d.kv.bytes)] W λe c=>e=.returned y.top.aU/\aF a Z y {y with top:=y.top.put 0 (YV.lV d)} (w.alloc (bF d)) c):=λW g =>
    (Xh _ W (t.below g) G hm (D7 d)).mono λe c ⟨t,D⟩=>⟨t,aF.from g D⟩
  have x:Hid (∀ W:ω,β (w.alloc (bF d)).heap.size (w.alloc (bF d)) W->W.cell? ⟨a,5,none⟩=some (Z.tp.p:υ)/\W.cell? ⟨w,0,none⟩=some (d.root:υ)/\W.cell? ⟨w,1,none⟩=some (d.kind:υ)/\W.cell? ⟨w,2,none⟩=some (d.file:υ)/\W.cell? ⟨w,3,none⟩=some (d.rate:υ)/\W.cell? ⟨w,4,none⟩=some (d.burst:υ)):=λW g =>
    ⟨(t.below g).blk.cells.2.1,oZ d w W g⟩
  have B:=ah λz W (hd:aF a Z y z (w.alloc (bF d)) W)=>aF.box h hd (ja1 _) (heap_alloc_new w _)
  have r:Hid (∀ W:ω,W.heap[w.heap.size]?=some (bF d)->W.cell? ⟨w,0,none⟩=some (d.root:υ)/\W.cell? ⟨w,1,none⟩=some (d.kind:υ)/\W.cell? ⟨w,2,none⟩=some (d.file:υ)/\W.cell? ⟨w,3,none⟩=some (d.rate:υ)/\W.cell? ⟨w,4,none⟩=some (d.burst:υ)):=λW N=>by
    unfold bF at N;refine⟨?_,?_,?_,?_,?_⟩<;>(rw[cell_of_row _ _ _ _ _ _ N];rfl)
  have u:Hid (∀ W:ω,aF a Z y {y with top:=y.top.put 0 (YV.lV d)} (w.alloc (bF d)) W->W.cell? ⟨a,5,none⟩=some (Z.tp.p:υ)/\κ Tryz.prog 110 #[Z.tp.p] W λe c=>e=.returned (.tuple #[])/\aF a Z y {y with top:=(y.top.put 0 (YV.lV d)).flushed} (w.alloc (bF d)) c):=λW ⟨R,l,g1,g2⟩=>by
    have H:=g1.blk.cells.2.1;rw[l.tp] at H;refine⟨H,?_⟩;rw[<- l.tp];have v:=G.put (i:=0) (s:=YV.lV d) G.ok.n1 (by show(fO d.kv.bytes).data.toList.length=16;have:=D7 d;simpa using this) (by omega)
    refine cEq (Xg (m:=m+1) W g1 (by show DV.fine _ (y.top.put 0 (YV.lV d)).fl.length _;rw[v.len];exact v)) λc D=>?_
    exact⟨rfl,aF.trans l g2 D⟩
  have T:Hid (∀ W:ω,aF a Z y {y with top:=(y.top.put 0 (YV.lV d)).flushed} (w.alloc (bF d)) W->(W.cell? ⟨a,7,none⟩=some (y.kd.root:υ)/\W.cell? ⟨a,8,none⟩=some (y.kd.kind:υ)/\W.cell? ⟨a,9,none⟩=some (y.kd.file:υ)/\W.cell? ⟨a,10,none⟩=some (y.kd.rate:υ)/\W.cell? ⟨a,11,none⟩=some (y.kd.burst:υ))/\(∀ i,W.frozen? ⟨a,i,none⟩=false)/\aF a Z y {y with top:=(y.top.put 0 (YV.lV d)).flushed,kd:=d} w (W.setCells a 7 (kdV d))):=λW ⟨R,l,g1,g2⟩=>by
    obtain⟨g3,Y⟩:=g1.qN d;obtain⟨_,_,_,L,K,M,Q,S,_,_,V⟩:=g1.blk.cells;exact⟨⟨L,K,M,Q,S⟩,V,R,l,g3,(Moved.of_below q.out).trans (g2.trans Y)⟩
  have J:=ah λz W (hd:aF a Z y z (w.alloc (bF d)) W)=>aF.from q.out hd
  unfold YV.aA YV.aJ;have U:0<=y.top.aU:=by rcases DV.nN y.top with h|h<;>omega
  generalize y.top.aU=F at f U |-;unfold bF at f x B r u T J q;have j:Hid (β (w.alloc (.cells #[d.root,d.kind,d.file,d.rate,d.burst] 82)).heap.size (w.alloc (.cells #[d.root,d.kind,d.file,d.rate,d.burst] 82)) (w.alloc (.cells #[d.root,d.kind,d.file,d.rate,d.burst] 82)).drew):=(ja0 _ _).drew;have P:=x.out _ j.out;by_cases A:F=0
  . rw[if_pos A,A]
    rw[A] at f;go_enter Tryz.func38,Tryz.ntmps38
    go_wp2
    go_region_held3 (λW=>W.cell? ⟨a,5,none⟩=some (Z.tp.p:υ)/\W.cell? ⟨w,0,none⟩=some (d.root:υ)/\W.cell? ⟨w,1,none⟩=some (d.kind:υ)/\W.cell? ⟨w,2,none⟩=some (d.file:υ)/\W.cell? ⟨w,3,none⟩=some (d.rate:υ)/\W.cell? ⟨w,4,none⟩=some (d.burst:υ))
      (first|(exact P)|assumption)
      (first
        | (go_at_call 112;refine cEq (I.out _) λC n=>?_;have k:=ah (j.out.trans (n.mono j.out.size));have X:=x.out C k.out;clear n)
        | (go_at_call 109;refine cEq (f.out _ k.out) λw2 b=>?_;have a0:=And.intro (u.out _ b).1 (r.out _ (B.out _ _ b));have E:=ah b;clear b))
    obtain⟨H,v⟩:=u.out _ E.out;go_wp2_with fail
    refine cEq v λw3 O=>?_
    obtain⟨x0,x1,x2,x3,x4⟩:=(r.out _ (B.out _ _ O));obtain⟨⟨L,K,M,Q,S⟩,o,a1⟩:=T.out _ O;have z7:=o 7;have z8:=o 8;have z9:=o 9;have a2:=o 10;have a3:=o 11;go_wp2
    go_ret
    exact⟨rfl,a1⟩
  . rw[if_neg A]
    have gF  := decide_eq_true (by omega)
    go_enter Tryz.func38,Tryz.ntmps38
    go_wp2
    go_region_held3 (λW=>W.cell? ⟨a,5,none⟩=some (Z.tp.p:υ)/\W.cell? ⟨w,0,none⟩=some (d.root:υ)/\W.cell? ⟨w,1,none⟩=some (d.kind:υ)/\W.cell? ⟨w,2,none⟩=some (d.file:υ)/\W.cell? ⟨w,3,none⟩=some (d.rate:υ)/\W.cell? ⟨w,4,none⟩=some (d.burst:υ))
      (first|(exact P)|assumption)
      (first
        | (go_at_call 112;refine cEq (I.out _) λC n=>?_;have k:=ah (j.out.trans (n.mono j.out.size));have X:=x.out C k.out;clear n)
        | (go_at_call 109;refine cEq (f.out _ k.out) λw2 b=>?_;have a0:=And.intro (u.out _ b).1 (r.out _ (B.out _ _ b));have E:=ah b;clear b))
    go_wp2
    go_ret
    exact⟨rfl,(J.out _ _ E.out)⟩
def AY{y:YV}{C m:Nat}(h:YOk y C m){d:aP}(n:d.root=y.kd.root)(o:newF y.s d=0){st:Int}(q:st=1\/st=2\/st=4\/st=5):JIn y.s C y.l d ((gI y.s d).at st):=by
 have g:y.s.walk d.root=(y.l,0):=by rw[n];exact h.ch.walk
 have f:=AV h.s o;obtain⟨j,r,k,_⟩:=f.jok;have c:(y.s.walk d.root).1=y.l:=by rw[g]
 have t:j=C:=by
  rw[c,h.ch.good.gJ h.ch.ne] at k;omega
 subst t;refine⟨(r.newX _).at q,c,rfl,⟨λe=>?_,λe=>?_,λe=>?_⟩⟩
 .have a:=f.ck
  unfold jX at a;unfold oh at a
  cases u:y.s.file _ with
  | none=>simp_all
  | some v =>
   simp_all
 all_goals
  have a:=f.ck;unfold jX at a;rw[if_neg (by omega),if_pos (by omega),c] at a
  split at a
  .next b =>
   rcases b with b|b
   .omega
   .have w  := jbs (i:=1) (by simpa using b)
    simp_all
  .cases a
theorem YOk.start{y:YV}{C m:Nat}(h:YOk y C m){d:aP}(g:d.root=y.kd.root)(k:m<1000000000):YOk (y.start d) C (m+1):=by
 unfold YV.start;split
 .next a =>
  have u:y.busy≠true/\d.kv.fault=0/\newF y.s d=0:=by
   unfold YV.kU at a;split at a
   .cases a
   .next r =>
    split at a
    .cases a
    .split at a
     .simp_all
     .omega
  obtain⟨r,v,t⟩:=u;obtain⟨b,o,f,n⟩:=ny y d;have q:=AY h g t  (.inl rfl);split
  .next hd =>
   have c:=vX (d:=d) hd;refine⟨by rw[b];exact h.s.more (by omega),?_,qV h.top d k,by simp_all,?_,λj l _=>?_,λj l=>?_⟩
   .rw[o];exact λi=>(h.dv i).more (by omega)
   .rw[b,f,c,g];exact h.ch
   .simp_all
   .cases l
    exact q.ok.su
  .next hd =>
   have c:=vW (d:=d) hd;exact⟨by rw[b];exact h.s.more (by omega),by rw[o];exact λi=>(h.dv i).more (by omega),qV h.top _ k,by rw[c];exact h.aA,by rw[b,f,c];exact h.ch,by rw[n,b,f,c];exact h.job,by rw[n];exact h.set⟩
 .exact h.more (by omega)
def YOk.ends{y:YV}{C m:Nat}(h:YOk y C m){root st:Int}{l:List Int}(n:Chain y.s C root l)(A:st=4\/st=5)(o:y.aJ=0)(t:m<1000000000):YOk {y.aA (aj root) with j:=y.j.map λj=>j.at st,l:=l} C (m+1):=by
  obtain⟨f,x,B,D⟩:=ny y _;have g:=vX (d:=aj root) o;obtain⟨v,u,_⟩:=n.root;have r:=SV.dS u;refine⟨by rw[f];exact h.s.more (by omega),?_,qV h.top _ t,by rw[g];exact kX r.1 (by omega),?_,λj k z=>?_,λj k=>?_⟩
  . rw[x];exact λi=>(h.dv i).more (by omega)
  . rw[f,g];exact n
  all_goals
    have b  := k
    cases c:y.j with
    | none=>simp_all
    | some a =>
      rw[c] at b;have e  := jaN b
      first
      | (have:j.stage=st:=by rw[<- e];rfl
         omega)
      | (obtain⟨w,q,_⟩:=h.set a c
         rw[<- e]
         exact⟨w,q,by show st=1\/st=2\/st=4\/st=5;omega⟩)
def YOk.F7{y:YV}{C m:Nat}(h:YOk y C m){root st:Int}{l:List Int}(k:Chain y.s C root l)(o:st=4\/st=5)(f:m<1000000000):YOk (y.over root st) C (m+1):=by
 unfold YV.over;have n:(y.s.walk root).1=l:=by rw[k.walk]
 split
 .next a=>rw[n];exact h.ends k o a f
 .next a =>
  obtain⟨b,q,g,j⟩:=ny y _;have c:=vW (d:=aj root) a;exact⟨by rw[b];exact h.s.more (by omega),by rw[q];exact λi=>(h.dv i).more (by omega),qV h.top _ f,by rw[c];exact h.aA,by rw[b,g,c];exact h.ch,by rw[j,b,g,c];exact h.job,by rw[j];exact h.set⟩
theorem YOk.cancel{y:YV}{C m:Nat}(h:YOk y C m)(a:m<1000000000):YOk y.cancel C (m+1):=by
 unfold YV.cancel;split
 .exact h.F7 h.ch (.inr rfl) a
 .exact h.more (by omega)
def JIn.chain{s:SV}{C:Nat}{root:Int}{l:List Int}{k:aP}{j:JV}(h:JIn s C l k j)(a:Chain s C root l)(i:k.kind≠2):∃ q,Chain s C k.file q:=by
 have g:j.kind=k.kind:=by rw[<- h.dsk];rfl
 rcases h.ok.kind with e|e|e
 .obtain⟨v,c,d,b,_⟩:=h.tgt.mir (by omega)
  exact⟨[k.file],by rw[<- b];exact Chain.one c d⟩
 .omega
 .obtain⟨p,q,f⟩:=jby (h.tgt.com (by omega))
  rw[f] at a;exact⟨_,a.drop⟩
theorem YOk.pivot{y:YV}{C m:Nat}(h:YOk y C m)(r:m+20<1000000000):YOk y.pivot C (m+11):=by
 unfold YV.pivot;split
 .exact h.more (by omega)
 .next j n =>
  split
  .exact h.more (by omega)
  .next g =>
   rw[not_or] at g;have b:=h.job j n (by omega)
   have o:j.kind=y.kd.kind:=by rw[<- b.dsk];rfl
   have t:j.kind≠2:=by omega
   have c:∀ l,bT l y.s (dU _ j):=λl=>by
    unfold dU;split
    .exact .gK l _ _
    .exact .refl l _
   have i:eG y.s j=j:=by
    unfold eG
    simp_all
   rw[i]
   have f:YOk {y with s:=dU y.s j,j:=S j} C (m+10):=by
    refine h.over (h.s.settle j (by omega)) c (by omega) (λa d _=>?_) (λa d=>?_)
    .cases d;exact b.over c
    .cases d;exact b.ok.su
   split
   .exact f.more (by omega)
   .obtain⟨q,k⟩:=(b.over c).chain (h.ch.over (c _)) g.2
    exact f.F7 k (.inl rfl) (by omega)
def BZ{s:SV}{j:JV}(b:j.state=3)(a:j.kind=2):dU s j=(dL s (j.l.headD 0) j.file).1/\dh s j=(dL s (j.l.headD 0) j.file).2:=by
 unfold dU dh
 simp_all
def Ie{s:SV}{j:JV}(b:j.state=3)(c:j.kind=2)(a:(dL s (j.l.headD 0) j.file).2≠0):eG s j=j.at 5:=by
 unfold eG
 simp_all
def TV{s:SV}{j:JV}(a:(dL s (j.l.headD 0) j.file).2=0):eG s j=j:=by
 unfold eG
 simp_all
def JIn.streams{s:SV}{C:Nat}{root:Int}{l:List Int}{k:aP}{j:JV}(h:JIn s C l k j)(b:Chain s C root l)(g:k.root=root)(hd:k.kv.fault=0)(f:k.kind=2)(c:(dL s root k.file).2=0):∃ q,Chain (dL s root k.file).1 C root q:=by
 obtain⟨r,d⟩:=b.head;rcases h.tgt.str f with e|e
 .rw[e] at c |-
  exact⟨_,b.OL c⟩
 .have a:=of_decide_eq_true (KV.qC hd).2
  have m:k.file≠root:=by
   rcases a with a|a
   .have:k.kind=0:=a.1
    omega
   .rw[<- g];exact a.2.1
  rw[d] at e;rcases List.mem_cons.1 e with e|e
  .omega
  .obtain⟨p,q,i⟩:=jby e
   rw[d,i] at b;exact⟨_,b.linked   c⟩
theorem YOk.step{y:YV}{C m:Nat}(h:YOk y C m)(X:m+30<1000000000):YOk y.step C (m+21):=by
 unfold YV.step;split
 .exact h.more (by omega)
 .next j U =>
  split
  .exact h.more (by omega)
  .next W =>
   have I:=h.job j U (by omega)
   have x:∀ l,bT l y.s (stepS y.s j):=λl=>.step l _ _
   have f:=I.ok.step;have d  := I.as x f (uw _ _).1 (uw _ _).2
   have g:YOk {y with s:=stepS y.s j,j:=some (stepJ y.s j)} C (m+10):=by
    refine h.over (h.s.step j (by omega)) x (by omega) (λa B _=>?_) (λa B=>?_)
    .cases B;exact d
    .cases B;exact f.su
   have o  := h.ch.over (x _);have D:=h.s.step j (show m+10<=1000000000 by omega)
   split
   .split
    .next Q =>
     exact(g.bare (λb c=>by cases c;rw[Q];decide) (by omega)).more (by omega)
    .exact g.more (by omega)
   .split
    .exact g.more (by omega)
    .next w =>
     rw[not_or] at w;have F  := jai w.1;have u  := jai w.2;generalize Y:stepJ y.s j=a at d g f u |-;generalize V:stepS y.s j=z at d g f o D |-;have L:a.kind=2:=by rw[<- F,<- d.dsk];rfl
     have t:a.file=y.kd.file:=by rw[<- d.dsk];rfl
     have A:a.l.headD 0=y.kd.root:=by
      obtain⟨r,e⟩:=o.head;rw[d.lst,e];rfl
     obtain⟨K,E⟩:=BZ (s:=z) u L;rw[A,t] at K E;rw[E,K];split
     .next n =>
      rw[(Ie (s:=z) u L (by rw[A,t];exact n))]
      have P:∀ l,bT l z _:=λl=>.AL n
      have O:YOk {y with s:=(dL z y.kd.root y.kd.file).1,j:=some (a.at 5)} C (m+20):=by
       refine⟨D.link _ _ (by omega),λi=>(h.dv i).more (by omega),h.top.more (by omega),h.aA,o.over (P _),λb c v=>?_,λb c=>?_⟩
       .cases c;exact absurd v (by show ¬(5:Int)<4;decide)
       .cases c;exact(f.at (.inr (.inr (.inr rfl)))).su
      exact O.bare (λb c=>by cases c;show(4:Int)<=5;decide) (by omega)
     .next n =>
      have H  := jai n;rw[(TV (s:=z) (j:=a) (by rw[A,t];exact H))]
      obtain⟨q,G⟩:=d.streams o rfl h.aA F H;have R:((dL z y.kd.root y.kd.file).1.walk y.kd.root).1=q:=by rw[G.walk]
      rw[R];have J:=h.root;obtain⟨M,S,T,N⟩:=ny _ _;refine⟨by show(YV.aA _ _).s.ok _;rw[M];exact(D.link _ _ (by omega)).more (by omega),?_,?_,kX J.1 J.2,?_,λb c v=>?_,λb c=>?_⟩
      .show ∀ i,((YV.aA _ _).dv i).fine _ _
       rw[S];exact λi=>(h.dv i).more (by omega)
      .exact(qV (y:={y with s:=(dL z y.kd.root y.kd.file).1,l:=q,j:=some (a.at 4)}) h.top _ (by omega)).more (by omega)
      .show Chain _ C y.kd.root _
       rw[M,T];exact G
      .have k  := c
       rw[N] at k;cases k;exact absurd v (by show ¬(4:Int)<4;decide)
      .have k  := c
       rw[N] at k;cases k;exact(f.at (.inr (.inr (.inl rfl)))).su
def xR{d:Nat->DV}{m:Nat}(hd:∀ i,(d i).fine (d i).fl.length m):(aK d).ok m:=λi v e=>by
 unfold aK at e;split at e
 .next a=>cases e;exact(Qg (hd i) a.2).1
 .cases e
def zO{s:ByteArray}(h:aJ s=0):(iy s).fault=0:=by
 unfold aJ at h;unfold iy;split at h
 .next b =>
  split at h
  .next a =>
   rw[if_pos ⟨b,a⟩];unfold mP at a
   simp_all
  .cases h
 .omega
def F5{d:Nat->DV}{t:DV}{m:Nat}(hd:∀ i,(d i).fine (d i).fl.length m)(u:t.fine t.fl.length m)(b:jo d t=0):∃ C,YOk (jF d t) C m:=by
 unfold jo at b;split at b
 .next w =>
  have n  := zO w;have l:=of_decide_eq_true (KV.qC n).1;have q:0<=(ak t).root:=l.1
  have r:((aK d).walk _).1≠[]:=λe=>by
   have:=SV.qR b
   rw[e] at this;have:(ak t).root = -1:=this
   omega
  have f:=Chain.of b r;obtain⟨v,x,y⟩:=f.root
  have o:(((aK d).gZ (ak t).root).toNat:Int)=(aK d).gZ (ak t).root:=by
   have:=HV.dK ((xR hd).file x).h
   omega
  rw[<- o] at f
  have c:YOk ⟨d,t,aK d,aj _,((aK d).walk _).1,O⟩ _ m :=
   ⟨xR hd,hd,u,kX q l.2.1,f,(λj a=>by cases a),(λj a=>by cases a)⟩
  refine⟨((aK d).gZ (ak t).root).toNat,?_⟩;unfold jF;by_cases g:lF (aK d) (ak t)=true
  .rw[if_pos g,if_pos g]
   have k:=AY c (d:=ak t) rfl (of_decide_eq_true g).2.2  (.inr (.inl rfl));refine⟨c.s,c.dv,c.top,n,f,λj a _=>?_,λj a=>?_⟩
   .cases a;exact k
   .cases a;exact k.ok.su
  .simp_all
 .omega
def tZ{n:Nat}(a:1<=n)(c:n<=200):(ig n).fine (ig n).fl.length 0 :=
 ⟨DV.AP (by simp_all) (by simp_all) (λs b=>by simp_all) (by decide),Fg _ _,rfl,ja1 _⟩
def O7(n:Nat):(ig n).fail = -1:=rfl
def SN{d:DV}(h:d.fail = -1)(t:List (Int × Int)):∀ k,(d.dG t k).1.fail = -1/\(d.dG t k).2=0:=by
 have c:∀ {d:DV},d.fail = -1->d.aU=0/\∀ i s,(d.put i s).fail = -1:=λ{d} h=>by
  have a:d.fail≠0:=by omega
  refine⟨by unfold DV.aU;rw[if_neg a],λi s=>?_⟩
  unfold DV.put DV.iJ;rw[if_neg a,if_pos h];exact h
 intro k
 induction k with
 | zero=>exact⟨h,rfl⟩
 | succ k b =>
  rw[DV.qK b.2]
  simp_all
def FH{n:Nat}{h:HV}(a:h.ok=true)(f:aQ h<=n):crF (ig n) h=0:=by
 unfold crF;have d:(ig n).fl.length=n:=jaw;obtain⟨c,b⟩:=SN (O7 n) _ _;rw[if_pos a,if_neg (by omega),if_pos (show(crD _ h).2=0 from b)]
 unfold DV.aU;rw[if_neg (by show ¬(crD _ h).1.fail=0;unfold crD;omega)]
def FK{c p:Int}(b:(newH c p).ok=true)(l:aQ (newH c p)<=200):YOk (lG c p) c.toNat 20:=by
 have k:((newH c p).c.toNat:Int)=c:=by show(c.toNat:Int)=c;have:(1:Int)<=c:=(HV.dK b).1;omega
 have hd:=tZ  (by unfold aQ dw;omega) l
 have m:=zM hd b (by rw[show(ig _).fl.length=aQ _ from jaw];omega) (by omega)
 have f:YOk (mY c p) c.toNat 15:=by
  refine⟨λi v e=>?_,λi=>hd.more (by omega),(tZ (by omega) (by omega)).more (by omega),kX (by decide) (by decide),?_,(λj a=>by cases a),(λj a=>by cases a)⟩
  .have g:SV.upd (λ_=>O) 0 _ i=S v:=e
   unfold SV.upd at g
   simp_all
  .have d:(mY c p).s.file 0=S _:=rfl
   have:=Chain.one d (by rw[wV];rfl)
   rw[wV] at this;rw[show((c.toNat:Nat):Int)=(newH c p).c from k];exact this
 exact(f.bare (λj a=>by cases a) (by omega)).more (by omega)
