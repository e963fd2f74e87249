/- The document's yard is made (J1): the walk. -/
import Derived.Test.YtbohmhacdgckgaaGreatDoorQOYardO6
set_option linter.all false
set_option maxHeartbeats 2000000
set_option maxRecDepth 100000
namespace Go.Proofs.YtbohmhacdgckgaaGreatDoor
open Go.RowKit renaming Below->β
open Go renaming World->ω, Value->υ, Calls->κ
open Option renaming none->O, some->S
open Go.Proofs.Tryz Go.RowKit Go.Maps
attribute [local go_sem ↓] Go.wp_at_zero Go.wp_at_succ
def xP{c p:Int}(b:(newH c p).ok=true):aQ (newH c p)<=200:=by
 have a:=HV.dK b;unfold newH at a |-;simp only at a;unfold aQ dw ay;simp only
 omega
def Mc(w:ω):(binOp BinOp.eql 27 .nilIface (.iface 96 (.int .i64 1))).run prog w=.ok (.bool false) w:=by kernel_rfl
def Ei(F:Int)(w:ω):(binOp BinOp.eql 27 (.iface 96 (.int .i64 F)) (.iface 96 (.int .i64 1))).run prog w=.ok (.bool (F==1)) w:=by kernel_rfl
def vY{d:Nat}{Y:Yh}{y:YV}(fr n F:Int)(w:ω)(h:aB w d Y y)(i:y.busy≠true\/n=0\/F=1) :
  κ prog 93 #[d,fr,n,erV F] w λe g=>e=.returned (.tuple #[])/\g=w:=by
 have b:=ah (oO w h);unfold goV at b;by_cases c:y.busy=true
 .rw[if_pos c] at b
  by_cases f:n=0
  .subst f
   go_enter func93,ntmps93
   go_wp2_with fail
   refine cSt b.out ?_;go_wp2
   refine bodyPost_ret (results_none rfl _ _ _) rfl ?_;exact⟨rfl,rfl⟩
  .have a:F=1:=by
    rcases i with a|a|a
    .exact absurd c a
    .exact absurd a f
    .exact a
   rw[a,eu];have j:=Ei 1;go_enter func93,ntmps93
   go_wp2_with fail
   refine cSt b.out ?_;go_wp2
   refine bodyPost_ret (results_none rfl _ _ _) rfl ?_;exact⟨rfl,rfl⟩
 .rw[if_neg c] at b
  generalize erV F=E;go_enter func93,ntmps93
  go_wp2_with fail
  refine cSt b.out ?_;go_wp2
  refine bodyPost_ret (results_none rfl _ _ _) rfl ?_;exact⟨rfl,rfl⟩
def V4{b C m:Nat}{Y:Yh}{y:YV}(fr n:Nat)(F:Int)(w:ω)(h:aB w b Y y)(A:YOk y C m)(N:F≠1)(z:y.busy=true)(hn:1<=n)(hl:fr+n<=1000) :
  κ prog 93 #[b,(fr:Int),(n:Int),erV F] w λe q=>e=.returned (.tuple #[])/\au b Y y (y.mark fr n) w q:=by
 have r:=ah (oO w h);unfold goV at r;rw[if_pos z] at r;obtain⟨j,v,J⟩:=lU z
 have L:Hid (∀ k:Nat,∀ W:ω,fr / 4+k=(fr+n-1) / 4+1->au b Y y {y with j:=some (kM j (fr / 4) k)} w W->au b Y y (y.mark fr n) w W):=λk W d hd=>by
  obtain⟨f,rfl⟩:∃ f,n=f+1:=⟨n-1,by omega⟩
  have e:y.mark fr (f+1)={y with j:=some (kM j (fr / 4) k)}:=by
   unfold YV.mark;have u:fr / 4<=(fr+f) / 4:=Nat.div_le_div_right (by omega)
   have E:k=(fr+f) / 4-fr / 4+1:=by
    have:fr+(f+1)-1=fr+f:=by omega
    rw[this] at d;omega
   rw[v,E,<- LG];rfl
  rw[e];exact hd
 have T:Hid (au b Y y {y with j:=some (kM j (fr / 4) 0)} w w):=by
  have e:({y with j:=some (kM j (fr / 4) 0)}:YV)=y:=by
   show({y with j:=some j}:YV)=y
   rw[<- v]
  unfold Hid;rw[e];exact au.refl h
 have D:Hid (∀(k:Nat) (W:ω),au b Y y {y with j:=some (kM j (fr / 4) k)} w W->κ prog 170 #[Y.jb.jp,((fr:Int) / 4+(k:Int):Int)] W λe q=>e=.returned (.tuple #[])/\au b Y y {y with j:=some (kM j (fr / 4) (k+1))} w q):=λk W ⟨i,B,t,G⟩=>by
  have R:JOk y.s C (kM j (fr / 4) k):=(A.job j v J).ok.kM _ k;obtain⟨g1,g2,g3,P,S⟩:=t.job _ rfl
  have O:PJ W b i.jb.jp i.jb.lp i.jb.bp i.jb.a i.jb.cap i.xs y.s m C (kM j (fr / 4) k):=⟨t.shelf A.s,g1,g2,λg o e d=>S g o e (by
   rcases d with d|d
   .exact .inr (.inl (t.inS d))
   .exact .inr (.inr (.inr ⟨(by intro e;cases e),d⟩))),R,P⟩
  rw[<- B,show(fr:Int) / 4+(k:Int)=((fr / 4+k:Nat):Int) by omega]
  refine cEq (LK ((fr / 4+k:Nat):Int) W O) λq hd=>?_
  obtain⟨H,M,Q,K⟩:=t.uj rfl (ja0 _ _) hd (by rw[show dW (kM j (fr / 4) k) ((fr / 4+k:Nat):Int)=kM j (fr / 4) (k+1) from rfl,Ea,Ea])
  exact⟨rfl,H,M.trans B,Q,G.trans K⟩
 generalize Y.jb.jp=V at r D
 have l:erV F=.nilIface\/(erV F=.iface 96 (.int .i64 F)/\(F==1)=false):=by
  by_cases u:F=0
  .exact .inl (by rw[u,aN])
  .exact .inr ⟨bJ u,by simpa using N⟩
 have g1:((n:Int)==0)=false:=by simp;omega
 have X:=Mc;have Z:=Ei F;rcases l with l|⟨l,gE⟩<;>rw[l]<;>clear l
 all_goals
  go_enter func93,ntmps93
  go_wp2_with fail
  refine cSt r.out ?_;go_wp2
  go_loopw [9] (λc wr=>∃ k:Nat,fr / 4+k<=(fr+n-1) / 4+1/\c=.int .i64 ((fr:Int) / 4+(k:Int))/\au b Y y {y with j:=some (kM j (fr / 4) k)} w wr) (λc _=>((fr+n) / 4+2)-(intOf c).toNat)
  case atStart=>exact⟨0,by omega,by simp,T.out⟩
  case round =>
   obtain⟨k,d,rfl,hd⟩:=hrel;by_cases U:fr / 4+k<=(fr+n-1) / 4
   .have x:=ah (D.out k _ hd)
    go_wp2_with fail
    refine cHd x.out λw2 I=>?_
    go_wp2
    refine⟨⟨k+1,by omega,by simp;omega,I.out⟩,?_⟩
    simp only[intOf];omega
   .have x:=ah (L.out k _ (by omega) hd)
    go_wp2
    go_end0
    exact⟨rfl,x.out⟩
def IB{s:SV}{C:Int}{m:Nat}{l:List Int}{n:Int}{v:IV}(f:s.good C l)(d:s.ok m)(g:n∈l)(a:s.file n=S v){c:Nat}(k:(c:Int)<C):v.there (c:Int)=true:=by
 obtain⟨u,b,i⟩:=f n g;rw[a] at b;cases b
 have j:=(d.file a).len;exact decide_eq_true (by omega)
def EZ{s:SV}{C m:Nat}{l:List Int}(a:s.good (C:Int) l)(g:s.ok m){c f k:Nat}{t:ByteArray}(w:c<C)(i:t.size=k*16)(o:f+k<=4):(s.lay l c f t).2≠1:=by
 cases l with
 | nil=>show(4:Int)≠1;decide
 | cons n r =>
  obtain⟨v,b,u⟩:=a n jaf;have d:=IB a g jaf b (c:=c) (by omega)
  show(match s.file n with|none=>_|some v=>_:SV × Int).2≠1
  rw[b];show(if (v.bC c).1=2 then _ else _:SV × Int).2≠1
  split
  .show v.dJ c f t≠1
   unfold IV.dJ;rw[if_pos (show oq v c f t=true by unfold oq;rw[d];simp;omega)]
   split
   .unfold IV.qU
    rcases DV.rV _ _ t _ with h|h<;>rw[h]<;>decide
   .decide
  .show v.dD c _≠1
   have j:((s.read (n::r) c).1.extract 0 (f*16)++t++(s.read (n::r) c).1.extract (f*16+t.size) 64).size=64:=by
    simp only[jaL,jaz,(SV.kS (c:=(c:Int)) a g (by simp_all) ⟨by omega,by omega⟩).2,i]
    omega
   unfold IV.dD;rw[if_pos ⟨d,j⟩];split
   .decide
   .split
    .decide
    .rename_i q r' hq
     split
     .rcases DV.nN _ with⟨h,_⟩|⟨h,_⟩<;>rw[h]<;>decide
     .unfold IV.fC
      rcases DV.rV _ _ _ 4 with h|h<;>rw[h]<;>decide
def Vq{s:SV}{C m:Nat}{l:List Int}(b:s.good (C:Int) l)(d:s.ok m){fr N:Nat}{p:Pt}(a:p.fits fr N C):(SV.dI l s p).2≠1:=by
 cases l with
 | nil=>show(4:Int)≠1;decide
 | cons n r =>
  obtain⟨v,f,g⟩:=b n jaf;show(match s.file n with|none=>_|some v=>_:SV × Int).2≠1
  rw[f];show(if p.n=4 then _ else _:SV × Int).2≠1
  split
  .show v.fB _≠1
   unfold IV.fB;rw[if_pos (IB b d jaf f (c:=p.c) (by have:=a.c;omega))]
   split
   .decide
   .rcases DV.nN _ with⟨h,_⟩|⟨h,_⟩<;>rw[h]<;>decide
  .split
   .omega
   .exact(EZ   (t:=dY _) b d a.c (by show(List.replicate _ (0:UInt8)).toArray.size=_;simp_all) a.n4)
def ED{a:SV->Pt->SV × Int}{C:Nat}{l:List Int}{fr N:Nat}(o:∀(s:SV) (m:Nat) p,s.good (C:Int) l->s.ok m->m+10<=1000000000->p.fits fr N C->(a s p).2≠1/\(a s p).1.ok (m+10)/\(a s p).1.good (C:Int) l) :
  ∀(P:List Pt) (s:SV) (m:Nat),s.good (C:Int) l->s.ok m->m+10*P.length<=1000000000->(∀ p∈P,p.fits fr N C)->(jC a s P).2≠1:=by
 intro P
 induction P with
 | nil=>intro s m _ _ _ _;show(0:Int)≠1;decide
 | cons p r k =>
  intro s m f g i b;simp only[jax] at i;rw[pY];obtain⟨c,d,n⟩:=o s m p f g (by omega) (b p jaf)
  split
  .exact k _ _ n d (by omega) λq j=>b q (jaX _ j)
  .exact c
def QD{s:SV}{C m:Nat}{l:List Int}(a:s.good (C:Int) l)(b:s.ok m){fr:Int}{t:ByteArray}(i:t.size % 16=0)(f:s.aW l fr ((t.size / 16:Nat):Int)=0)(g:m+10*(t.size / 16)<=1000000000):(s.put l fr t).2≠1:=by
 obtain⟨k,n,o,j⟩:=SV.mO a f;unfold SV.put;rw[if_pos i,if_pos f];have q:=qF fr.toNat (t.size / 16) _ 0 (ja1 _);refine ED     (λs m p a b g d=>⟨EZ a b d.c (rX (by have:=d.an;omega)) d.n4,b.lay _ _ _ _ g,?_⟩) _ s m a b (by omega) (vw (by omega) _ 0 (ja1 _))
 exact(bT.lay l s l _ _ _).good a
def Vs{s:SV}{C m:Nat}{l:List Int}(a:s.good (C:Int) l)(b:s.ok m){fr n:Int}(d:s.aW l fr n=0)(c:m+10*n.toNat<=1000000000):(s.wipe l fr n).2≠1:=by
 obtain⟨i,o,j,g⟩:=SV.mO a d;unfold SV.wipe;rw[if_pos d];have k:=qF fr.toNat n.toNat _ 0 (ja1 _);refine ED     (λs m p a b c f=>⟨Vq a b f,b.dI _ _ c,?_⟩) _ s m a b (by omega) (vw (by omega) _ 0 (ja1 _))
 exact(bT.dI l s l p).good a
def Dx{s:SV}{l:List Int}{fr n:Int}(a:l≠[])(h:s.aW l fr n≠0):s.aW l fr n=1:=by
 unfold SV.aW at h |-
 simp_all
def Ji{f C m:Nat}{Y:Yh}{y:YV}(fr n F:Int)(w:ω)(h:aB w f Y y)(j:YOk y C m)(l:C<=40)(o:F≠1->0<=fr/\0<=n/\fr+n<=4*C) :
  κ prog 93 #[f,fr,n,erV F] w λe c=>e=.returned (.tuple #[])/\au f Y y (if F=1 then y else y.mark fr.toNat n.toNat) w c:=by
 by_cases d:F=1
 .refine(vY fr n F w h (.inr (.inr d))).mono ?_
  rintro e c ⟨rfl,rfl⟩;rw[if_pos d];exact⟨rfl,au.refl h⟩
 .rw[if_neg d]
  obtain⟨a,rfl⟩:∃ k:Nat,fr=(k:Int):=⟨fr.toNat,by omega⟩
  obtain⟨b,rfl⟩:∃ k:Nat,n=(k:Int):=⟨n.toNat,by omega⟩
  rw[show((a:Int)).toNat=a by omega,show((b:Int)).toNat=b by omega]
  by_cases g:y.busy=true
  .by_cases i:b=0
   .subst i
    refine(vY (a:Int) 0 F w h (.inr (.inl rfl))).mono ?_;rintro e c ⟨rfl,rfl⟩;rw[OZ];exact⟨rfl,au.refl h⟩
   .exact V4 a b F w h j d g (by omega) (by omega)
  .refine(vY (a:Int) (b:Int) F w h (.inl g)).mono ?_
   rintro e c ⟨rfl,rfl⟩;rw[OY g];exact⟨rfl,au.refl h⟩
def Jr{c C m:Nat}{Y:Yh}{y:YV}(fr:Int)(t:ByteArray)(w:ω)(h:aB w c Y y)(b:YOk y C m)(q:C<=40)(hm:m+7000<1000000000)(H : -9223372036854775808<=fr/\fr<=9223372036854775807)(J:t.size<=10000) :
    κ prog 24 #[c,fr,t] w λe a=>e=.returned (erV (y.dJ fr t))/\au c Y y (y.write fr t) w a:=by
  have S:Hid (∀ W:ω,β w w W->κ prog 92 #[c] W λe a=>∃(g o cap:Nat),e=.returned (.slice (some ⟨g,o,none⟩) y.l.length cap)/\Nums a (some ⟨g,o,none⟩) y.l/\w.heap.size<=g/\β w w a):=λW i=>(sH W (h.below i) b).mono λe a ⟨g,o,cap,f,k,j,_,_,U⟩=>⟨g,o,cap,f,k,ja4 i.size j,i.trans (U.mono i.size)⟩
  have r:Hid (∀(W:ω) (g o cap:Nat),β w w W->Nums W (some ⟨g,o,none⟩) y.l->w.heap.size<=g->κ prog 91 #[.pointer (some ⟨c,6,none⟩),.slice (some ⟨g,o,none⟩) y.l.length cap,fr,t] W λe a=>e=.returned (erV (y.s.put y.l fr t).2)/\au c Y y {y with s:=(y.s.put y.l fr t).1} w a):=λW g o cap i T hg =>
    (KQ y.l fr t W ((h.shelf b.s).below i) T b.ch.good (by have:=b.ch.len;omega) q (λg' o' e Q=>by
      cases e
      have:=h.fF (.inr (.inl (h.inS Q)))
      omega) (by omega) H J).mono λe a hd=>h.vK i hd
  have D:Hid (∀ W:ω,au c Y y {y with s:=(y.s.put y.l fr t).1} w W->κ prog 93 #[c,fr,((t.size:Int) / 16:Int),erV (y.s.put y.l fr t).2] W λe a=>e=.returned (.tuple #[])/\erV (y.s.put y.l fr t).2=erV (y.dJ fr t)/\au c Y y (y.write fr t) w a):=λW ⟨M,A,f,k⟩=>by
    have z:YOk {y with s:=(y.s.put y.l fr t).1} C (m+10*(t.size / 16)):=b.files (b.s.put _ _ _ (by omega)) (λl=>.put l _ _ _ _) (by omega)
    by_cases d:t.size % 16=0/\y.s.aW y.l fr ((t.size / 16:Nat):Int)=0
    . obtain⟨_,K,n0,hl⟩:=SV.mO b.ch.good d.2
      refine(Ji fr ((t.size:Int) / 16) _ W f z q (λ_=>⟨K,by omega,by omega⟩)).mono ?_
      rintro e a ⟨rfl,I,O,j,x⟩;rw[if_neg (QD b.ch.good b.s d.1 d.2 (by omega))] at j x
      have V:y.write fr t=({y with s:=(y.s.put y.l fr t).1}:YV).mark fr.toNat ((t.size:Int) / 16).toNat:=by
        unfold YV.write;rw[if_pos d,show((t.size:Int) / 16).toNat=t.size / 16 by omega]
      refine⟨rfl,?_,?_⟩
      . unfold YV.dJ;rw[if_pos d]
      . rw[V];exact⟨I,O.trans A,j,k.trans x⟩
    . have X:y.s.put y.l fr t=(y.s,1):=by
        unfold SV.put;by_cases n:t.size % 16=0
        . rw[if_pos n,if_neg (λe=>d ⟨n,e⟩),Dx b.ch.ne (λe=>d ⟨n,e⟩)]
        . rw[if_neg n]
      rw[X] at f k z |-;refine(vY fr ((t.size:Int) / 16) 1 W f (.inr (.inr rfl))).mono ?_;rintro e a ⟨rfl,rfl⟩;refine⟨rfl,?_,?_⟩
      . unfold YV.dJ;rw[if_neg d]
      . unfold YV.write;rw[if_neg d];exact⟨M,A,f,k⟩
  generalize y.s.put y.l fr t=R at r D;have L:Hid (β w w w.drew):=(ja0 _ _).drew;go_enter func24,ntmps24
  go_wp2
  go_region_held3 (λ_=>True)
    (first|trivial|assumption)
    (first
      | (go_at_call 92;refine(S.out _ L.out).mono ?_;rintro e F ⟨g,o,cap,rfl,f,j,N⟩;have P:=ah (r.out F g o cap N f j);have a0:=True.intro)
      | (go_at_call 91;refine cEq P.out λw2 E=>?_;have u:=ah (D.out _ E);have a1:=True.intro))
  go_wp2_with fail
  refine u.out.mono ?_;rintro e w3 ⟨rfl,B,v⟩;have Z:=ah B;have G:=ah v;clear B v u;go_wp2
  go_ret
  exact⟨lu Z.out,G.out⟩
def Jq{c C m:Nat}{Y:Yh}{y:YV}(fr n:Int)(w:ω)(h:aB w c Y y)(b:YOk y C m)(q:C<=40)(hm:m+7000<1000000000)(F : -9223372036854775808<=fr/\fr<=9223372036854775807) :
    κ prog 42 #[c,fr,n] w λe a=>e=.returned (erV (y.mG fr n))/\au c Y y (y.wipe fr n) w a:=by
  have O:Hid (∀ W:ω,β w w W->κ prog 92 #[c] W λe a=>∃(g o cap:Nat),e=.returned (.slice (some ⟨g,o,none⟩) y.l.length cap)/\Nums a (some ⟨g,o,none⟩) y.l/\w.heap.size<=g/\β w w a):=λW i=>(sH W (h.below i) b).mono λe a ⟨g,o,cap,d,k,j,_,_,Q⟩=>⟨g,o,cap,d,k,ja4 i.size j,i.trans (Q.mono i.size)⟩
  have r:Hid (∀(W:ω) (g o cap:Nat),β w w W->Nums W (some ⟨g,o,none⟩) y.l->w.heap.size<=g->κ prog 117 #[.pointer (some ⟨c,6,none⟩),.slice (some ⟨g,o,none⟩) y.l.length cap,fr,n] W λe a=>e=.returned (erV (y.s.wipe y.l fr n).2)/\au c Y y {y with s:=(y.s.wipe y.l fr n).1} w a):=λW g o cap i P X =>
    (Ld y.l fr n W ((h.shelf b.s).below i) P b.ch.good (by have:=b.ch.len;omega) q (λg' o' e N=>by
      cases e
      have:=h.fF (.inr (.inl (h.inS N)))
      omega) (by omega) F).mono λe a hd=>h.vK i hd
  have A:Hid (∀ W:ω,au c Y y {y with s:=(y.s.wipe y.l fr n).1} w W->κ prog 93 #[c,fr,n,erV (y.s.wipe y.l fr n).2] W λe a=>e=.returned _/\erV _=erV (y.mG fr n)/\au c Y y (y.wipe fr n) w a):=λW ⟨J,x,d,k⟩=>by
    by_cases f:y.s.aW y.l fr n=0
    . obtain⟨_,H,Z,hl⟩:=SV.mO b.ch.good f
      refine(Ji fr n _ W d (b.files (b.s.wipe _ _ _ (by omega)) (λl=>.wipe l _ _ _ _) (by omega)) q (λ_=>⟨H,by omega,by omega⟩)).mono ?_
      rintro e a ⟨rfl,G,L,j,v⟩;rw[if_neg (Vs b.ch.good b.s f (by omega))] at j v
      have S:y.wipe fr n=({y with s:=(y.s.wipe y.l fr n).1}:YV).mark fr.toNat n.toNat:=by
        unfold YV.wipe;rw[if_pos f]
      refine⟨rfl,?_,?_⟩
      . unfold YV.mG;rw[if_pos f]
      . rw[S];exact⟨G,L.trans x,j,k.trans v⟩
    . have T:y.s.wipe y.l fr n=(y.s,1):=by
        unfold SV.wipe;rw[if_neg f,Dx b.ch.ne f]
      rw[T] at d k |-;refine(vY fr n 1 W d (.inr (.inr rfl))).mono ?_;rintro e a ⟨rfl,rfl⟩;refine⟨rfl,?_,?_⟩
      . unfold YV.mG;rw[if_neg f]
      . unfold YV.wipe;rw[if_neg f];exact⟨J,x,d,k⟩
  generalize y.s.wipe y.l fr n=R at r A;have I:Hid (β w w w.drew):=(ja0 _ _).drew;go_enter func42,ntmps42
  go_wp2
  go_region_held3 (λ_=>True)
    (first|trivial|assumption)
    (first
      | (go_at_call 92;refine(O.out _ I.out).mono ?_;rintro e D ⟨g,o,cap,rfl,d,j,K⟩;have M:=ah (r.out D g o cap K d j);have a0:=True.intro)
      | (go_at_call 117;refine cEq M.out λw2 B=>?_;have t:=ah (A.out _ B);have a1:=True.intro))
  go_wp2_with fail
  refine t.out.mono ?_;rintro e V ⟨rfl,z,u⟩;have U:=ah z;have E:=ah u;clear z u t;go_wp2
  go_ret
  exact⟨lu U.out,E.out⟩
def getD_in{l:List Int}{k:Nat}(h:k<l.length):l.getD k 0∈l:=by
 simp_all
def V7{a C m:Nat}{Y:Yh}{y:YV}(w:ω)(h:aB w a Y y)(x:YOk y C m) :
  κ prog 45 #[a] w λe t=>e=.returned (.tuple #[])/\au a Y y y.flush w t:=by
 have H:=ah (sH w h x)
 have F:Hid (∀ W:ω,au a Y y {y with s:=y.s.gK (y.l.take y.l.length)} w W->au a Y y y.flush w W):=λW hd=>by
  rw[jaR] at hd;exact hd
 have E:Hid (∀(k:Nat) (b W:ω) (g o:Nat),k<y.l.length->Nums b (some ⟨g,o,none⟩) y.l->w.heap.size<=g->β w w b->au a Y y {y with s:=y.s.gK (y.l.take k)} b W->∃(n xp:Nat),W.cell? ⟨g,o+k,none⟩=some (.int .i64 (n:Int))/\n<5/\W.cell? ⟨a,6+n,none⟩=some (xp:υ) /\
   κ prog 119 #[xp] W λe t=>e=.returned (.tuple #[])/\au a Y y {y with s:=y.s.gK (y.l.take (k+1))} b t):=λk b W g o c V hg u ⟨j,B,d,f⟩=>by
  have hN  := V.moved f (λQ U e A=>by
   cases e
   have:=h.fF A
   omega)
  obtain⟨Q,U,Z,D⟩:=hN k c;cases Z
  obtain⟨v,I,_⟩:=Nc x.ch.good (y.l.take k) _ (getD_in c);obtain⟨a0,a5,a2⟩:=SV.dS I;have G:W.cell? ⟨a,6+(y.l.getD k 0).toNat,none⟩=some (iE (j.xs (y.l.getD k 0).toNat) (y.s.gK (y.l.take k) (y.l.getD k 0).toNat)):=d.blk.cells.2.2.1 (y.l.getD k 0).toNat (by omega)
  rw[a2] at G;refine⟨(y.l.getD k 0).toNat,(j.xs (y.l.getD k 0).toNat).p,by rw[D,show(((y.l.getD k 0).toNat:Nat):Int)=y.l.getD k 0 by omega],by omega,G,?_⟩
  refine(Et W (d.shelf (SV.ok.gK _ x.s)) I).mono ?_;rintro e t ⟨rfl,K,q,X⟩;obtain⟨P,R⟩:=d.vO (ja0 _ _) q X;refine⟨rfl,{j with xs:=K},B,?_,?_⟩
  .rw[Cj c,SV.Ae];exact P
  .rw[Cj c,SV.Ae];exact f.trans R
 have S:Hid (∀(b W:ω) (z:YV),β w w b->au a Y y z b W->au a Y y z w W):=λb W z u ⟨j,B,d,f⟩=>⟨j,B,d,(Moved.of_below u).trans f⟩
 have O:=ah λW (u:β w w W)=>au.refl (h.below u)
 have N  := x.ch.len;generalize hl:y.l.length=ln at H E F N;go_enter func45,ntmps45
 go_wp2_with fail
 refine H.out.mono ?_;rintro e r ⟨g,o,cap,rfl,d,f,h3,D,q⟩;have T:=ah (λW z hd=>S.out r W z q hd)
 go_wp2
 go_loopw [7] (λi wr=>∃ k:Nat,k<=ln/\i=.int .i64 (k:Int)/\au a Y y {y with s:=y.s.gK (y.l.take k)} r wr) (λi _=>ln-(intOf i).toNat)
 case atStart=>exact⟨0,ja5 _,rfl,(O.out r q)⟩
 case round =>
  obtain⟨k,c,rfl,hd⟩:=hrel;by_cases J:k<ln
  .obtain⟨n,xp,q1,q2,q3,A⟩:=(λk W c hd=>E.out k r W g o c d f q hd) k wr J hd
   have k0:(0:Int)<=(k:Int):=by omega
   have k2:((k:Int)).toNat=k:=by omega
   have n0:(0:Int)<=(n:Int):=by omega
   have n1:(n:Int)<5:=by omega
   have n2:((n:Int)).toNat=n:=by omega
   have k3:IntKind.i64.wrap _=(k:Int)+1:=ja7 _ (by omega)
   go_wp2_with fail
   refine cHd A λw2 M=>?_
   go_wp2
   refine⟨⟨k+1,by omega,by simp,M.out⟩,?_⟩
   simp only[intOf];omega
  .have L:k=ln:=by omega
   rw[L] at hd;go_wp2
   go_end0
   exact⟨rfl,(F.out _ (T.out _ _ hd))⟩
def bx(a b c:Int):Obj:=.cells #[a,b,c] 67 (0,0)
def sS{W:ω}{N:Nat}{a b c:Int}(h:W.heap[N]?=S (bx a b c)):W.cell? ⟨N,0,O⟩=S (a:υ)/\W.cell? ⟨N,1,O⟩=S (b:υ)/\W.cell? ⟨N,2,O⟩=S (c:υ)/\W.frozen? ⟨N,1,O⟩=false:=by
 refine⟨?_,?_,?_,frozen_of_row W N 1 _ _ h⟩<;>(rw[cell_of_row _ _ _ _ _ _ h];rfl)
def aB.creates{w W:ω}{c i N m C:Nat}{Y:Yh}{y:YV}{back R:Int}(h:aB w c Y y)(M:YOk y C m)(g:i<5)(hm:m+20<1000000000)(S:y.used (i:Int)≠true)(hR:R=nO (y.dev i).fl.length (C:Int))(t:β w w W)(hN:w.heap.size<=N)(A:W.heap[N]?=some (bx (C:Int) R back)) :
  κ prog 30 #[Y.dp y.s i,.agg #[(C:Int),R,back]] W λe b=>∃ j:Option Addr,e=.returned (.tuple #[.pointer j,erV (y.eX (i:Int) back)]) /\
   (b.cell? ⟨c,i,none⟩=some (Y.dp y.s i:υ)/\b.cell? ⟨N,0,none⟩=some (.int .i64 (C:Int))/\b.cell? ⟨N,1,none⟩=some (R:υ)/\b.cell? ⟨N,2,none⟩=some (back:υ))/\(∃ v,b.cell? ⟨c,6+i,none⟩=some v)/\b.frozen? ⟨c,6+i,none⟩=false /\
   ((b.setCell ⟨c,6+i,none⟩ (.pointer j)).cell? ⟨c,i,none⟩=some (Y.dp y.s i:υ)/\(b.setCell ⟨c,6+i,none⟩ (.pointer j)).cell? ⟨N,0,none⟩=some (.int .i64 (C:Int))/\(b.setCell ⟨c,6+i,none⟩ (.pointer j)).cell? ⟨N,1,none⟩=some (R:υ)/\(b.setCell ⟨c,6+i,none⟩ (.pointer j)).cell? ⟨N,2,none⟩=some (back:υ)) /\
   au c Y y (y.blank (i:Int) back) w (b.setCell ⟨c,6+i,none⟩ (.pointer j)):=by
 have f:=h.below t;obtain⟨d1,q,H⟩:=f.kP g;have a2:=h.blk.lt;have Z:¬(Y.hd y.s i).fp N:=λe=>by have:=h.fF (.inr (.inl ⟨i,g,H N e⟩));omega
 have J  := λe=>f.kH.1 i g (H c e)
 have T:y.head (i:Int) back=⟨(C:Int),R,back⟩:=by
  unfold YV.head;rw[M.ch.gZ,show((i:Int)).toNat=i by omega,hR]
 have P:((i:Int)).toNat=i:=by omega
 have hF:y.eX (i:Int) back=crF (y.dev i) ⟨(C:Int),R,back⟩:=by
  unfold YV.eX;rw[if_pos ⟨by omega,by omega⟩,if_neg S,T,P]
 have hV:y.blank (i:Int) back=if crF (y.dev i) ⟨(C:Int),R,back⟩=0 then {y with s:=y.s.upd i (crV (y.dev i) ⟨(C:Int),R,back⟩)} else {y with s:=y.s.gone i,dv:=λk=>if k=i then iQ (y.dev i) ⟨(C:Int),R,back⟩ else y.dv k}:=by
  unfold YV.blank;rw[if_pos ⟨by omega,by omega⟩,if_neg S,T,P]
 have O:∀(b:ω) (l:υ),b.heap[c]?=W.heap[c]?->b.heap[N]?=W.heap[N]? ->
   (b.cell? ⟨c,i,none⟩=some (Y.dp y.s i:υ)/\b.cell? ⟨N,0,none⟩=some (.int .i64 (C:Int))/\b.cell? ⟨N,1,none⟩=some (R:υ)/\b.cell? ⟨N,2,none⟩=some (back:υ))/\(∃ v,b.cell? ⟨c,6+i,none⟩=some v)/\b.frozen? ⟨c,6+i,none⟩=false /\
   ((b.setCell ⟨c,6+i,none⟩ l).cell? ⟨c,i,none⟩=some (Y.dp y.s i:υ)/\(b.setCell ⟨c,6+i,none⟩ l).cell? ⟨N,0,none⟩=some (.int .i64 (C:Int))/\(b.setCell ⟨c,6+i,none⟩ l).cell? ⟨N,1,none⟩=some (R:υ)/\(b.setCell ⟨c,6+i,none⟩ l).cell? ⟨N,2,none⟩=some (back:υ)):=λb l F e2=>by
  obtain⟨c0,_,c6,_,_,fz⟩:=f.blk.cells;have V:=(jad (a:=⟨c,i,none⟩) F).trans (c0 i g);have a6:=(jad (a:=⟨c,6+i,none⟩) F).trans (c6 i g);have af:=(jaH (a:=⟨c,6+i,none⟩) F).trans (fz (6+i));obtain⟨K,I,Q,_⟩:=sS (e2.trans A);have r:∀ k,(⟨c,6+i,none⟩:Addr)≠⟨N,k,none⟩:=λk e=>by simp_all
  refine⟨⟨V,K,I,Q⟩,⟨_,a6⟩,af,?_,?_,?_,?_⟩
  .rw[jah _ _ _ _ (by simp_all)];exact V
  .rw[jah _ _ _ _ (r 0)];exact K
  .rw[jah _ _ _ _ (r 1)];exact I
  .rw[jah _ _ _ _ (r 2)];exact Q
 rw[<- q,hF];refine(DX (C:Int) R _ W d1.nG (M.dev i) hm (ja1 _)).mono ?_;rintro e b ⟨x,U,_,a1,B|B⟩
 .obtain⟨n,rfl,L,_,_⟩:=B
  have d  := nH a1 (λ_ e=>e.1) L.out
  obtain⟨u,D⟩:=f.made g d (L.re λ_ _ e=>e) U
  obtain⟨o,E,z,G⟩:=O b _ (d.block f.blk.lt J) (d.block (lt_of_some A) Z);rw[q];refine⟨some _,by rw[n,aN],o,E,z,G,?_⟩
  rw[hV,if_pos n];exact⟨{Y with xs:=mD _ i x},rfl,u,(Moved.of_below t).trans D⟩
 .obtain⟨n,rfl,X⟩:=B
  have d  := nH a1 (λ_ e=>e.1) X.out
  obtain⟨u,D⟩:=f.yY g d X.noG U;obtain⟨o,E,z,G⟩:=O b _ (d.block f.blk.lt J) (d.block (lt_of_some A) Z);rw[q];refine⟨none,rfl,o,E,z,G,?_⟩;rw[hV,if_neg n];exact⟨{Y with ds:=fG _ i _},rfl,u,(Moved.of_below t).trans D⟩
def VZ{f C m i:Nat}{Y:Yh}{y:YV}(back:Int)(w:ω)(h:aB w f Y y)(O:YOk y C m)(hC:1<=C/\C<=32)(K:i<5)(hu:y.used (i:Int)≠true)(hm:m+20<1000000000) :
    κ prog 121 #[f,(i:Int),back] w λe n=>e=.returned (erV (y.eX (i:Int) back))/\au f Y y (y.blank (i:Int) back) w n:=by
  have HU:=ah (Jp (i:Int) w h O);rw[show y.used (i:Int)=false by simpa using hu] at HU
  obtain⟨v,hv,hc⟩:=O.ch.root;obtain⟨r0,r5,D⟩:=SV.dS hv;obtain⟨k,hk⟩:∃ k:Nat,y.kd.root=(k:Int):=⟨y.kd.root.toNat,by omega⟩
  rw[hk] at D r5 r0;have aa:((k:Int)).toNat=k:=by omega
  rw[aa] at D
  have P:Hid (∀ W:ω,β w w W->W.cell? ⟨f,11,none⟩=some (.int .i64 (k:Int))/\W.cell? ⟨f,6+k,none⟩=some ((Y.xs k).p:υ)):=λW d=>by
    obtain⟨q0,_,q6,af,_,_⟩:=(h.below d).blk.cells;have:=q6 k (by omega)
    rw[D] at this;exact⟨by rw[<- hk];exact af,this⟩
  have z:=ah λW (d:β w w W)=>(h.below d).blk.cells.1 i K
  have B:Hid (∀ W:ω,β w w W->κ prog 95 #[(Y.xs k).p] W λe n=>e=.returned (.agg #[(C:Int),v.h.p,v.h.b])/\β w w n/\β W W n):=λW d=>(qo W ((h.img k v (by omega) D).below d)).mono λe n ⟨h1,T⟩=>⟨by rw[h1,hc],d.trans (T.mono d.size),T⟩
  have J:Hid (∀ W:ω,β w w W->κ prog 189 #[Y.dp y.s i,(C:Int)] W λe n=>e=.returned (nO (y.dev i).fl.length (C:Int))/\β W W n):=λW d=>by
    obtain⟨d1,d2,_⟩:=(h.below d).kP K;rw[<- d2];exact Ws W d1 hC
  have u:=ah λW N (d:β w w W) (A:w.heap.size<=N) (I:W.heap[N]?=some (bx (C:Int) (nO (y.dev i).fl.length (C:Int)) back))=>h.creates (back:=back) O K hm hu rfl d A I
  have a2:Hid (∀(a:ω) (R:Int),β w w a->∀ w4:ω,β (a.alloc (bx (C:Int) v.h.p back)).heap.size (a.alloc (bx (C:Int) v.h.p back)) w4->w4.heap[a.heap.size]?=some (bx (C:Int) v.h.p back)/\(w4.setCell ⟨a,1,none⟩ R).heap[a.heap.size]?=some (bx (C:Int) R back)/\β w w (w4.setCell ⟨a,1,none⟩ R)):=λa R d w4 j=>by
    have g:w4.heap[a.heap.size]?=some (bx (C:Int) v.h.p back):=(j.block _ (by simp)).trans (heap_alloc_new a _)
    refine⟨g,?_,((d.alloc d.size _).trans (j.mono (by simp;have:=d.size;omega))).setCell d.size _⟩
    unfold bx at g;rw[heap_setCell_same _ _ _ _ _ _ g];rfl
  generalize erV (y.eX (i:Int) back)=E at u |-;generalize nO (y.dev i).fl.length (C:Int)=R at J u;generalize Y.dp y.s i=dp at z J u;generalize (Y.xs k).p=xp at P B;generalize v.h.p=t at B a2;generalize v.h.b=M at B;have g0:decide ((i:Int)<0)=false:=decide_eq_false (by omega)
  have g5:decide (5<=(i:Int))=false:=decide_eq_false (by omega)
  have i0:(0:Int)<=(i:Int):=by omega
  have i5:(i:Int)<5:=by omega
  have i2:((i:Int)).toNat=i:=by omega
  unfold bx at a2 u;go_enter func121,ntmps121
  go_wp2_with fail
  refine cHd HU.out λc F=>?_
  go_upto_region 5 with fail
  have a5:Hid (β w w c.drew):=F.out.drew;have X:Hid (β w w (c.alloc (.cells #[(0:Int),(0:Int),(0:Int)] 67)).drew):=(F.out.alloc F.out.size _).drew;obtain⟨an,d6⟩:=P.out _ a5.out;obtain⟨aE,a6⟩:=P.out _ X.out;have ad:c.heap.size<(c.alloc (.cells #[(0:Int),(0:Int),(0:Int)] 67)).drew.heap.size:=by show c.heap.size<(c.alloc _).heap.size;simp
  have ai:Hid ((c.alloc (.cells #[(0:Int),(0:Int),(0:Int)] 67)).drew.heap[c.heap.size]?=some (.cells #[(0:Int),(0:Int),(0:Int)] 67 (0,0))):=heap_alloc_new c _;have G:Hid (w.heap.size<=c.heap.size):=F.out.size;go_cut [7] from 20 (λhv wx=>∃ N:Nat,hv=.pointer (some ⟨N,0,none⟩)/\w.heap.size<=N/\wx.heap[N]?=some (bx (C:Int) t M)/\β w w wx)
  case first =>
    go_region_with (first
      | (go_at_call 95;refine(B.out _ (by first|exact a5.out|exact X.out)).mono ?_;rintro e a ⟨rfl,a8,a0⟩;have o:=ah a8;(try have l:a.heap[c.heap.size]?=some (.cells #[(0:Int),(0:Int),(0:Int)] 67 (0,0)):=(a0.block _ ad).trans ai.out);(try have aw:a.cell? ⟨c,0,none⟩=some (.int .i64 0):=by rw[cell_of_row _ _ _ _ _ _ l];rfl);(try have aq:a.cell? ⟨c,1,none⟩=some (.int .i64 0):=by rw[cell_of_row _ _ _ _ _ _ l];rfl);(try have al:a.cell? ⟨c,2,none⟩=some (.int .i64 0):=by rw[cell_of_row _ _ _ _ _ _ l];rfl);(try have az:=frozen_of_row a c.heap.size 0 _ _ l);(try have aM:=frozen_of_row a c.heap.size 1 _ _ l);(try have ao:=frozen_of_row a c.heap.size 2 _ _ l);clear a8 a0))
    all_goals
      go_wp2_with fail
      go_meet
      case rel =>
        first
          | exact⟨_,rfl,o.out.size,heap_alloc_new a _,o.out.alloc o.out.size _⟩
          | exact⟨_,rfl,o.out.size,heap_alloc_new a _,(o.out.alloc o.out.size _).drew⟩
          | exact⟨_,rfl,G.out,by
              unfold bx
              rw[heap_setCell_same _ _ _ _ _ _ (heap_setCell_same _ _ _ _ _ _ (heap_setCell_same _ _ _ _ _ _ l))];rfl,((o.out.setCell G.out _).setCell G.out _).setCell G.out _⟩
  case rest =>
    obtain⟨N,rfl,A,I,ab⟩:=hcut;have U:wc.heap[N]?=some (.cells #[(C:Int),t,M] 67 (0,0)):=I;have x2:wc.cell? ⟨N,2,none⟩=some (M:υ):=(sS I).2.2.1;have f2:=frozen_of_row wc N 2 _ _ U;have V:Hid ((wc.setCell ⟨N,2,none⟩ back).heap[N]?=some (bx (C:Int) t back)):=by unfold Hid;rw[heap_setCell_same _ _ _ _ _ _ U];rfl
    have Z:Hid (β w w (wc.setCell ⟨N,2,none⟩ back)):=ab.setCell A _;go_upto_region 7 with fail
    generalize ar:wc.setCell ⟨N,2,none⟩ back=r at V Z |-;have H:Hid (β w w r.drew):=Z.out.drew;have Q:Hid (r.drew.heap[N]?=some (bx (C:Int) t back)):=V.out;obtain⟨y0,y1,y2,yf⟩:=sS Q.out;have ae:Hid (r.drew.cell? ⟨f,i,none⟩=some (dp:υ)/\r.drew.cell? ⟨N,0,none⟩=some (.int .i64 (C:Int))):=⟨z.out _ H.out,y0⟩
    have ac:Hid (∀ w4:ω,β r.drew.heap.size r.drew w4->w4.heap[N]?=some (bx (C:Int) t back)/\β w w w4/\(w4.setCell ⟨N,1,none⟩ R).heap[N]?=some (bx (C:Int) R back)/\β w w (w4.setCell ⟨N,1,none⟩ R)):=λw4 j=>by
      have g:w4.heap[N]?=some (bx (C:Int) t back):=(j.block _ (lt_of_some Q.out)).trans Q.out;have x:=H.out.trans (j.mono H.out.size);refine⟨g,x,?_,x.setCell A _⟩;unfold bx at g;rw[heap_setCell_same _ _ _ _ _ _ g];rfl
    go_region_held3 (λW=>W.cell? ⟨f,i,none⟩=some (dp:υ)/\W.cell? ⟨N,0,none⟩=some (.int .i64 (C:Int)))
      (first|(exact ae.out)|assumption)
      (first
        | (go_at_call 189;refine cEq (J.out _ H.out) λw4 j=>?_;obtain⟨g,x,S,L⟩:=ac.out w4 j;obtain⟨t0,t1,t2,tf⟩:=sS g;have av:w4.cell? ⟨f,i,none⟩=some (dp:υ)/\w4.cell? ⟨N,0,none⟩=some (.int .i64 (C:Int)):=⟨z.out _ x,t0⟩;have ap:(w4.setCell ⟨N,1,none⟩ R).cell? ⟨f,i,none⟩=some (dp:υ)/\(w4.setCell ⟨N,1,none⟩ R).cell? ⟨N,0,none⟩=some (.int .i64 (C:Int)):=⟨z.out _ L,(sS S).1⟩;have a1:=ah S;have a4:=ah L;clear g x S L j))
    go_upto_region 9 with fail
    generalize am:w4.setCell ⟨N,1,none⟩ R=q at a1 a4 |-;have a7:Hid (β w w q.drew):=a4.out.drew;have a9:Hid (q.drew.heap[N]?=some (bx (C:Int) R back)):=a1.out;obtain⟨y0,y1,y2,yf⟩:=sS a9.out;have ag:Hid (q.drew.cell? ⟨f,i,none⟩=some (dp:υ)/\q.drew.cell? ⟨N,0,none⟩=some (.int .i64 (C:Int))/\q.drew.cell? ⟨N,1,none⟩=some (R:υ)/\q.drew.cell? ⟨N,2,none⟩=some (back:υ)):=⟨z.out _ a7.out,y0,y1,y2⟩;have HC:=ah (u.out q.drew N a7.out A a9.out)
    go_region_held3 (λW=>W.cell? ⟨f,i,none⟩=some (dp:υ)/\W.cell? ⟨N,0,none⟩=some (.int .i64 (C:Int))/\W.cell? ⟨N,1,none⟩=some (R:υ)/\W.cell? ⟨N,2,none⟩=some (back:υ))
      (first|(exact ag.out)|assumption)
      (first
        | (go_at_call 30;refine HC.out.mono ?_;rintro e w6 ⟨po,rfl,aD,⟨v6,q6⟩,aL,ax,a3⟩;have HD:=ah a3;clear a3))
    go_wp2
    go_ret
    exact⟨rfl,HD.out⟩
def Jg{b C m:Nat}{Y:Yh}{y:YV}(f back:Int)(w:ω)(h:aB w b Y y)(l:YOk y C m)(n:1<=C/\C<=32)(s:m+20<1000000000) :
  κ prog 121 #[b,f,back] w λe o=>e=.returned (erV (y.eX f back))/\au b Y y (y.blank f back) w o:=by
 by_cases a:0<=f/\f<5
 .obtain⟨i,rfl⟩:∃ i:Nat,f=(i:Int):=⟨f.toNat,by omega⟩
  by_cases c:y.used (i:Int)=true
  .have d:y.eX (i:Int) back=5:=by unfold YV.eX;rw[if_pos a,if_pos c]
   have g:y.blank (i:Int) back=y:=by unfold YV.blank;rw[if_pos a,if_pos c]
   have j:=ah (Jp (i:Int) w h l);rw[c] at j;have r:=ah λW (q:β w w W)=>au.below h q
   rw[d,g,bJ (by decide)]
   have t:decide (5<=(i:Int))=false:=decide_eq_false (by omega)
   go_enter func121,ntmps121
   go_wp2_with fail
   refine cEq j.out λv u=>?_
   go_wp2
   go_ret
   exact⟨rfl,(r.out _ u)⟩
  .exact VZ back w h l n (by omega) c s
 .have d:y.eX f back=1:=by unfold YV.eX;rw[if_neg a]
  have g:y.blank f back=y:=by unfold YV.blank;rw[if_neg a]
  have k:Hid (au b Y y y w w):=au.refl h;rw[d,g,eu];by_cases x:f<0
  .go_enter func121,ntmps121
   go_wp2
   go_ret
   exact⟨rfl,k.out⟩
  .have t  := decide_eq_true (by omega)
   go_enter func121,ntmps121
   go_wp2
   go_ret
   exact⟨rfl,k.out⟩
def VT{a C m:Nat}{Y:Yh}{y:YV}(f:Int)(w:ω)(h:aB w a Y y)(i:YOk y C m)(c:1<=C/\C<=32)(b:m+20<1000000000) :
  κ prog 47 #[a,f] w λe d=>e=.returned (erV (y.eX f (-1)))/\au a Y y (y.blank f (-1)) w d:=by
 go_enter func47,ntmps47
 go_wp2_with fail
 refine cHd (Jg f (-1) w h i c b) λj g=>?_
 go_wp2
 go_ret
 exact⟨rfl,g.out⟩
def Wx{d C m:Nat}{Y:Yh}{y:YV}(f:Int)(w:ω)(h:aB w d Y y)(t:YOk y C m)(V:1<=C/\C<=32)(R:m+20<1000000000) :
  κ prog 49 #[d,f] w λe b=>e=.returned (erV (y.jP f))/\au d Y y (y.snap f) w b:=by
 have i:=ah (oO w h);have B:Hid (∀ W:ω,β w w W->au d Y y y w W):=λW a=>au.below h a
 by_cases a:y.busy=true
 .rw[qj a] at i
  have u:y.jP f=8:=by unfold YV.jP;rw[if_pos a]
  have D:y.snap f=y:=by unfold YV.snap;rw[if_pos (.inl a)]
  have v:=ah (B.out w (ja0 _ _));rw[u,D,bJ (by decide)]
  clear h t a u D B;go_enter func49,ntmps49
  go_wp2_with fail
  refine i.out.mono ?_;rintro e b ⟨rfl,c⟩;have r:=c.symm;subst r;clear c i;go_wp2
  go_ret
  exact⟨rfl,v.out⟩
 .rw[qh a] at i
  have q:=ah (sH w h t);by_cases j:y.l.length=4
  .have u:y.jP f=6:=by unfold YV.jP;rw[if_neg a,if_pos j]
   have D:y.snap f=y:=by unfold YV.snap;rw[if_pos (.inr j)]
   rw[u,D,bJ (by decide)]
   have G:((y.l.length:Int)==4)=true:=by rw[j];rfl
   clear h t a u D j;generalize y.l.length=ln at q G;go_enter func49,ntmps49
   go_wp2_with fail
   refine i.out.mono ?_;rintro e b ⟨rfl,c⟩;have r:=c.symm;subst r;clear c i;go_wp2_with fail
   refine q.out.mono ?_;rintro e M ⟨g,o,cap,rfl,_,_,_,_,k⟩;have v:=ah (B.out _ k);clear k q;go_wp2
   go_ret
   exact⟨rfl,v.out⟩
  .have G:((y.l.length:Int)==4)=false:=by simpa using (show ¬(y.l.length:Int)=4 by omega)
   have H:Hid (∀ W:ω,β w w W->W.cell? ⟨d,11,none⟩=some (y.kd.root:υ)):=λW a=>(h.below a).blk.cells.2.2.2.1
   have s:Hid (∀ W:ω,β w w W->κ prog 121 #[d,f,y.kd.root] W λe b=>e=.returned (erV (y.eX f y.kd.root))/\au d Y y (y.blank f y.kd.root) w b):=λW a=>(Jg f y.kd.root W (h.below a) t V R).mono λe b ⟨K,X⟩=>⟨K,au.from a X⟩
   have I:y.jP f=if y.eX f y.kd.root=0 then (y.blank f y.kd.root).aJ else y.eX f y.kd.root:=by unfold YV.jP;rw[if_neg a,if_neg j]
   have F:y.snap f=if y.eX f y.kd.root=0 then (if (y.blank f y.kd.root).aJ=0 then {(y.blank f y.kd.root).aA (aj f) with l:=f::y.l} else (y.blank f y.kd.root).aA (aj f)) else y.blank f y.kd.root:=by unfold YV.snap;rw[if_neg (by rintro(e|e);exact a e;exact j e)]
   by_cases n:y.eX f y.kd.root=0
   .obtain⟨Z,f5,_,_,_⟩:=zC n
    have O:=(t.blank f y.kd.root R).top;have L:Hid (∀ W:ω,κ prog 32 #[f] W λe b=>e=.returned (.agg #[.int .i64 (aj f).root,.int .i64 (aj f).kind,.int .i64 (aj f).file,.int .i64 (aj f).rate,.int .i64 (aj f).burst])/\β W W b):=λW=>vZ f W
    have J:Hid (∀ W x:ω,au d Y y (y.blank f y.kd.root) w W->β W W x->κ prog 31 #[d,.agg #[.int .i64 (aj f).root,.int .i64 (aj f).kind,.int .i64 (aj f).file,.int .i64 (aj f).rate,.int .i64 (aj f).burst]] x λe b=>e=.returned (erV (y.jP f))/\au d Y y (y.snap f) w b):=λW x hd a=>by
     obtain⟨Y1,u,K,h3⟩:=hd;refine(uF (aj f) x (K.below a) O (kX Z (by omega)) (by omega)).mono ?_
     rintro e b ⟨rfl,j⟩;refine⟨by rw[I,if_pos n],?_⟩
     have P:=au.trans u h3 (au.from a j);rw[F,if_pos n];split
     .exact P.re rfl rfl rfl rfl rfl
     .exact P
    rw[n,aN] at s;clear h t a j I F n B O;generalize erV (y.jP f)=E at J |-;generalize y.l.length=ln at q G;go_enter func49,ntmps49
    go_wp2_with fail
    refine i.out.mono ?_;rintro e b ⟨rfl,c⟩;have r:=c.symm;subst r;clear c i;go_wp2_with fail
    refine q.out.mono ?_;rintro e M ⟨g,o,cap,rfl,_,_,_,_,k⟩;have a0:=H.out _ k;have A:=ah (s.out _ k);clear k q s H;go_wp2_with fail
    refine A.out.mono ?_;rintro e T ⟨rfl,z⟩;have N:=ah (λx a=>J.out T x z a)
    clear z A J;go_wp2_with fail
    refine(L.out _).mono ?_;rintro e w3 ⟨rfl,U⟩;have Q:=ah (N.out _ U);clear U N L;go_wp2_with fail
    refine Q.out.mono ?_;rintro e w4 ⟨rfl,S⟩;have v:=ah S;clear S Q;go_wp2
    go_ret
    exact⟨rfl,v.out⟩
   .rw[I,F,if_neg n,if_neg n]
    rw[bJ n] at s |-;clear h t a j I F B;generalize y.eX f y.kd.root=bf at s n |-;generalize y.l.length=ln at q G;go_enter func49,ntmps49
    go_wp2_with fail
    refine i.out.mono ?_;rintro e b ⟨rfl,c⟩;have r:=c.symm;subst r;clear c i;go_wp2_with fail
    refine q.out.mono ?_;rintro e M ⟨g,o,cap,rfl,_,_,_,_,k⟩;have a0:=H.out _ k;have A:=ah (s.out _ k);clear k q s H;go_wp2_with fail
    refine A.out.mono ?_;rintro e T ⟨rfl,z⟩;have v:=ah z;clear z A;go_wp2
    go_ret
    exact⟨rfl,v.out⟩
def mQ(c p b:Int):Obj:=.cells #[c,p,b] 67 (0,0)
def CU:Obj:=.cells #[.pointer O,.pointer O,.pointer O,.pointer O,.pointer O,.pointer O,.pointer O,.pointer O,.pointer O,.pointer O,.pointer O,(0:Int),.pointer O] 74 (0,0)
def iO.start(w:ω)(D:DV):iO (w.alloc CU) w.heap.size 0 (λ_=>⟨0,0,0,0,0,.nilIface⟩) D (.pointer O):=by
 refine⟨⟨_,heap_alloc_new w _,rfl,λi a=>(by omega),rfl,λi a=>?_,rfl,rfl⟩,λi a=>(by omega),λi a=>(by omega),λi _ a=>(by omega)⟩
 match i,a with
 | 0,_=>rfl
 | 1,_=>rfl
 | 2,_=>rfl
 | 3,_=>rfl
 | 4,_=>rfl
structure Making(w:ω)(c p:Int)(yp k:Nat)(tv:υ)(wr:ω):Prop where
 dM:∃ hs,iO wr yp k hs (ig (aQ (newH c p))) tv
 yp:w.heap.size<yp
 box:wr.heap[w.heap.size]?=S (mQ c p (-1))
 bel:β w w wr
def Making.boxes{w wr:ω}{c p:Int}{a k:Nat}{b:υ}(h:Making w c p a k b wr):wr.cell? ⟨w,0,O⟩=S (c:υ)/\wr.cell? ⟨w,1,O⟩=S (p:υ)/\wr.cell? ⟨w,2,O⟩=S (.int .i64 (-1)):=by
 refine⟨?_,?_,?_⟩<;>(rw[cell_of_row _ _ _ _ _ _ h.box];rfl)
theorem Making.below{w wr d:ω}{c p:Int}{f k:Nat}{b:υ}(h:Making w c p f k b wr)(a:β wr wr d):Making w c p f k b d:=by
 obtain⟨i,g⟩:=h.dM;exact⟨⟨i,g.below a⟩,h.yp,(a.block _ (lt_of_some h.box)).trans h.box,h.bel.trans (a.mono h.bel.size)⟩
structure sQ(w:ω)(c p:Int)(yp:Nat)(wr:ω):Prop where
 dM:∃(hs:Nat->Hd) (t:Hd),iO wr yp 5 hs (ig (aQ (newH c p))) (.pointer (S ⟨t.p,0,O⟩))/\bQ Gd.no wr t (ig 1)/\(∀ b,t.fp b->yp<b)/\∀ i,i<5->∀ b,t.fp b->¬(hs i).fp b
 yp:w.heap.size<yp
 box:wr.heap[w.heap.size]?=S (mQ c p (-1))
 bel:β w w wr
def Making.top{w W g:ω}{c p:Int}{a:Nat}(h:Making w c p a 5 (.pointer O) W)(k:β W W g){t:Hd}(f:aO W.heap.size g t (ig 1)):sQ w c p a (g.setCell ⟨a,5,O⟩ t.p):=by
 obtain⟨m,j⟩:=h.dM;have q:=h.yp;have s:=j.lt;have l:=h.below k;refine⟨⟨m,t,j.pK k,⟨f.base0.keep λb d=>heap_setCell_other _ _ _ _ (λe=>by have:=(f.lt b d).1;have r:b=a:=e;omega),λ_ _ e=>e⟩,λb d=>by have:=(f.lt b d).1;omega,λi n b d o=>?_⟩,h.yp,?_,l.bel.setCell (by show w.heap.size<=a;omega) _⟩
 .have u:=(f.lt b d).1
  have q2:=((j.dev i n).lt b o).2;omega
 .rw[heap_setCell_other _ _ _ _ (by show w.heap.size≠a;omega)];exact l.box
def O8(n:Nat):(ig n).aU=0:=by rfl
def sQ.create{w W:ω}{c p:Int}{a:Nat}(F:(newH c p).ok=true)(L:aQ (newH c p)<=200)(h:sQ w c p a W):∃ dp:Nat,W.cell? ⟨a,11,none⟩=S (.int .i64 0)/\W.cell? ⟨a,0,none⟩=S (dp:υ) /\
  ∀ o:ω,β W W o->κ prog 30 #[dp,.agg #[c,p,(-1:Int)]] o λe d=>∃ xp:Nat,e=.returned (.tuple #[xp,.nilIface]) /\
   (d.cell? ⟨a,11,none⟩=S (.int .i64 0)/\d.cell? ⟨a,0,none⟩=S (dp:υ)/\d.cell? ⟨w,0,none⟩=S (c:υ)/\d.cell? ⟨w,1,none⟩=S (p:υ)/\d.cell? ⟨w,2,none⟩=S (.int .i64 (-1)))/\(∃ v,d.cell? ⟨a,6,none⟩=S v)/\d.frozen? ⟨a,6,none⟩=false /\
   ((d.setCell ⟨a,6,none⟩ xp).cell? ⟨a,11,none⟩=S (.int .i64 0)/\(d.setCell ⟨a,6,none⟩ xp).cell? ⟨a,0,none⟩=S (dp:υ)/\(d.setCell ⟨a,6,none⟩ xp).cell? ⟨w,0,none⟩=S (c:υ)/\(d.setCell ⟨a,6,none⟩ xp).cell? ⟨w,1,none⟩=S (p:υ)/\(d.setCell ⟨a,6,none⟩ xp).cell? ⟨w,2,none⟩=S (.int .i64 (-1))) /\
   ∃ Y:Yh,aB (d.setCell ⟨a,6,none⟩ xp) a Y (mY c p)/\(∀ b,fpY a Y (mY c p) b->w.heap.size<=b)/\β w w (d.setCell ⟨a,6,none⟩ xp):=by
 obtain⟨J,t,l,u,C,N⟩:=h.dM;have P:=h.yp;refine⟨(J 0).p,l.root,l.D9 (by omega),λo g=>?_⟩
 have f:=l.below g;refine(DX c p (-1) o (f.dev 0 (by omega)).nG (tZ  (by unfold aQ dw;omega) L) (by omega) (ja1 _)).mono ?_
 rintro e d ⟨x,M,_,O,r|r⟩
 .obtain⟨_,rfl,m,_,_⟩:=r
  have n  := nH O (λ_ e=>e.1) m.out
  have k  := n.block f.lt (λe=>by have:=f.past 0 (by omega) a e;omega)
  have G:d.heap[w.heap.size]?=S (mQ c p (-1)):=by rw[n.block (by have:=f.lt;omega) (λe=>by have:=f.past 0 (by omega) _ e;omega),g.block _ (lt_of_some h.box)];exact h.box
  obtain⟨⟨v,H⟩,q2⟩:=f.cell 6 (by omega)
  obtain⟨I,s⟩:=f.dM (u.keep λb s=>g.block b (u.lt b s).2) C N n (m.re λ_ _ e=>e) M
  have j:=G;unfold mQ at j;have E:=(jad k).trans f.root;have A:=(jad k).trans (f.D9 (show 0<5 by omega))
  have D:d.cell? ⟨w,0,none⟩=S (c:υ):=by rw[cell_of_row _ _ _ _ _ _ j];rfl
  have z:d.cell? ⟨w,1,none⟩=S (p:υ):=by rw[cell_of_row _ _ _ _ _ _ j];rfl
  have y:d.cell? ⟨w,2,none⟩=S (.int .i64 (-1)):=by rw[cell_of_row _ _ _ _ _ _ j];rfl
  have q:∀ i,(⟨a,6,none⟩:Addr)≠⟨w.heap.size,i,none⟩:=λi e=>by injection e;omega
  refine⟨x.p,rfl,⟨E,A,D,z,y⟩,⟨v,(jad k).trans H⟩,(jaH k).trans q2,⟨?_,?_,?_,?_,?_⟩,_,I,λb K=>?_,?_⟩
  .rw[jah _ _ _ _ (by intro e;injection e with _ e;omega)];exact E
  .rw[jah _ _ _ _ (by intro e;injection e with _ e;omega)];exact A
  .rw[jah _ _ _ _ (q 0)];exact D
  .rw[jah _ _ _ _ (q 1)];exact z
  .rw[jah _ _ _ _ (q 2)];exact y
  .rcases s b K with e|⟨i,m,e⟩|e|e
   .omega
   .have:=l.past i m b e;omega
   .have:=C b e;omega
   .have:=h.bel.size;have:=g.size;omega
  .have B:=h.bel.trans (g.mono h.bel.size)
   exact(B.trans (n.below B.size λb e=>by have:=f.past 0 (by omega) b e;omega)).setCell (by show w.heap.size<=a;omega) _
 .exact absurd (FH F (ja1 _)) r.1
def Jl(c p:Int)(w:ω)(u:(newH c p).ok=true)(P:aQ (newH c p)<=200) :
    κ prog 8 #[c,p] w λe f=>∃(a:Nat) (Y:Yh),e=.returned (.tuple #[a,.nilIface])/\aB f a Y (lG c p)/\(∀ b,fpY a Y (lG c p) b->w.heap.size<=b)/\β w w f:=by
  have y:Hid (β w w (w.alloc (mQ c p (-1)))):=(ja0 _ _).alloc (ja1 _) _
  have B:Hid (κ prog 27 #[.agg #[c,p,(-1:Int)]] (w.alloc (mQ c p (-1))) λe f=>e=.returned .nilIface/\∀ N,N=f.heap.size->Making w c p N 0 (.pointer none) (f.alloc CU)):=by
    have:=oW c p (-1) (w.alloc (mQ c p (-1)))
    rw[show HV.fault ⟨c,p,-1⟩=0 by unfold HV.fault;rw[show HV.ok ⟨c,p,-1⟩=true from u];rfl,aN] at this
    refine this.mono ?_;rintro e f ⟨rfl,g⟩;refine⟨rfl,λN hN=>?_⟩
    subst hN;have I:w.heap.size<f.heap.size:=by have:=g.size;simp at this;omega
    exact⟨⟨_,iO.start f _⟩,I,(jam f _ _ I).trans ((g.block _ (by simp)).trans (heap_alloc_new w _)),(y.out.trans (g.mono y.out.size)).alloc (jaW I) _⟩
  have K:Hid (∀ W:ω,κ prog 29 #[.agg #[c,p,(-1:Int)]] W λe f=>e=.returned (aQ (newH c p):Int)/\β W W f):=λW=>uU c p (-1) W u
  have Q:1<=aQ (newH c p):=by unfold aQ dw;omega
  have L:Hid (∀(k a:Nat) (W:ω),k<5->Making w c p a k (.pointer none) W->κ prog 28 #[(aQ (newH c p):Int)] W λe f=>∃ dp:Nat,e=.returned (.tuple #[dp,.nilIface])/\(∃ v,f.cell? ⟨a,k,none⟩=some v)/\f.frozen? ⟨a,k,none⟩=false/\(f.cell? ⟨w,0,none⟩=some (c:υ)/\f.cell? ⟨w,1,none⟩=some (p:υ)/\f.cell? ⟨w,2,none⟩=some (.int .i64 (-1)))/\Making w c p a (k+1) (.pointer none) (f.setCell ⟨a,k,none⟩ dp)):=λk a W ac j=>by
    obtain⟨hs,D⟩:=j.dM;refine(FQ (aQ (newH c p)) W Q P).mono ?_;rintro e f ⟨d,rfl,hd,g⟩;obtain⟨⟨v,q⟩,q2⟩:=(D.below g).cell k (by omega)
    have J:=j.below g;have a2:=j.yp;refine⟨d.p,rfl,⟨v,q⟩,q2,J.boxes,⟨_,D.step ac g (ja1 _) hd⟩,j.yp,?_,J.bel.setCell (by show w.heap.size<=a;omega) _⟩
    rw[heap_setCell_other _ _ _ _ (by show w.heap.size≠a;omega)];exact J.box
  have a7:Hid (∀(a:Nat) (W:ω),Making w c p a 5 (.pointer none) W->κ prog 28 #[(1:Int)] W λe f=>∃ E:Nat,e=.returned (.tuple #[E,.nilIface])/\(∃ v,f.cell? ⟨a,5,none⟩=some v)/\f.frozen? ⟨a,5,none⟩=false/\sQ w c p a (f.setCell ⟨a,5,none⟩ E)):=λa W j=>by
    refine(FQ 1 W (by omega) (by omega)).mono ?_
    rintro e f ⟨t,rfl,ht,g⟩;obtain⟨hs,D⟩:=j.dM;obtain⟨⟨v,q⟩,q2⟩:=(D.below g).cell 5 (by omega)
    exact⟨t.p,rfl,⟨v,q⟩,q2,j.top g ht⟩
  have a9:Hid (∀(a:Nat) (W:ω),sQ w c p a W->_):=λa W r=>r.create u P
  have V:Hid (∀(a:Nat) (W:ω),sQ w c p a W->W.cell? ⟨w,0,none⟩=some (c:υ)/\W.cell? ⟨w,1,none⟩=some (p:υ)/\W.cell? ⟨w,2,none⟩=some (.int .i64 (-1))):=λa W r=>by
    have g:=r.box;unfold mQ at g;refine⟨?_,?_,?_⟩<;>(rw[cell_of_row _ _ _ _ _ _ g];rfl)
  have Z:Hid (∀(a:Nat) (Y:Yh) (W A:ω),aB W a Y (mY c p)->(∀ b,fpY a Y (mY c p) b->w.heap.size<=b)->β w w W->β W W A->κ prog 31 #[a,.agg #[.int .i64 (aj 0).root,.int .i64 (aj 0).kind,.int .i64 (aj 0).file,.int .i64 (aj 0).rate,.int .i64 (aj 0).burst]] A λe f=>e=.returned .nilIface/\∃ o,aB f a o (lG c p)/\(∀ b,fpY a o (lG c p) b->w.heap.size<=b)/\β w w f):=λa Y W A x hf g O=>by
    have:=uF (m:=0) (aj 0) A (x.below O) (tZ (n:=1) (by omega) (by omega)) (kX (by omega) (by omega)) (by omega)
    rw[show(mY c p).aJ=0 from O8 1,aN] at this
    refine this.mono ?_;rintro e f ⟨rfl,o,_,C,s⟩;refine⟨rfl,o,C,λb G=>?_,?_⟩
    . rcases s.new b G with e|e
      . exact hf b e
      . have:=g.size;have:=O.size;omega
    . have a3:=g.trans (O.mono g.size)
      exact a3.trans (s.below a3.size hf)
  have a0:Hid (∀ W:ω,κ prog 32 #[(0:Int)] W λe f=>e=.returned (.agg #[.int .i64 (aj 0).root,.int .i64 (aj 0).kind,.int .i64 (aj 0).file,.int .i64 (aj 0).rate,.int .i64 (aj 0).burst])/\β W W f):=λW=>vZ 0 W
  clear u P Q;generalize aQ (newH c p)=nn at K L;unfold mQ at y B;unfold CU at B;go_enter func8,ntmps8
  go_wp2_with fail
  refine B.out.mono ?_;rintro e w1 ⟨rfl,a4⟩;have z:=ah (a4 _ rfl);clear a4 B;go_wp2
  generalize a2:w1.heap.size=a at z |-;generalize aa:w1.alloc _=W2 at z |-;clear aa a2 y;go_loopw [9,21] (λe i wr=>e=.nilIface/\∃ k:Nat,k<=5/\i=.int .i64 (k:Int)/\Making w c p a k (.pointer none) wr) (λ_ i _=>5-(intOf i).toNat)
  case atStart=>exact⟨rfl,0,by omega,rfl,z.out⟩
  case round =>
    clear z;obtain⟨rfl,k,u,rfl,j⟩:=hrel;by_cases ae:k<5
    . have a5:Hid (Making w c p a k (.pointer none) wr.drew):=j.below (ja0 _ _).drew
      have ag:=ah a5.out.boxes;clear j;have k0:(0:Int)<=(k:Int):=by omega
      have k5:(k:Int)<5:=by omega
      have k2:((k:Int)).toNat=k:=by omega
      have k3:IntKind.i64.wrap ((k:Int)+1)=(k:Int)+1:=ja7 _ (by omega)
      go_wp2
      go_region_held3 (λW=>W.cell? ⟨w,0,none⟩=some (c:υ)/\W.cell? ⟨w,1,none⟩=some (p:υ)/\W.cell? ⟨w,2,none⟩=some (.int .i64 (-1)))
        (first|(exact ag.out)|assumption)
        (first
          | (go_at_call 29;refine(K.out _).mono ?_;rintro e w3 ⟨rfl,G⟩;have M:=a5.out.below G;have ao:=M.boxes;have af:=ah (L.out k a w3 ae M);clear G M)
          | (go_at_call 28;refine af.out.mono ?_;rintro e w4 ⟨dp,rfl,⟨v,q⟩,q2,aq,H⟩;have ab:=ah H;have ap:=H.boxes;clear H))
      go_wp2
      refine⟨⟨rfl,k+1,by omega,by simp,ab.out⟩,?_⟩
      simp only[intOf];omega
    . have am:k=5:=by omega
      subst am;have X:=ah (a7.out a wr j);clear j a7 L K;go_wp2_with fail
      refine X.out.mono ?_;rintro e w4 ⟨E,rfl,⟨v,q⟩,q2,r⟩;have F:=ah r;clear r X;go_upto_region 17 with fail
      generalize ad:w4.setCell ⟨a,5,none⟩ E=l at F |-;clear ad q q2;obtain⟨dp,al,r0,a6⟩:=a9.out a l F.out;obtain⟨x0,x1,x2⟩:=V.out a l F.out;have HC:=ah (a6 l.drew (ja0 _ _).drew);have an:Hid (l.drew.cell? ⟨a,11,none⟩=some (.int .i64 0)/\l.drew.cell? ⟨a,0,none⟩=some (dp:υ)/\l.drew.cell? ⟨w,0,none⟩=some (c:υ)/\l.drew.cell? ⟨w,1,none⟩=some (p:υ)/\l.drew.cell? ⟨w,2,none⟩=some (.int .i64 (-1))):=⟨al,r0,x0,x1,x2⟩;clear a6 a9 V F
      go_region_held3 (λW=>W.cell? ⟨a,11,none⟩=some (.int .i64 0)/\W.cell? ⟨a,0,none⟩=some (dp:υ)/\W.cell? ⟨w,0,none⟩=some (c:υ)/\W.cell? ⟨w,1,none⟩=some (p:υ)/\W.cell? ⟨w,2,none⟩=some (.int .i64 (-1)))
        (first|(exact an.out)|assumption)
        (first
          | (go_at_call 30;refine HC.out.mono ?_;rintro e w6 ⟨xp,rfl,av,⟨v6,q6⟩,ax,ar,Y,x,a8,R⟩;have S:=ah x;have HF:=ah a8;have a1:=ah R;have ai:(w6.setCell ⟨a,6,none⟩ xp).cell? ⟨a,11,none⟩=some (.int .i64 0):=x.blk.cells.2.2.2.1;clear x a8 R))
      go_upto_region 20 with fail
      generalize aw:w6.setCell ⟨a,6,none⟩ xp=W7 at S a1 ai |-;go_wp2_with fail
      refine(a0.out _).mono ?_;rintro e w8 ⟨rfl,U⟩;have HK:=ah (Z.out a Y _ w8 S.out HF.out a1.out U);clear U Z a0;go_wp2_with fail
      refine HK.out.mono ?_;rintro e w9 ⟨rfl,o,C,s,T⟩;have H1:=ah C;have H2:=ah s;have H3:=ah T;clear C s T HK;go_wp2
      go_ret2
      exact⟨a,o,rfl,H1.out,H2.out,H3.out⟩
