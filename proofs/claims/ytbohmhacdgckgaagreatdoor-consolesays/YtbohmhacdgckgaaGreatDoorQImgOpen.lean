/- A part. -/
import Derived.Test.YtbohmhacdgckgaaGreatDoorQImgKind
set_option linter.all false
set_option maxHeartbeats 2000000
set_option maxRecDepth 100000
namespace Go.Proofs.YtbohmhacdgckgaaGreatDoor
open Go.RowKit renaming Below->β, Hid->χ
open Go renaming World->ω, Value->υ, Calls->κ
open Option renaming none->O, some->S
open Go.Proofs.Tryz Go.RowKit Go.ChangeShapes Go.WideShapes Go.Shelf Go.Maps
attribute [local go_sem ↓] Go.wp_at_zero Go.wp_at_succ
abbrev SV:=Nat->Option IV
def SV.file(s:SV)(n:Int):Option IV:=if 0<=n/\n<5 then s n.toNat else O
def SV.upd(s:SV)(i:Nat)(v:IV):SV:=λj=>if j=i then S v else s j
def SV.ok(s:SV)(m:Nat):Prop:=∀ i v,s i=S v->v.ok m
def SV.eG{s:SV}{n v}(h:s.file n=S v):0<=n/\n<5/\s n.toNat=S v:=by
 unfold SV.file at h;simp_all
def SV.Bo{s:SV}{i:Nat}(h:i<5):s.file (i:Int)=s i:=by
 unfold SV.file;rw[if_pos ⟨by omega,by omega⟩];rfl
theorem SV.ok.more{s:SV}{m m'}(h:s.ok m)(a:m<=m'):s.ok m':=λi v e=>(h i v e).more a
theorem SV.ok.upd{s:SV}{m m'}(h:s.ok m)(a:m<=m'){i v}(b:v.ok m'):(s.upd i v).ok m':=by
 intro j u e;unfold SV.upd at e;split at e
 .simp_all
 .exact(h j u e).more a
def SV.Bv{s:SV}{n v u}(h:s.file n=S v)(k):(s.upd n.toNat u).file k=if k=n then S u else s.file k:=by
 obtain⟨c,b,_⟩:=SV.eG h;unfold SV.file SV.upd;by_cases a:0<=k/\k<5
 .rw[if_pos a];by_cases e:k=n
  .simp_all
  .rw[if_neg e,if_neg (by omega),if_pos a]
 .rw[if_neg a];have e:k≠n:=by omega
  rw[if_neg e,if_neg a]
def IV.Ag(v:IV)(c f s):(v.write c f s).h=v.h:=by unfold IV.write;split<;>rfl
def IV.Ky(v:IV)(c e):(v.set c e).h=v.h:=by unfold IV.set;split<;>rfl
def IV.xY(v:IV)(c):(v.clear c).h=v.h:=by
 unfold IV.clear;split
 .exact IV.Ky _ _ _
 .rfl
def IV.yG(v:IV)(c s):(v.fill c s).h=v.h:=by
 unfold IV.fill;split
 .split
  .rfl
  .split
   .rfl
   .split
    .rw[IV.Ky];rfl
    .rfl
 .rfl
def SV.iO(s:SV)(root:Int):Int:=match s.file root with
 | none=>0
 | some v=>v.h.c
def SV.jq(s:SV)(a:Int):Nat->List Int->Int->List Int × Int
 | 0,_,_=>([],10)
 | k+1,l,n=>if n = -1 then (l,0) else match s.file n with
  | none=>([],4)
  | some v=>if l.length=5 then ([],10) else if v.h.c=a then s.jq a k (l++[n]) v.h.b else ([],2)
def SV.walk(s:SV)(root:Int):List Int × Int:=s.jq (s.iO root) 6 [] root
def SV.xC{s:SV}{a k l}:s.jq a (k+1) l (-1)=(l,0):=by
 unfold SV.jq;simp_all
def SV.xG{s:SV}{a k l n}(b:n ≠ -1)(h:s.file n=O):s.jq a (k+1) l n=([],4):=by
 unfold SV.jq;simp_all
def SV.xE{s:SV}{a k l n v}(c:n ≠ -1)(h:s.file n=S v)(b:l.length=5):s.jq a (k+1) l n=([],10):=by
 unfold SV.jq;simp_all
def SV.walk_other{s:SV}{a k l n v}(f:n ≠ -1)(h:s.file n=S v)(b:l.length≠5)(d:v.h.c≠a):s.jq a (k+1) l n=([],2):=by
 unfold SV.jq;simp_all
def SV.vI{s:SV}{a k l n v}(d:n ≠ -1)(h:s.file n=S v)(f:l.length≠5)(g:v.h.c=a):s.jq a (k+1) l n=s.jq a k (l++[n]) v.h.b:=by
 rw[SV.jq,if_neg d,h];simp_all
def SV.good(s:SV)(C:Int)(l:List Int):Prop:=∀ n∈l,∃ v,s.file n=S v/\v.h.c=C
def SV.Y9{s:SV}{a}:∀k l n,s.good a l->l.length<=5->s.good a (s.jq a k l n).1/\(s.jq a k l n).1.length<=5/\0<=(s.jq a k l n).2/\(s.jq a k l n).2<=10:=by
 intro k
 induction k with
 | zero=>intro l n _ _;exact⟨(λ_ h=>by cases h),ja7 _,(by simp[SV.jq]),(by simp[SV.jq])⟩
 | succ k j =>
  intro l n m o;by_cases b:n = -1
  .subst b;rw[SV.xC];simp_all
  .cases d:s.file n with
   | none=>rw[SV.xG b d];exact⟨(λ_ h=>by cases h),ja7 _,(by simp),(by simp)⟩
   | some v =>
    by_cases g:l.length=5
    .rw[SV.xE b d g];exact⟨(λ_ h=>by cases h),ja7 _,(by simp),(by simp)⟩
    .by_cases i:v.h.c=a
     .rw[SV.vI b d g i];refine j _ _ (λx f=>?_) (by simp;omega);rcases List.mem_append.1 f with f|f
      .exact m x f
      .simp_all
     .rw[SV.walk_other b d g i];exact⟨(λ_ h=>by cases h),ja7 _,(by simp),(by simp)⟩
def SV.walk_good(s:SV)(root):s.good (s.iO root) (s.walk root).1/\(s.walk root).1.length<=5/\0<=(s.walk root).2/\(s.walk root).2<=10 :=
 SV.Y9 6 [] root (λ_ h=>by cases h) (ja7 _)
def tN(o:Option IV)(c:Int):Int:=match o with
 | none=>0
 | some v=>(v.bG c).1
def SV.kK(s:SV)(c:Int):List Int->Nat->Int
 | [],_ => -1
 | n::r,k=>if tN (s.file n) c=0 then s.kK c r (k+1) else (k:Int)
def SV.found(s:SV)(l:List Int)(c:Int):Int:=s.kK c l 0
def SV.seenAt(s:SV)(c:Int):List Int->Option IV
 | []=>O
 | n::r=>if tN (s.file n) c=0 then s.seenAt c r else s.file n
def SV.BG(s:SV)(c):∀l k,(s.kK c l k = -1/\s.seenAt c l=O) \/
  ∃(j:Nat) (n:Int) (v:IV),j<l.length/\s.kK c l k=((k+j:Nat):Int)/\l.getD j 0=n/\n∈l/\s.file n=S v/\(v.bG c).1≠0/\s.seenAt c l=S v:=by
 intro l
 induction l with
 | nil=>intro k;exact .inl ⟨rfl,rfl⟩
 | cons n r g =>
  intro k;unfold SV.kK SV.seenAt;by_cases h:tN (s.file n) c=0
  .rw[if_pos h,if_pos h];rcases g (k+1) with⟨m,b⟩|⟨j,x,v,m,b,d,i,q,f,o⟩
   .simp_all
   .exact .inr ⟨j+1,x,v,by simp;omega,by congr 1;omega,by simpa using d,jbk _ i,q,f,o⟩
  .rw[if_neg h,if_neg h]
   cases a:s.file n with
   | none=>rw[a] at h;exact absurd rfl h
   | some v=>exact .inr ⟨0,n,v,by simp,rfl,rfl,jai,a,by rw[a] at h;exact h,rfl⟩
def SV.iF(s:SV):List Int->Int
 | []=>0
 | n::_=>s.iO n
def SV.read(s:SV)(l:List Int)(c:Int):ByteArray × Int :=
 if l=[] then (bytesOf [],4) else if 0<=c/\c<s.iF l then (match s.seenAt c l with
  | none=>(bytesOf sO,0)
  | some v=>(bytesOf (v.iy c),v.ji c)) else (bytesOf [],1)
theorem SV.good.iF{s:SV}{C l}(h:s.good C l)(c:l≠[]):s.iF l=C:=by
 cases l with
 | nil=>simp_all
 | cons n r =>
  obtain⟨v,b,a⟩:=h n jai;show s.iO n=C
  unfold SV.iO;simp_all
def IV.PN{v:IV}{c}(h:(v.bG c).1≠0):v.there c=true/\(v.ent c).1≠0:=by
 unfold IV.bG at h
 cases a:v.there c with
 | true=>simp_all
 | false=>simp_all
def U2{d a n m}(hd:d.fine n m)(i:a+4<=n):∀ k,k<=4->(kL d a k).length=16*k:=by
 intro k
 induction k with
 | zero=>intro _;rfl
 | succ k c =>
  intro f;have j:=hd.ok.same;have g:=hd.len;have b:a+k<d.seen.length:=by omega
  have:(d.seen.getD (a+k) []).length=16:=by rw[ja6,ja5 b];exact hd.ok.l2 _ (jad b)
  show(kL d a k++d.seen.getD _ []).length=_
  rw[jah,c (by omega),this];omega
def IV.VA{v:IV}{m c}(b:v.ok m)(h:(v.bG c).1≠0):v.ji c=0/\(v.iy c).length=64:=by
 obtain⟨a,j⟩:=IV.PN h;unfold IV.ji IV.iy;rw[if_pos a,if_pos a,if_neg j];refine⟨rfl,?_⟩;by_cases f:(v.ent c).1=2
 .rw[if_pos f];obtain⟨n,l,k⟩:=b.place a f;exact U2 b.d k 4 (ja1 _)
 .rw[if_neg f];rcases jS (b.ent a) with g|g
  .omega
  .rcases g.1 with i|i
   .omega
   .rw[if_pos i];decide
def SV.l9{s:SV}{C l m}(f:s.good C l)(g:s.ok m)(a:l≠[]){c}(q:0<=c/\c<C):(s.read l c).2=0/\(s.read l c).1.size=64:=by
 unfold SV.read;rw[if_neg a,f.iF a,if_pos q];rcases SV.BG s c l 0 with⟨_,d⟩|⟨j,n,v,_,_,_,_,o,i,k⟩
 .rw[d];exact⟨rfl,rfl⟩
 .rw[k];obtain⟨_,_,b⟩:=SV.eG o;obtain⟨r1,r2⟩:=IV.VA (g _ _ b) i;refine⟨r1,?_⟩;show(v.iy c).toArray.size=64
  simpa using r2
structure Pt where
 c:Nat
 f:Nat
 n:Nat
 a:Nat
def aH(fr n a:Nat):Pt:=⟨(fr+a) / 4,(fr+a) % 4,min (4-(fr+a) % 4) (n-a),a⟩
def oV{fr n a}(h:a<n):1<=(aH fr n a).n/\(aH fr n a).f+(aH fr n a).n<=4/\a+(aH fr n a).n<=n:=by
 unfold aH;simp only;omega
def aW(fr n a:Nat):List Pt:=if _h:a<n then aH fr n a::aW fr n (a+(aH fr n a).n) else []
termination_by n-a
decreasing_by
 have:=oV (fr:=fr) _h
 omega
def rH{fr n a}(h:a<n):aW fr n a=aH fr n a::aW fr n (a+(aH fr n a).n):=by
 rw[aW,dif_pos h]
def tY{fr n a}(h:¬a<n):aW fr n a=[]:=by
 rw[aW,dif_neg h]
def rJ(fr n):∀k a,n-a<=k->(aW fr n a).length<=n-a:=by
 intro k
 induction k with
 | zero=>intro a h;rw[tY (by omega)];simp_all
 | succ k c =>
  intro a h;by_cases b:a<n
  .rw[rH b];have d:=oV (fr:=fr) b;have:=c (a+(aH fr n a).n) (by omega)
   simp only[jau];omega
  .rw[tY b];simp_all
structure Pt.fits(p:Pt)(fr n C:Nat):Prop where
 n1:1<=p.n
 n4:p.f+p.n<=4
 an:p.a+p.n<=n
 c:p.c<C
 at_:p.c*4+p.f=fr+p.a
def yQ{fr n a C}(h:a<n)(c:fr+n<=4*C):(aH fr n a).fits fr n C:=by
 have b:=oV (fr:=fr) h;refine⟨b.1,b.2.1,b.2.2,?_,?_⟩
 .show(fr+a) / 4<C
  omega
 .show(fr+a) / 4*4+(fr+a) % 4=fr+a
  omega
def wP{fr n C}(d:fr+n<=4*C):∀k a,n-a<=k->∀ p∈aW fr n a,p.fits fr n C:=by
 intro k
 induction k with
 | zero=>intro a h p b;rw[tY (by omega)] at *;cases b
 | succ k f =>
  intro a h p b;by_cases c:a<n
  .rw[rH c] at *
   have g:=oV (fr:=fr) c;rcases List.mem_cons.1 b with b|b
   .rw[b];exact yQ c d
   .exact f _ (by omega) p b
  .rw[tY c] at *;cases b
def fH(t:ByteArray)(f n:Nat):ByteArray:=t.extract (f*16) ((f+n)*16)
def fA(n:Nat):ByteArray:=bytesOf (List.replicate n 0)
def uh{t f n}(h:(f+n)*16<=t.size):(fH t f n).size=n*16:=by
 unfold fH;rw[jaB];omega
def SV.aT(s:SV)(l:List Int)(fr n:Int):Int:=if l=[] then 4 else if fr<0\/n<0\/4*s.iF l-fr<n then 1 else 0
def SV.mD{s:SV}{C l}(b:s.good C l){fr n}(h:s.aT l fr n=0):l≠[]/\0<=fr/\0<=n/\fr+n<=4*C:=by
 unfold SV.aT at h;split at h
 .cases h
 .next a =>
  split at h
  .cases h
  .next c=>rw[b.iF a] at *;exact⟨a,by omega,by omega,by omega⟩
def SV.lay(s:SV)(l:List Int)(c f:Nat)(t:ByteArray):SV × Int:=match l with
 | []=>(s,4)
 | n::_=>match s.file n with
  | none=>(s,4)
  | some v=>if (v.bG c).1=2 then (s.upd n.toNat (v.write c f t),v.bQ c f t) else
   (s.upd n.toNat (v.fill c ((s.read l c).1.extract 0 (f*16)++t++(s.read l c).1.extract (f*16+t.size) 64)),v.dH c ((s.read l c).1.extract 0 (f*16)++t++(s.read l c).1.extract (f*16+t.size) 64))
def SV.iI(l:List Int)(t:ByteArray)(s:SV)(p:Pt):SV × Int:=s.lay l p.c p.f (fH t p.a p.n)
def SV.dM(l:List Int)(s:SV)(p:Pt):SV × Int:=match l with
 | []=>(s,4)
 | n::_=>match s.file n with
  | none=>(s,4)
  | some v=>if p.n=4 then (s.upd n.toNat (v.clear p.c),v.fF p.c) else if (v.bG p.c).1=1 then (s,0) else s.lay l p.c p.f (fA (p.n*16))
def kC(a:SV->Pt->SV × Int):SV->List Pt->SV × Int
 | s,[]=>(s,0)
 | s,p::r=>if (a s p).2=0 then kC a (a s p).1 r else a s p
def SV.put(s:SV)(l:List Int)(fr:Int)(t:ByteArray):SV × Int :=
 if t.size % 16=0 then (if s.aT l fr ((t.size / 16:Nat):Int)=0 then kC (SV.iI l t) s (aW fr.toNat (t.size / 16) 0) else (s,s.aT l fr ((t.size / 16:Nat):Int))) else (s,1)
def SV.wipe(s:SV)(l:List Int)(fr n:Int):SV × Int :=
 if s.aT l fr n=0 then kC (SV.dM l) s (aW fr.toNat n.toNat 0) else (s,s.aT l fr n)
def SV.move(s:SV)(n c:Int)(t:ByteArray):SV × Int:=match s.file n with
 | none=>(s,4)
 | some v=>if t=fA 64 then (s.upd n.toNat (v.clear c),v.fF c) else if (v.bG c).1=2 then (s.upd n.toNat (v.write c 0 t),v.bQ c 0 t) else (s.upd n.toNat (v.fill c t),v.dH c t)
def SV.kQ(s:SV)(l:List Int)(fr:Nat):Nat->ByteArray
 | 0=>bytesOf []
 | k+1=>s.kQ l fr k++fH (s.read l (((fr+k) / 4:Nat):Int)).1 ((fr+k) % 4) 1
def SV.fG(s:SV)(l:List Int)(fr n:Int):ByteArray:=if s.aT l fr n=0 then s.kQ l fr.toNat n.toNat else bytesOf []
theorem SV.good.upd{s:SV}{C l}(c:s.good C l){n v u}(b:s.file n=S v)(i:u.h=v.h):(s.upd n.toNat u).good C l:=λk a=>by
 obtain⟨d,g,f⟩:=c k a;rw[SV.Bv b];by_cases e:k=n
 .simp_all
 .simp_all
theorem SV.good.lay{s:SV}{C l}(a:s.good C l)(d c f t):(s.lay d c f t).1.good C l:=by
 unfold SV.lay;split
 .exact a
 .split
  .exact a
  .next v b =>
   split
   .exact a.upd b (IV.Ag _ _ _ _)
   .exact a.upd b (IV.yG _ _ _)
theorem SV.good.iI{s C l}(a:s.good C l)(b t p):(SV.iI b t s p).1.good C l:=a.lay _ _ _ _
theorem SV.good.dM{s C l}(a:s.good C l)(c p):(SV.dM c s p).1.good C l:=by
 unfold SV.dM;split
 .exact a
 .split
  .exact a
  .next v b =>
   split
   .exact a.upd b (IV.xY _ _)
   .split
    .exact a
    .exact a.lay _ _ _ _
def qW{a s p r}:kC a s (p::r)=if (a s p).2=0 then kC a (a s p).1 r else a s p:=rfl
def FM{P:List Pt}{i}(h:i<P.length):P.drop i=P[i]::P.drop (i+1):=List.drop_eq_getElem_cons h
def PZ(t:ByteArray)(a b c)(d:a<=b)(f:b<=c):t.extract a b++t.extract b c=t.extract a c:=by
 simp_all
def Xt(t f n):fH t f n++fH t (f+n) 1=fH t f (n+1):=by
 unfold fH;rw[PZ t _ _ _ (by omega) (by omega)];rfl
def Xr(t f):fH t f 0=bytesOf []:=by
 unfold fH;apply jb8;rw[ByteArray.data_extract];apply Array.ext';rw[Array.toList_extract,List.extract_eq_take_drop,show(f+0)*16-f*16=0 by omega];rfl
def MZ(t):t++bytesOf []=t:=by
 apply jb8;apply Array.ext';simp[bytesOf]
def Na(a b c:ByteArray):a++b++c=a++(b++c):=by
 apply jb8;simp_all
def SV.QM{s:SV}{C l fr n}{p:Pt}(b:p.fits fr n C):∀ j,j<=p.n->s.kQ l fr (p.a+j)=s.kQ l fr p.a++fH (s.read l (p.c:Int)).1 p.f j:=by
 intro j;have o:=b.at_;have m:=b.n4
 induction j with
 | zero=>intro _;rw[Xr,MZ];rfl
 | succ j g =>
  intro k;show s.kQ l fr (p.a+j)++fH (s.read l (((fr+(p.a+j)) / 4:Nat):Int)).1 ((fr+(p.a+j)) % 4) 1=_
  have d:(fr+(p.a+j)) / 4=p.c:=by omega
  have i:(fr+(p.a+j)) % 4=p.f+j:=by omega
  rw[g (by omega),d,i,Na,Xt]
def SV.BO{s:SV}{C:Nat}{l m fr}(d:s.good (C:Int) l)(a:s.ok m)(b:l≠[]):∀ k,fr+k<=4*C->(s.kQ l fr k).size=k*16:=by
 intro k
 induction k with
 | zero=>intro _;rfl
 | succ k g =>
  intro f;show(s.kQ l fr k++fH _ _ 1).size=_
  obtain⟨_,r2⟩:=SV.l9 d a b (c:=(((fr+k) / 4:Nat):Int)) ⟨by omega,by omega⟩;rw[jaN,uh (by omega)];omega
def U5(fr n):∀k a,n-a<=k->∀ i (h:i<(aW fr n a).length),a<=(aW fr n a)[i].a/\(∀ j (f:j<(aW fr n a).length),j=i+1->(aW fr n a)[j].a=(aW fr n a)[i].a+(aW fr n a)[i].n)/\(i+1=(aW fr n a).length->(aW fr n a)[i].a+(aW fr n a)[i].n=n)/\(i=0->(aW fr n a)[i].a=a):=by
 intro k
 induction k with
 | zero=>intro a h i b;have:=rJ fr n 0 a h;omega
 | succ k l =>
  intro a h i b;by_cases c:a<n
  .have t:=oV (fr:=fr) c;have o:=rH (fr:=fr) c;have d:=l (a+(aH fr n a).n) (by omega);generalize aW fr n a=P at *
   subst o
   cases i with
   | zero =>
    refine⟨ja1 _,λj f e=>?_,λe=>?_,λ_=>rfl⟩
    .subst e;exact(d 0 _).2.2.2 rfl
    .show a+(aH fr n a).n=n
     by_cases g:a+(aH fr n a).n<n
     .rw[rH g] at e;simp at e
     .omega
   | succ i =>
    have r:i<(aW fr n (a+(aH fr n a).n)).length:=by simpa using b
    obtain⟨s,q2,m,q⟩:=d i _;refine⟨by show a<=(aW fr n _)[i].a;omega,λj f e=>?_,λe=>?_,λe=>by cases e⟩
    .subst e;exact q2 _ _ rfl
    .exact m (by simpa using e)
  .have:=tY (fr:=fr) c
   rw[this] at b;cases b
namespace S4
structure Kept(S:Nat->Prop)(w w':ω):Prop where
 os:w'.os=w.os
 tape:w'.tape=w.tape
 output:w'.output=w.output
 size:w.heap.size<=w'
 block:∀ k,k<w.heap.size->¬S k->w'.heap[k]?=w.heap[k]?
def Kept.refl(S w):Kept S w w:=⟨rfl,rfl,rfl,ja1 _,λ_ _ _=>rfl⟩
theorem Kept.trans{S a b c}(h:Kept S a b)(k:Kept S b c):Kept S a c :=
 ⟨k.os.trans h.os,k.tape.trans h.tape,k.output.trans h.output,ja4 h.size k.size,λi f d=>(k.block i (ja8 f h.size) d).trans (h.block i f d)⟩
def Kept.mono{S T a b}(h:Kept S a b)(f:∀ k,k<a.heap.size->S k->T k):Kept T a b :=
 ⟨h.os,h.tape,h.output,h.size,λi c d=>h.block i c λs=>d (f i c s)⟩
theorem Kept.drew{S a w}(h:Kept S a w):Kept S a w.drew:=⟨h.os,h.tape,h.output,h.size,h.block⟩
theorem Kept.setCell{S a w}(h:Kept S a w){p:Addr}(b:S p.block\/a<=p.block)(u):Kept S a (w.setCell p u) :=
 ⟨h.os,h.tape,h.output,by simpa [World.setCell] using h.size,λk d c=>(heap_setCell_other w p k u (λe=>by rcases b with b|b;exact c (e▸b);omega)).trans (h.block k d c)⟩
def Kept.below{S a w}{B:Nat}(h:Kept S a w)(c:B<=a)(d:∀ k,S k->B<=k):β B a w :=
 ⟨h.os,h.tape,h.output,h.size,λk b=>h.block k (ja8 b c) λs=>by have:=d k s;omega⟩
def ah{p}(h:p):χ p:=h
def Bools(w:ω)(f:Option Addr)(a:Nat)(c:List Bool):Prop :=
 c.length=a/\∀ j,j<a->∃ b d,f=S ⟨b,d,O⟩/\w.cell? ⟨b,d+j,O⟩=S (.bool (c.getD j false))
def lt_of_some{w:ω}{k:Nat}{o}(h:w.heap[k]?=S o):k<w:=by
 rcases jav k _ with a|a
 .exact a
 .simp_all
structure vN where
 kind:ByteArray
 a:Int
 b:Int
 c:Int
 d:Int
 s:ByteArray
 ka:Option Addr
 kl:Nat
 kc:Nat
 ks:List Bool
def vN.cells(x:vN):List Value:=[.string x.kind,.int .i64 x.a,.int .i64 x.b,.int .i64 x.c,.int .i64 x.d,.string x.s,.slice x.ka x.kl x.kc]
section
variable {H:Type} {enc:TypeId × Value->H}
end
def rU{a b:Bool}(h:a=b):Ending.returned a=.returned b:=by rw[h]
end S4
namespace S4
def cnt(x:Nat):Nat->Nat
 | 0=>0
 | k+1=>cnt x k+if x.testBit k then 1 else 0
def cnt_le(x n):cnt x n<=n:=by
 induction n with
 | zero=>exact ja1 _
 | succ n a=>show cnt x n+_<=_;split<;>omega
def N7(x a b):cnt x (a+b)=cnt x a+cnt (x / 2 ^ a) b:=by
 induction b with
 | zero=>rfl
 | succ b c =>
  show cnt x (a+b)+(if x.testBit (a+b) then 1 else 0)=cnt x a+(cnt _ b+if (x / 2 ^ a).testBit b then 1 else 0)
  rw[c,Nat.testBit_div_two_pow,Nat.add_comm b a];omega
def N8(x a):cnt x a=cnt (x % 2 ^ a) a:=by
 have:∀ k,k<=a->cnt x k=cnt (x % 2 ^ a) k:=by
  intro k
  induction k with
  | zero=>intro _;rfl
  | succ k b =>
   intro c;show cnt x k+_=cnt _ k+_
   rw[b (by omega),Nat.testBit_mod_two_pow];simp[show k<a by omega]
 simp_all
def and_split(a b A B)(f:a<256)(d:b<256):(a+256*A) &&& (b+256*B)=(a &&& b)+256*(A &&& B):=by
 have c:∀(x X:Nat),x+256*X=2 ^ 8*X+x:=λx X=>by omega
 rw[c,c,c];apply jbG;intro i;rw[Nat.testBit_and,jaH _ f,jaH _ d,jaH _ (Nat.and_lt_two_pow _ d)];split
 .simp_all
 .simp_all
def g1(b:Nat):Nat:=(b / 2 &&& 85)+(b &&& 85)
def g2(b:Nat):Nat:=(b / 4 &&& 51)+(b &&& 51)
def g3(b:Nat):Nat:=(b / 16+b) &&& 15
def bytes(f:Nat->Nat):Nat->Nat->Nat
 | 0,_=>0
 | k+1,x=>f (x % 256)+256*bytes f k (x / 256)
def rep(c:Nat):Nat->Nat
 | 0=>0
 | k+1=>c+256*rep c k
def GI:∀ b,b<256->g1 b<256:=by decide +kernel
def QG:∀ b,b<256->((b / 2+128) &&& 85)=(b / 2 &&& 85):=by decide +kernel
def GK:∀ b,b<256->g2 (g1 b)<256:=by decide +kernel
def QI:∀ b,b<256->∀ c,c<4->((b / 4+64*c) &&& 51)=(b / 4 &&& 51):=by decide +kernel
def QK:∀ b,b<256->g3 (g2 (g1 b))=cnt b 8:=by decide +kernel
def QJ:∀ b,b<256->g2 (g1 b) % 16<=4/\g2 (g1 b) / 16<=4:=by decide +kernel
def lo4:∀ a,a<=4->∀ b,b<=4->∀ c,c<=4->((a+16*b) / 16+16*c+(a+16*b)) &&& 15=((a+16*b) / 16+(a+16*b)) &&& 15:=by decide +kernel
def step1(k):∀ x,x<256 ^ k->(x / 2 &&& rep 85 k)+(x &&& rep 85 k)=bytes g1 k x:=by
 induction k with
 | zero=>intro x a;simp at *;subst a;rfl
 | succ k d =>
  intro x a;have b:x / 256<256 ^ k:=by omega
  show(x / 2 &&& (85+256*rep 85 k))+(x &&& (85+256*rep 85 k))=g1 _+256*bytes g1 k _
  rw[<- (d _ b)];have c:x / 2=(x % 256 / 2+128*(x / 256 % 2))+256*(x / 256 / 2):=by omega
  have g:x &&& (85+256*rep 85 k)=(x % 256 &&& 85)+256*(x / 256 &&& rep 85 k):=by
   rw[<- and_split _ 85 _ _ (by omega) (by omega)];congr 1;omega
  have f:x / 2 &&& (85+256*rep 85 k)=(x % 256 / 2 &&& 85)+256*(x / 256 / 2 &&& rep 85 k):=by
   rw[c,and_split _ 85 _ _ (by omega) (by omega)];congr 1;rcases jbo _ with q|q<;>rw[q]
   .simp
   .exact QG _ (by omega)
  unfold g1;omega
def step2(k):∀ x,x<256 ^ k->(x / 4 &&& rep 51 k)+(x &&& rep 51 k)=bytes g2 k x:=by
 induction k with
 | zero=>intro x a;simp at *;subst a;rfl
 | succ k d =>
  intro x a;have b:x / 256<256 ^ k:=by omega
  show(x / 4 &&& (51+256*rep 51 k))+(x &&& (51+256*rep 51 k))=g2 _+256*bytes g2 k _
  rw[<- (d _ b)];have c:x / 4=(x % 256 / 4+64*(x / 256 % 4))+256*(x / 256 / 4):=by omega
  have g:x &&& (51+256*rep 51 k)=(x % 256 &&& 51)+256*(x / 256 &&& rep 51 k):=by
   rw[<- and_split _ 51 _ _ (by omega) (by omega)];congr 1;omega
  have f:x / 4 &&& (51+256*rep 51 k)=(x % 256 / 4 &&& 51)+256*(x / 256 / 4 &&& rep 51 k):=by
   rw[c,and_split _ 51 _ _ (by omega) (by omega)];congr 1;exact QI _ (by omega) _ (by omega)
  unfold g2;omega
def low:Nat->Nat->Prop
 | 0,x=>x=0
 | k+1,x=>x % 256 % 16<=4/\x % 256 / 16<=4/\low k (x / 256)
def TB{k x}(h:low k x):x % 16<=4:=by
 cases k with
 | zero=>simp[show x=0 from h]
 | succ k=>have:=h.1;omega
def step3(k):∀ x,low k x->((x / 16+x) &&& rep 15 k)=bytes g3 k x:=by
 induction k with
 | zero=>intro x a;rw[show x=0 from a];rfl
 | succ k d =>
  intro x a;obtain⟨i,f,b⟩:=a;have g:=TB b;show((x / 16+x) &&& (15+256*rep 15 k))=g3 _+256*bytes g3 k _
  rw[<- (d _ b)];have c:x / 16+x=(x % 256 / 16+16*(x / 256 % 16)+x % 256)+256*(x / 256 / 16+x / 256):=by omega
  rw[c,and_split _ 15 _ _ (by omega) (by omega)];congr 1;have:=lo4 _ i _ f _ g
  rw[show x % 256 % 16+16*(x % 256 / 16)=x % 256 by omega] at *
  exact this
def EJ(f k x)(a:f (x % 256)<256):bytes f (k+1) x % 256=f (x % 256)/\bytes f (k+1) x / 256=bytes f k (x / 256):=by
 show(f _+256*bytes f k _) % 256=_/\(f _+256*bytes f k _) / 256=_
 omega
def NH(f)(a:∀ b,b<256->f b<256)(k):∀ x,bytes f k x<256 ^ k:=by
 induction k with
 | zero=>intro x;exact Nat.one_pos
 | succ k c =>
  intro x;have:=c (x / 256)
  have:=a (x % 256) (by omega)
  show f _+256*bytes f k _<256 ^ k*256
  omega
def EK(f g)(a:∀ b,b<256->f b<256)(k):∀ x,bytes g k (bytes f k x)=bytes (λb=>g (f b)) k x:=by
 induction k with
 | zero=>intro x;rfl
 | succ k c =>
  intro x;obtain⟨i,d⟩:=EJ f k x (a _ (by omega));show g _+256*bytes g k _=g _+256*bytes _ k _
  simp_all
def Tz(k):∀ x,low k (bytes (λb=>g2 (g1 b)) k x):=by
 induction k with
 | zero=>intro x;rfl
 | succ k c =>
  intro x;obtain⟨a,d⟩:=EJ (λb=>g2 _) k x (GK _ (by omega));have:=QJ (x % 256) (by omega)
  exact⟨by omega,by omega,by simp_all⟩
def NG(f g)(h:∀ b,b<256->f b=g b)(k):∀ x,bytes f k x=bytes g k x:=by
 induction k with
 | zero=>intro x;rfl
 | succ k a=>intro x;show f _+256*bytes f k _=g _+256*bytes g k _;rw[h _ (by omega),a]
def sum(k:Nat)(x:Nat):Nat:=match k with
 | 0=>0
 | k+1=>cnt (x % 256) 8+sum k (x / 256)
def Yb(k):∀ x,sum k x=cnt x (8*k):=by
 induction k with
 | zero=>intro x;rfl
 | succ k a =>
  intro x;show cnt _ 8+sum k _=_
  rw[show 8*(k+1)=8+8*k by omega,N7,a,N8 x 8]
def o1(x:Nat):Nat:=(x / 2 &&& 6148914691236517205)+(x &&& 6148914691236517205)
def o2(x:Nat):Nat:=(x / 4 &&& 3689348814741910323)+(x &&& 3689348814741910323)
def o3(x:Nat):Nat:=(x / 16+x) &&& 1085102592571150095
def CZ(x)(a:x<18446744073709551616):o1 x<18446744073709551616:=by
 have:rep 85 8=6148914691236517205:=by decide +kernel
 unfold o1;rw[<- this,step1 8 x a];exact NH g1 GI 8 x
def Ur(x)(a:x<18446744073709551616):o1 x=bytes g1 8 x:=by
 have:rep 85 8=6148914691236517205:=by decide +kernel
 unfold o1;rw[<- this,step1 8 x a]
def I5(x)(a:x<18446744073709551616):o2 (o1 x)=bytes (λb=>g2 (g1 b)) 8 x:=by
 have:rep 51 8=3689348814741910323:=by decide +kernel
 unfold o2;rw[<- this,step2 8 _ (CZ x a),Ur x a,EK g1 g2 GI]
def Ut(x)(a:x<18446744073709551616):o3 (o2 (o1 x))=bytes (λb=>cnt b 8) 8 x:=by
 have:rep 15 8=1085102592571150095:=by decide +kernel
 unfold o3;rw[<- this,I5 x a,step3 8 _ (Tz 8 x),EK _ g3 GK];exact NG _ _ QK 8 x
def NJ(f c)(a:∀ b,b<256->f b<=c)(k):∀ x,bytes f k x<=rep c k:=by
 induction k with
 | zero=>intro x;exact ja1 _
 | succ k d =>
  intro x;have:=d (x / 256)
  have:=a (x % 256) (by omega)
  show f _+256*bytes f k _<=c+256*rep c k
  omega
def QH:∀ b,b<256->g2 (g1 b)<=68:=by decide +kernel
def Us(x)(a:x<18446744073709551616):o2 (o1 x)<4919131752989213765:=by
 have h:=NJ _ 68 QH 8 x;rw[<- I5 x a,show rep 68 8=4919131752989213764 by decide +kernel] at h;omega
def OQ(p Y)(h:p<=8):(p+256*Y) / 256=Y:=by omega
def OT(c b f a d)(j:c<=8)(i:b<=8)(g:f<=8)(k:a=f+256*d) :
  (c+256*(b+256*a)+(b+256*a)) / 65536=a+d:=by omega
def TA(a b q2 c S)(g:a<=32)(f:b<=32)(d:q2<=32)(i:c<=32):(a+256*b+65536*q2+16777216*c+4294967296*S) / 4294967296=S:=by omega
def OU(q S)(h:q<=64):(q+256*S) % 128=q:=by omega
def Uz(r m k j l n s d b a c g f i y)(A:r<=8)(D:m<=8)(E:k<=8)(J:j<=8)(K:l<=8)(I:n<=8)(P:s<=8)(L:d<=8)
  (w:i=s+256*d) (v:f=n+256*i) (z:g=l+256*f) (x:c=j+256*g) (t:a=k+256*c) (u:b=m+256*a) (o:y=r+256*b) :
  y<=578721382704613384/\y / 256=b/\b<=2260630401189896/\(y+b) / 65536=a+c/\a+c<=17661175009296/\(y+b+(a+c)) / 4294967296=g+f+i+d/\g+f+i+d<=1000000000 /\
   (y+b+(a+c)+(g+f+i+d)) % 128=r+m+k+j+l+n+s+d:=by
 have G:i<=2056:=by omega
 have F:f<=526344:=by omega
 have N:g<=134744072:=by omega
 have H:c<=34494482440:=by omega
 have M:a<=8830587504648:=by omega
 have B:b<=2260630401189896:=by omega
 have C:y<=578721382704613384:=by omega
 refine⟨C,?_,B,?_,?_,?_,?_,?_⟩
 .rw[o];exact OQ _ _ A
 .have:=OT r m k a c A D E t
  rw[<- u,<- o] at *;exact this
 .omega
 .have q:y+b+(a+c)=(r+m+k+j)+256*(m+k+j+l)+65536*(k+j+l+n)+16777216*(j+l+n+s)+4294967296*(g+f+i+d):=by
   subst o u t x z v w;simp only[Nat.mul_add,<- jb9,Nat.reduceMul];omega
  rw[q];exact TA _ _ _ _ _ (by omega) (by omega) (by clear q o u t x z v w;omega) (by clear q o u t x z v w;omega)
 .omega
 .have q:y+b+(a+c)+(g+f+i+d)=(r+m+k+j+l+n+s+d)+256*(b+a+c+g+f+i+d):=by
   omega
  rw[q];exact OU _ _ (by clear q o u t x z v w;omega)
def o4(x:Nat):Nat:=x+x / 256
def o5(x:Nat):Nat:=x+x / 65536
def o6(x:Nat):Nat:=x+x / 4294967296
def Uy(x)(B:x<18446744073709551616):o3 (o2 (o1 x))<=578721382704613384/\o4 (o3 (o2 (o1 x)))<=580982013105803280/\o5 (o4 (o3 (o2 (o1 x))))<=580999674280812576/\o6 (o5 (o4 (o3 (o2 (o1 x)))))<=580999675280812576/\o6 (o5 (o4 (o3 (o2 (o1 x))))) % 128=cnt x 64:=by
 rw[Ut x B,show(64:Nat)=8*8 by rfl,<- Yb];have w:=cnt_le (x % 256) 8;have C:=cnt_le (x / 256 % 256) 8;have D:=cnt_le (x / 256 / 256 % 256) 8;have G:=cnt_le (x / 256 / 256 / 256 % 256) 8;have v:=cnt_le (x / 256 / 256 / 256 / 256 % 256) 8;have A:=cnt_le (x / 256 / 256 / 256 / 256 / 256 % 256) 8;have E:=cnt_le (x / 256 / 256 / 256 / 256 / 256 / 256 % 256) 8;have z:=cnt_le (x / 256 / 256 / 256 / 256 / 256 / 256 / 256 % 256) 8;obtain⟨f,s,g,l,j,i,q,c⟩:=Uz _ _ _ _ _ _ _ _ _ _ _ _ _ _ _ w C D G v A E z rfl rfl rfl rfl rfl rfl rfl
 have e:bytes (λb=>cnt b 8) 8 x=cnt (x % 256) 8+256*(cnt (x / 256 % 256) 8+256*(cnt (x / 256 / 256 % 256) 8+256*(cnt (x / 256 / 256 / 256 % 256) 8+256*(cnt (x / 256 / 256 / 256 / 256 % 256) 8+256*(cnt (x / 256 / 256 / 256 / 256 / 256 % 256) 8+256*(cnt (x / 256 / 256 / 256 / 256 / 256 / 256 % 256) 8+256*cnt (x / 256 / 256 / 256 / 256 / 256 / 256 / 256 % 256) 8)))))):=by
  simp only[bytes,Nat.mul_zero,jb0]
 have F:sum 8 x=cnt (x % 256) 8+cnt (x / 256 % 256) 8+cnt (x / 256 / 256 % 256) 8+cnt (x / 256 / 256 / 256 % 256) 8+cnt (x / 256 / 256 / 256 / 256 % 256) 8+cnt (x / 256 / 256 / 256 / 256 / 256 % 256) 8+cnt (x / 256 / 256 / 256 / 256 / 256 / 256 % 256) 8+cnt (x / 256 / 256 / 256 / 256 / 256 / 256 / 256 % 256) 8:=by
  simp only[sum,Nat.add_assoc,jb0]
 rw[<- e] at f s l i c;rw[<- F] at c;generalize bytes (λb=>cnt b 8) 8 x=y at *
 obtain⟨a,m⟩:∃ a,y / 256=a:=⟨_,rfl⟩;rw[<- s,m] at g l i c;obtain⟨d,t⟩:∃ d,(y+a) / 65536=d:=⟨_,rfl⟩;rw[<- l,t] at j i c;obtain⟨k,u⟩:∃ k,(y+a+d) / 4294967296=k:=⟨_,rfl⟩;rw[<- i,u] at q c;have r:o4 y=y+a:=by unfold o4;rw[m]
 have n:o5 (o4 y)=y+a+d:=by rw[r];unfold o5;rw[t]
 have o:o6 (o5 (o4 y))=y+a+d+k:=by rw[n];unfold o6;rw[u]
 refine⟨f,?_,?_,?_,?_⟩
 .rw[r];exact ja4 (jbg f g) (by decide)
 .rw[n];exact ja4 (jbg (jbg f g) j) (by decide)
 .rw[o];exact ja4 (jbg (jbg (jbg f g) j) q) (by decide)
 .rw[o];exact c
end S4
namespace S4
def iQ(w:ω)(p n x:Nat):Prop:=w.heap[p]?=S (.cells #[(n:Int),.int .u64 (x:Int)] 285 (0,0))
structure jY(n x:Nat):Prop where
 n1:n<=64
 hi:∀ i,n<=i->x.testBit i=false
def jY.lt{n x}(h:jY n x):x<18446744073709551616:=by
 have  := Nat.lt_pow_two_of_testBit x (λi a=>h.hi i (ja4 h.n1 a));exact this
def iQ.cells{w p n x}(h:iQ w p n x):w.cell? ⟨p,0,O⟩=S (.int .i64 (n:Int))/\w.cell? ⟨p,1,O⟩=S (.int .u64 (x:Int))/\w.frozen? ⟨p,1,O⟩=false:=by
 have a:w.heap[p]?=_:=h;refine⟨?_,?_,?_⟩<;>simp[World.cell?,World.frozen?,a]
def iQ.below{w w' p n x}(h:iQ w p n x)(a:β w w w'):iQ w' p n x:=(a.block p (lt_of_some h)).trans h
def iQ.set{w p n x}(h:iQ w p n x)(y:Nat):iQ (w.setCell ⟨p,1,O⟩ (.int .u64 (y:Int))) p n y:=by
 unfold iQ;rw[heap_setCell_same w p 1 _ _ _ h];rfl
def TV(w:ω)(o):(w.alloc o).heap[w.heap.size]?=S o:=by
 show(w.heap.push o)[w.heap.size]?=S o
 simp
def iD(n:Nat)(i:Int):Bool:=decide (0<=i/\i<(n:Int))
def hasB(n x:Nat)(i:Int):Bool:=iD n i&&x.testBit i.toNat
def XL(n:Nat)(w)(h:n<=64) :
  κ prog 239 #[(n:Int)] w λe w'=>e=.returned (.tuple #[w,.nilIface])/\iQ w' w n 0/\β w w w':=by
 have g1:decide ((n:Int)<0)=false:=decide_eq_false (by omega);have g2:decide (64<(n:Int))=false:=decide_eq_false (by omega);go_enter func239,ntmps239;go_wp2;go_ret2;exact⟨rfl,TV w _,(ja0 _ w).alloc (ja1 _) _⟩
def KC(n)(h:n<=64):jY n 0:=⟨h,λi _=>Nat.zero_testBit i⟩
def KN{p n x}(i:Int)(w)(h:iQ w p n x) :
  κ prog 245 #[p,i] w λe w'=>e=.returned (.bool (iD n i))/\w'=w:=by
 obtain⟨d,c1,c⟩:=h.cells;by_cases b:0<=i
 .have a:χ (decide (i<(n:Int))=iD n i):=by unfold χ iD;simp[b]
  go_enter func245,ntmps245;go_wp2;go_ret;exact⟨rU a,rfl⟩
 .have a:χ (false=iD n i):=by unfold χ iD;simp[b]
  go_enter func245,ntmps245;go_wp2;go_ret;exact⟨rU a,rfl⟩
def Nr(x k:Nat)(b:x<18446744073709551616):(bits BinOp.and .u64 ((x:Int) / 2 ^ k) 1==1)=x.testBit k:=by
 have a:x / 2 ^ k<18446744073709551616:=Nat.lt_of_le_of_lt (Nat.div_le_self _ _) b;have c:((x / 2 ^ k:Nat):Int)=(x:Int) / 2 ^ k:=by rfl
 show(bits _ .u64 ((x / 2 ^ k:Nat):Int) ((1:Nat):Int)==1)=_
 rw[(bits_and_u64_nat _ 1 a (by decide)),Nat.testBit_eq_decide_div_mod_eq,Nat.and_one_is_mod];rcases jbo _ with q|q<;>rw[q]<;>rfl
def XH{p n x}(i:Int)(w)(h:iQ w p n x)(d:jY n x) :
  κ prog 246 #[p,i] w λe w'=>e=.returned (.bool (hasB n x i))/\w'=w:=by
 have b:=KN i w h;obtain⟨l,c1,f⟩:=h.cells;have j:=d.n1
 cases a:iD n i with
 | false =>
  rw[a] at b;have c:χ (false=hasB n x i):=by unfold χ hasB;simp[a]
  go_enter func246,ntmps246;go_wp2_with fail;refine cSt b ?_;go_wp2;go_ret;exact⟨rU c,rfl⟩
 | true =>
  rw[a] at b;obtain⟨k,rfl⟩:∃ k:Nat,i=k:=⟨i.toNat,by unfold iD at *;simp at *;omega⟩;have g:k<n:=by unfold iD at *;simp at *;omega
  have c:χ ((bits BinOp.and .u64 ((x:Int) / 2 ^ k) 1==1)=hasB n x (k:Int)):=by
   unfold χ hasB;rw[a,jbn,jaY,Nr x k d.lt]
  go_enter func246,ntmps246;go_wp2_with fail;refine cSt b ?_;go_wp2;go_ret;exact⟨rU c,rfl⟩
def MR(a:Nat)(d:a<9223372036854775808):bits .and .i64 (a:Int) 127=((a % 128:Nat):Int):=by
 have b:(BitVec.ofInt 64 (a:Int)).toNat=a:=by
  rw[BitVec.ofInt_natCast,BitVec.toNat_ofNat];omega
 have c:(BitVec.ofInt 64 (127:Int)).toNat=127:=by decide
 show IntKind.i64.wrap ((BitVec.ofInt 64 (a:Int) &&& BitVec.ofInt 64 (127:Int)).toNat:Int)=_
 rw[BitVec.toNat_and,b,c,(Nat.and_two_pow_sub_one_eq_mod a 7)];exact ja9 _ (by omega)
def Af(a:Nat)(b:a<18446744073709551616):IntKind.u64.wrap (a:Int)=(a:Int):=by
 rw[jbl];omega
def vP(a m:Nat)(c:a<18446744073709551616)(b:m<18446744073709551616):bits .and .u64 (a:Int) (m:Int)=((a &&& m:Nat):Int):=bits_and_u64_nat a m c b
def Vb(x:Nat)(a:x<18446744073709551616):IntKind.u64.wrap (bits .and .u64 ((x:Int) / 2) 6148914691236517205+bits .and .u64 (x:Int) 6148914691236517205)=((o1 x:Nat):Int):=by
 have d:((x / 2:Nat):Int)=(x:Int) / 2:=by omega
 have c:bits .and .u64 ((x:Int) / 2) 6148914691236517205=((x / 2 &&& 6148914691236517205:Nat):Int):=(vP (x / 2) 6148914691236517205 (by omega) (by decide));have b:bits .and .u64 (x:Int) 6148914691236517205=((x &&& 6148914691236517205:Nat):Int):=(vP x 6148914691236517205 a (by decide));rw[c,b,<- Int.natCast_add];exact Af _ (CZ x a)
def Vd(y)(c:y<18446744073709551616)(b:o2 y<18446744073709551616):IntKind.u64.wrap (bits .and .u64 ((y:Int) / 4) 3689348814741910323+bits .and .u64 (y:Int) 3689348814741910323)=((o2 y:Nat):Int):=by
 have f:((y / 4:Nat):Int)=(y:Int) / 4:=by omega
 have d:bits .and .u64 ((y:Int) / 4) 3689348814741910323=((y / 4 &&& 3689348814741910323:Nat):Int):=(vP (y / 4) 3689348814741910323 (by omega) (by decide));have a:bits .and .u64 (y:Int) 3689348814741910323=((y &&& 3689348814741910323:Nat):Int):=(vP y 3689348814741910323 c (by decide));rw[d,a,<- Int.natCast_add];exact Af _ b
def Ve(y:Nat)(a:y<4919131752989213765):IntKind.u64.wrap ((y:Int) / 16+(y:Int))=((y / 16+y:Nat):Int)/\bits .and .u64 ((y / 16+y:Nat):Int) 1085102592571150095=((o3 y:Nat):Int):=by
 constructor
 .rw[jbl];omega
 .exact vP _ _ (by omega) (by decide)
def Dl(y d:Nat)(h:y+y / d<18446744073709551616):IntKind.u64.wrap ((y:Int)+(y:Int) / (d:Int))=((y+y / d:Nat):Int):=by
 exact Af _ h
def Ux(x:Nat)(w)(f:x<18446744073709551616) :
  κ prog 240 #[.int .u64 (x:Int)] w λe w'=>e=.returned (.int .i64 (cnt x 64:Nat))/\w'=w:=by
 have t:=Vb x f;have j:=CZ x f;have l:=Us x f;obtain⟨r,y,m,o,k⟩:=Uy x f;generalize o1 x=y1 at *
 have q2:=Vd y1 j (by omega);generalize o2 y1=g at *
 obtain⟨u,q⟩:=Ve g l;generalize g / 16+g=s at *
 generalize o3 g=a at *
 have z:IntKind.u64.wrap ((a:Int)+(a:Int) / 256)=((o4 a:Nat):Int):=(Dl a 256 (show o4 a<_ by omega));generalize o4 a=d at *
 have B:IntKind.u64.wrap ((d:Int)+(d:Int) / 65536)=((o5 d:Nat):Int):=(Dl d 65536 (show o5 d<_ by omega));generalize o5 d=b at *
 have v:IntKind.u64.wrap ((b:Int)+(b:Int) / 4294967296)=((o6 b:Nat):Int):=(Dl b 4294967296 (show o6 b<_ by omega));generalize o6 b=i at *
 have n:=MR i (by omega);have A:IntKind.i64.wrap (i:Int)=(i:Int):=ja9 _ (by omega);rw[k] at *
 generalize cnt x 64=c at *
 go_enter func240,ntmps240;go_wp2;go_ret;exact⟨rfl,rfl⟩
def JZ{p n x}(w)(h:iQ w p n x)(a:jY n x) :
  κ prog 195 #[p] w λe w'=>e=.returned (.int .i64 (cnt x 64:Nat))/\w'=w:=by
 obtain⟨c,c1,b⟩:=h.cells;go_enter func195,ntmps195;go_wp2_with fail;refine cSt (Ux x w a.lt) ?_;go_wp2;go_ret;simp_all
def gI(n x:Nat)(i:Int)(b:Bool):Bool:=iD n i&&(hasB n x i != b)
def fK(n x:Nat)(i:Int)(b:Bool):Nat:=if gI n x i b then x ^^^ 2 ^ i.toNat else x
def zh{n x}(h:jY n x)(i b):jY n (fK n x i b):=by
 unfold fK;split
 .rename_i q
  have c:iD n i=true:=by unfold gI at q;simp_all
  unfold iD at *
  simp at *
  refine⟨h.n1,λj a=>?_⟩;rw[jbF,h.hi j a,Nat.testBit_two_pow_of_ne (by omega)];rfl
 .exact h
def yZ{n x}(i b j):(fK n x i b).testBit j=if iD n i=true/\i=(j:Int) then b else x.testBit j:=by
 unfold fK gI
 cases c:iD n i with
 | false=>simp
 | true =>
  obtain⟨k,rfl⟩:∃ k:Nat,i=k:=⟨i.toNat,by unfold iD at *;simp at *;omega⟩;have a:hasB n x (k:Int)=x.testBit k:=by unfold hasB;simp_all
  rw[a,jbn,jaY];by_cases e:k=j
  .subst e;by_cases q:x.testBit k=b
   .simp_all
   .have:(x.testBit k != b)=true:=by simpa using q
    rw[if_pos this,jbF,Nat.testBit_two_pow_self]
    revert q
    cases x.testBit k<;>cases b<;>simp
  .have d:¬(true=true/\(k:Int)=(j:Int)):=λh=>e (by omega)
   split
   .simp_all
   .rfl
def Zx(x k:Nat)(c:x<18446744073709551616)(b:k<64):bits BinOp.xor .u64 (x:Int) (IntKind.u64.wrap (2 ^ k))=((x ^^^ 2 ^ k:Nat):Int):=by
 have a:2 ^ k<18446744073709551616:=Nat.pow_lt_pow_right (by decide) b;have e:(2:Int) ^ k=((2 ^ k:Nat):Int):=by rfl
 rw[e,Af _ a];exact bits_xor_u64_nat _ _ c a
def zQ{p n x}(i:Int)(b:Bool)(w)(h:iQ w p n x)(o:jY n x) :
  κ prog 204 #[p,i,b] w λe w'=>e=.returned (.bool (gI n x i b))/\iQ w' p n (fK n x i b)/\Kept (λk=>k=p) w w':=by
 have d:=KN i w h;have s:=XH i w h o;have q:=ah h;obtain⟨B,c1,A⟩:=h.cells;have z:=o.n1
 cases g:iD n i with
 | false =>
  rw[g] at d;have a:gI n x i b=false:=by unfold gI;simp[g]
  have f:fK n x i b=x:=by unfold fK;simp[a]
  rw[a,f];go_enter func204,ntmps204;go_wp2_with fail;refine cSt d ?_;go_wp2;go_ret;exact⟨rfl,q,Kept.refl _ w⟩
 | true =>
  rw[g] at d;have r:gI n x i b=(hasB n x i != b):=by unfold gI;simp[g]
  generalize y:hasB n x i=c at *
  cases j:(c != b) with
  | false =>
   have a  := r.trans j;have f:fK n x i b=x:=by unfold fK;simp[a]
   have u:(c==b)=true:=by revert j;cases c<;>cases b<;>simp
   rw[a,f];go_enter func204,ntmps204;go_wp2_with fail;refine cEq d λw' l=>?_
   have m:=l.symm;subst m;go_wp2_with fail;refine cSt s ?_;go_wp2;go_ret;exact⟨rfl,q,Kept.refl _ w⟩
  | true =>
   have a  := r.trans j;have f:fK n x i b=x ^^^ 2 ^ i.toNat:=by unfold fK;simp[a]
   have u:(c==b)=false:=by revert j;cases c<;>cases b<;>simp
   rw[a,f];obtain⟨k,rfl⟩:∃ k:Nat,i=k:=⟨i.toNat,by unfold iD at *;simp at *;omega⟩;have t:k<64:=by unfold iD at *;simp at *;omega
   rw[jaY];have v:χ _:=Zx x k o.lt t;go_enter func204,ntmps204;go_wp2_with fail;refine cEq d λw' l=>?_
   have m:=l.symm;subst m;go_wp2_with fail;refine cSt s ?_;go_wp2_with fail;go_region;go_wp2;go_ret;exact⟨rfl,by rw[v.out];exact q.set _,(Kept.setCell (S:=λk=>k=p) (Kept.refl _ w)  (.inl rfl) _).drew⟩
end S4
namespace S4
def iK(x:Nat):Nat->List Nat
 | 0=>[]
 | k+1=>iK x k++if x.testBit k then [k] else []
def elems(x:Nat):List Nat:=iK x 64
def FN(x k):(iK x k).length=cnt x k:=by
 induction k with
 | zero=>rfl
 | succ k a =>
  show(iK x k++_).length=cnt x k+_
  rw[jah,a];split<;>rfl
def PD(k):iK 0 k=[]:=by
 induction k with
 | zero=>rfl
 | succ k a=>show iK 0 k++_=[];rw[a];simp
def vV(x k j):j∈iK x k↔j<k/\x.testBit j=true:=by
 induction k with
 | zero=>simp[iK]
 | succ k a =>
  show j∈iK x k++_↔_
  rw[List.mem_append,a];by_cases h:x.testBit k=true
  .rw[if_pos h,jaW];constructor
   .rintro(⟨h1,h2⟩|rfl)
    .exact⟨by omega,h2⟩
    .simp_all
   .rintro⟨h1,h2⟩;by_cases e:j=k
    .exact .inr e
    .exact .inl ⟨by omega,h2⟩
  .rw[if_neg h];constructor
   .rintro(⟨h1,h2⟩|h1)
    .exact⟨by omega,h2⟩
    .cases h1
   .rintro⟨h1,h2⟩;by_cases e:j=k
    .simp_all
    .exact .inl ⟨by omega,h2⟩
def TD(x)(b:x≠0)(a:x<18446744073709551616):∃ m,x=2 ^ Lib.ctz 64 x*(2*m+1)/\Lib.ctz 64 x<64:=by
 have:=Lib.ctzFrom_spec 64 x (by omega) a
 unfold Lib.ctz;simp_all
def Cm(c m j):(2 ^ c*(2*m+1)).testBit j=(decide (c<=j)&&(2*m+1).testBit (j-c)):=Nat.testBit_two_pow_mul ..
def VW(c m j):((2 ^ c*(2*m+1)) &&& (2 ^ c*(2*m+1)-1)).testBit j=((2 ^ c*(2*m+1)).testBit j&&decide (j≠c)):=by
 have d:0<2 ^ c:=Nat.pow_pos (by decide)
 have e:2 ^ c*(2*m+1)-1=2 ^ c*(2*m)+(2 ^ c-1):=by
  rw[Nat.mul_add];omega
 rw[Nat.testBit_and,e,jaH _ (by omega),Cm];by_cases h:j<c
 .simp[show ¬c<=j by omega]
 .rw[if_neg h];by_cases b:j=c
  .simp_all
  .obtain⟨k,a⟩:∃ k,j-c=k+1:=⟨j-c-1,by omega⟩;rw[a,Nat.testBit_succ,Nat.testBit_succ,show(2*m+1) / 2=m by omega];simp[b]
def PE(x)(l:x≠0)(o:x<18446744073709551616):elems x=Lib.ctz 64 x::elems (x &&& (x-1))/\(x &&& (x-1))<x/\Lib.ctz 64 x<64:=by
 obtain⟨m,e,s⟩:=TD x l o;generalize Lib.ctz 64 x=c at *
 refine⟨?_,Nat.lt_of_le_of_lt Nat.and_le_right (by omega),s⟩;have n:∀ j,j<c->x.testBit j=false:=λj w=>by rw[e,Cm];simp[show ¬c<=j by omega]
 have t:x.testBit c=true:=by rw[e,Cm];simp_all
 have i:∀ j,(x &&& (x-1)).testBit j=(x.testBit j&&decide _):=λj=>by
  rw[e];exact VW c m j
 generalize x &&& (x-1)=y at *
 have r:∀ k,k<=c->iK x k=[]/\iK y k=[]:=by
  intro k
  induction k with
  | zero=>intro _;exact⟨rfl,rfl⟩
  | succ k f =>
   intro v;obtain⟨d,a⟩:=f (by omega);have g:=n k (by omega);have b:y.testBit k=false:=by simp_all
   refine⟨?_,?_⟩
   .show iK x k++_=[];rw[d,g];rfl
   .show iK y k++_=[];rw[a,b];rfl
 have q:∀ k,iK x (c+1+k)=c::iK y (c+1+k):=by
  intro k
  induction k with
  | zero =>
   obtain⟨d,a⟩:=r c (ja1 _);have b:y.testBit c=false:=by rw[i];simp
   show iK x c++_=c::(iK y c++_)
   simp_all
  | succ k f =>
   have u:∀ z,iK z (c+1+(k+1))=iK z (c+1+k)++if z.testBit (c+1+k) then [c+1+k] else []:=λz=>rfl
   have:decide (c+1+k≠c)=true:=decide_eq_true (by omega)
   simp_all
 have:=q (63-c)
 rw[show c+1+(63-c)=64 by omega] at *
 exact this
def PG:elems 0=[]:=PD 64
def Tab(w:ω):Prop:=∀ j,j<Lib.deBruijn64tab.length->w.cell? ⟨0,j,O⟩=S (.int .u8 (Lib.deBruijn64tab.getD j 0:Nat))
def YX(x a:Nat)(c:x<18446744073709551616)(f:x≠0)(d:x &&& (18446744073709551616-x)=a) :
  IntKind.u64.wrap (bits BinOp.and IntKind.u64 (x:Int) (IntKind.u64.wrap (-(x:Int)))*285870213051353865) / 288230376151711744=((a*285870213051353865 % 18446744073709551616 / 288230376151711744:Nat):Int):=by
 have b:IntKind.u64.wrap (-(x:Int))=((18446744073709551616-x:Nat):Int):=by rw[jbl];omega
 rw[b,bits_and_u64_nat x _ c (by omega),jbl];omega
def YW(x k a:Nat)(w)(d:((x:Int)==0)=false)
  (b:IntKind.u64.wrap (bits BinOp.and IntKind.u64 (x:Int) (IntKind.u64.wrap (-(x:Int)))*285870213051353865) / 288230376151711744=(a:Int))
  (g:a<64) (c:k<64) (f:w.cell? ⟨0,a,O⟩=S (.int .u8 (k:Int))) :
  κ prog 268 #[.int .u64 (x:Int)] w λe w'=>e=.returned (k:Int)/\w'=w:=by
 go_enter func268,ntmps268;go_wp2_with (omega)
 go_ret;simp_all
def YU(x:Nat)(w)(b:x≠0)(d:x<18446744073709551616)(i:Tab w) :
  κ prog 268 #[.int .u64 (x:Int)] w λe w'=>e=.returned ((Lib.ctz 64 x:Nat):Int)/\w'=w:=by
 obtain⟨f,a⟩:=Lib.lowest_bit 64 x b d;obtain⟨c,j⟩:=Lib.deBruijn64_at _ a;have g:=i _ c;rw[j] at *
 exact YW x _ _ w (by simp;omega) (YX x _ d b f) c a g
def JW{p n x}(w)(h:iQ w p n x) :
  κ prog 242 #[p] w λe w'=>e=.returned (.func (.func 267) #[] #[w])/\w'=w.alloc (.cells #[.int .u64 (x:Int)] 283):=by
 obtain⟨b,c1,a⟩:=h.cells;go_enter func242,ntmps242;go_wp2;go_ret;exact⟨rfl,rfl⟩
end S4
namespace S4
section
attribute [local go_sem] Oper.semAt_some
def uD(W a:ω):Prop:=Tab W->Tab a
def MQ(v:Nat)(b:v≠0)(a:v<18446744073709551616):IntKind.u64.wrap ((v:Int)-1)=((v-1:Nat):Int)/\bits .and .u64 (v:Int) ((v-1:Nat):Int)=((v &&& (v-1):Nat):Int):=by
 refine⟨?_,bits_and_u64_nat _ _ a (by omega)⟩;rw[jbl];omega
def IY{n}:Fence.wide.depth.isSome=true->1<=n:=λh=>by cases h
structure jP(v:Nat)(rest:List Nat):Prop where
 eq:rest=elems v
def jP.zero{a}(h:jP 0 a):a=[]:=h.eq.trans PG
def jP.len{v a}(h:jP v a):a.length<=64:=by
 rw[h.eq];unfold elems;rw[FN];exact cnt_le v 64
def jP.step{v a}(h:jP v a)(d:v≠0)(f:v<18446744073709551616):∃ r,a=Lib.ctz 64 v::r/\jP (v &&& (v-1)) r/\(v &&& (v-1))<v:=by
 obtain⟨b,c,_⟩:=PE v d f;exact⟨_,h.eq.trans b,⟨rfl⟩,c⟩
def all1_in(n l Bn x a)(k:jP x a)(M:x<18446744073709551616)(J Jx:List Nat->ω->Prop)
    (D:∀ pre y W,J pre W->pre.length<64->YieldAt Fence.wide (n-1) prog l #[((y:Nat):Int)] W λe b =>
      (e=.returned true/\J (pre++[y]) b/\uD W b)\/(e=.returned false/\Jx (pre++[y]) b))
    (W:ω) (a0:W.cell? ⟨Bn,0,O⟩=S (.int .u64 (x:Int))) (f:Tab W) (A:J [] W) :
    CallsIn Fence.wide n prog 267 #[.func (.yield l) #[] #[],Bn] W λe b=>(∃ v,e=.returned v) /\
      ((∃ t,t=a/\J t b)\/(∃ pre,pre <+: a/\Jx pre b)):=by
  have Q:=ah f;have B:χ (a.length<=64):=k.len;refine callsIn_of_wp func267 rfl trivial ?_ rfl;simp only[ntmps267,jbf,jau,jbJ,Nat.reduceAdd,Nat.reduceSub,Array.replicate_succ,Array.replicate_zero,List.push_toArray,List.append_toArray,jaP,jaU]
  gi_wp2
  gi_loopw [3] (λq wr=>∃(pre j:List Nat) (v:Nat),q=.int .u64 (v:Int)/\v<18446744073709551616/\a=pre++j/\jP v j/\Tab wr/\J pre wr)
    (λq wr=>(intOf q).toNat)
  case atStart =>
    exact⟨[],a,x,rfl,M,rfl,k,Q,A⟩
  case round =>
    obtain⟨pre,j,v,rfl,g,i,o,f,m⟩:=hrel;have s:=ah f;by_cases d:v=0
    . subst d;have I:=o.zero;subst I
      gi_wp2
      go_end0
      exact⟨⟨_,rfl⟩,.inl ⟨pre,by simp[i],m⟩⟩
    . obtain⟨r,K,N,V⟩:=o.step d g;obtain⟨X,R⟩:=MQ v d g;have F:=ah (YU v wr d g s);generalize Lib.ctz 64 v=c at *
      subst K;have C:pre.length<64:=by have:=B.out;rw[i] at *;simp at *;omega
      obtain⟨fn,Z,U,T,hy,P⟩:=(D pre c wr m C);have u:=ah i;generalize v &&& (v-1)=v2 at *
      have z:v2<18446744073709551616:=by omega
      generalize v-1=Y at *
      gi_wp2_with fail
      refine⟨trivial,IY,(callsIn_wide.2 F).mono ?_⟩;rintro e w' ⟨rfl,E⟩;have w:=E.symm;subst w
      gi_wp2_with fail
      refine⟨IY,P.mono ?_⟩;rintro e W3 (⟨rfl,G,L⟩|⟨rfl,H⟩)
      . gi_wp2
        go_roundw
        case rel=>exact⟨pre++[c],r,v2,rfl,z,by simp[u.out],N,(L s),G⟩
        case measure=>simp[intOf];omega
      . gi_wp2
        refine bodyPost_ret (results_none rfl _ _ _) rfl ?_;exact⟨⟨_,rfl⟩,.inr ⟨pre++[c],⟨r,by simp[u.out]⟩,H⟩⟩
def all_stops(n Bn x a)(g:jP x a)(k:x<18446744073709551616)(w:ω)(b:w.cell? ⟨Bn,0,O⟩=S (.int .u64 (x:Int)))(f:Tab w) :
  SeqStopsK Fence.wide n prog 267 #[Bn] (λy:Nat => #[Value.int .i64 (y:Int)]) uD (λm=>m=a) (λpre=>pre <+: a) 64 w:=λl J Jx W c _ _ o i =>
 all1_in n l Bn x a g k J Jx o W ((c.cell  (ja2 w _ b)).trans b) (λj d=>(c.cell  (ja2 w _ (f j d))).trans (f j d)) i
def Hw{A B C}(h:uD A B)(k:uD B C):uD A C:=λt=>k (h t)
def Hu(W l o d)(h:W.heap[l]?=S o)(f:o.isCells=false):uD W (W.putObj l d):=λt j b=>by
 have a:=t j b
 have c:(0:Nat)≠l:=λe=>by
  subst e;unfold World.cell? at *
  rw[h] at a;cases o<;>simp[Obj.isCells] at *
 exact(jab (jbx c)).trans a
end
end S4
namespace S4
section
attribute [local go_sem] Oper.semAt_some
def Ar{W a row B D t v}(h:Boxed W B t v)(d:W.grownBy a row)(c:∀ r,row=S r->D<=r/\∃ o,W.heap[r]?=S o/\o.isCells=false):Boxed a B t v :=
 h.kept d (λe=>by
  obtain⟨_,o,b,f⟩:=c B e.symm
  rw[show W.heap[B]?=_ from h] at *;cases b;cases f)
def Tab.below{w W n}(h:Tab w)(c:β n w W)(a:0<n):Tab W:=λj b=>(c.cell  a).trans (h j b)
def nT(a:List Nat)(b:Int):Int:=match a.find? (λk:Nat=>decide (b<=(k:Int))) with
 | some k=>(k:Int)
 | none=>((a.headD 0:Nat):Int)
def oW(a:List Nat):Bool := !a.isEmpty
def CV{b pre:List Nat}{y:Nat}{a}(h:pre++[y] <+: b)(d:∀ z∈pre,(z:Int)<a)(c:a<=(y:Int)):nT b a=(y:Int)/\oW b=true:=by
 obtain⟨r,rfl⟩:=h;constructor
 .have:((pre++[y])++r).find? (λk:Nat=>decide (a<=(k:Int)))=S y:=by
   rw[jaR,List.find?_append];rw[List.find?_eq_none.2 (λz f=>by simp_all)];simp[c]
  unfold nT;rw[this]
 .unfold oW;simp_all
def IX{a:List Nat}{b}(c:∀ z∈a,(z:Int)<b):nT a b=((a.headD 0:Nat):Int):=by
 unfold nT;rw[List.find?_eq_none.2 (λz d=>by simp_all)]
def Sz(W D o):Kept (λk=>k=D) W (W.putObj D o) :=
 ⟨rfl,rfl,rfl,by simp,λk _ a=>jbx a⟩
theorem yP{P c d R n}:∀(a:List Nat) W,(∀ D∈a,W.heap[D]?=S (.deferred (S [])))->a.Nodup ->
  (∀ b,Kept (λk=>k∈a) W b->LeavesInM Fence.wide n P c d R [] .returning b) ->
  LeavesInM Fence.wide n P c d R (a.map λD=>{target:=.collected D,args := #[]}) .returning W
 | [],W,_,_,hfin=>hfin W (Kept.refl _ W)
 | D::a,W,hall,hnd,hfin=>by
  refine⟨by simp,.inl ⟨D,_,rfl,run_takeDeferred (hall D (by simp)),?_⟩⟩;rw[List.nodup_cons] at hnd;refine yP a _ (λf g=>?_) hnd.2 (λb i=>hfin b ?_)
  .have j:f≠D:=λe=>hnd.1 (by rw[<- e];exact g)
   rw[jbx j];exact hall f (by simp[g])
  .exact((Sz W D _).mono (λk _ e=>by simp[show k=D from e])).trans (i.mono (λk _ e=>jbk _ e))
def IB{W:ω}{a B D row}(h:W.heap[D]?=S (.deferred (S [])))(d:D<B)(c:W.grownBy a row)(b:∀ r,row=S r->B<=r/\∃ o,W.heap[r]?=S o/\o.isCells=false):a.heap[D]?=S (.deferred (S [])) :=
 (c.block D (lt_of_some h) (λe=>by have:=(b D e.symm).1;omega)).trans h
def uV{W:ω}{D b o v}(h:W.heap[D]?=S (.deferred (S [])))(a:D≠b):(W.setCell ⟨b,o,O⟩ v).heap[D]?=S (.deferred (S [])) :=
 (heap_setCell_other W _ D v a).trans h
structure NxI(w W:ω)(B:Nat)(f v:Int)(b:Bool):Prop where
 b0:Boxed W B 3 (.int .i64 f)
 b1:Boxed W (B+1) 3 (.int .i64 v)
 b2:Boxed W (B+1+1) 4 (.bool b)
 bel:β w w W
def NxI.own{w W d B}{D:Nat}{f v b row}(h:NxI w W B f v b)(g:w<=D)(c:W.grownBy d row)(a:∀ r,row=S r->D<=r/\∃ o,W.heap[r]?=S o/\o.isCells=false):NxI w d B f v b :=
 ⟨Ar h.b0 c a,Ar h.b1 c a,Ar h.b2 c a,h.bel.grown c h.bel.size (λk e=>ja4 g (a k e).1)⟩
theorem NxI.alloc{w W B f v b}(h:NxI w W B f v b)(o):NxI w (W.alloc o) B f v b:=⟨h.b0.alloc o,h.b1.alloc o,h.b2.alloc o,h.bel.alloc h.bel.size o⟩
def NxI.put{w W B f v b}(h:NxI w W B f v b)(d:w<=B)(a:Int)(c:Bool):NxI w ((W.setCell ⟨B+1,0,O⟩ a).setCell ⟨B+1+1,0,O⟩ c) B f a c :=
 ⟨(h.b0.other (by omega) _).other (by omega) _,(h.b1.set _).other (by omega) _,(h.b2.other (by omega) _).set _,(h.bel.setCell  (show w.heap.size<=B+1 by omega) _).setCell  (show w.heap.size<=B+1+1 by omega) _⟩
def NxI.kept{w W d B f v b S}(h:NxI w W B f v b)(a:Kept S W d)(c:∀ k,S k->B+1+1<k/\w<=k):NxI w d B f v b :=
 ⟨(a.block _ h.b0.lt (λs=>by have:=c _ s;omega)).trans h.b0,(a.block _ h.b1.lt (λs=>by have:=c _ s;omega)).trans h.b1,(a.block _ h.b2.lt (λs=>by have:=c _ s;omega)).trans h.b2,h.bel.trans (a.below h.bel.size (λk s=>(c k s).2))⟩
def CW{w W f v c b d}(a)(t4:a.getD 4 undef=.pointer (S ⟨w+1,0,O⟩))(l:a.getD 5 undef=.pointer (S ⟨w+1+1,0,O⟩))(h:NxI w W w.heap.size f v b)(g:c=v)(i:d=b) :
  LeavesInM Fence.wide 9 prog f200 a (λe w'=>e=.returned (.tuple #[c,d])/\β w w w') [] .returning W:=by
 subst g i;refine⟨.tuple _,?_,rfl,h.bel⟩;have j:a[4]?.getD undef=.pointer (S ⟨w.heap.size+1,0,O⟩):=by simpa using t4
 have k:a[5]?.getD undef=.pointer (S ⟨w.heap.size+1+1,0,O⟩):=by simpa using l
 simp[results,f200,go_sem,h.b1.cell,h.b2.cell,j,k]
def DX{p n x}(H)(a7:jP x H)(f:Int)(w)(h:iQ w p n x)(a6:jY n x)(hT:Tab w) :
    κ prog 200 #[p,f] w λe w'=>e=.returned (.tuple #[nT H f,.bool (oW H)])/\β w w w':=by
  have HS:=ah h;have HT:=ah hT;have hx:=a6.lt;have a1  := ja2 w _ (hT 0 (by decide));have HX:=ah a7;refine(callsIn_wide (n:=9)).1 ?_;refine callsIn_of_wp_marks func200 rfl trivial ?_ rfl;simp only[ntmps200,jbf,jau,jbJ,Nat.reduceAdd,Nat.reduceSub,Array.replicate_succ,Array.replicate_zero,List.push_toArray,List.append_toArray,jaP,jaU];have a0:(((w.alloc (.cells #[f] 3)).alloc (.cells #[(0:Int)] 3)).alloc (.cells #[false] 4)).heap.size=w.heap.size+3:=by simp
  have X:χ (NxI w (((w.alloc (.cells #[f] 3)).alloc (.cells #[(0:Int)] 3)).alloc (.cells #[false] 4)) w.heap.size f 0 false):=by
    refine⟨((Boxed.new w _ _).alloc _).alloc _,?_,?_,(((ja0 _ w).alloc (ja1 _) _).alloc (by simp) _).alloc (by simp;omega) _⟩
    . have:=(Boxed.new (w.alloc (.cells #[f] 3)) 3 (.int .i64 0)).alloc (.cells #[false] 4)
      rw[jbZ] at this;exact this
    . have:=Boxed.new ((w.alloc (.cells #[f] 3)).alloc (.cells #[(0:Int)] 3)) 4 (.bool false)
      rw[jbZ,jbZ] at this;exact this
  gi_wp2_with fail
  generalize ((w.alloc (.cells #[f] 3)).alloc (.cells #[(0:Int)] 3)).alloc (.cells #[false] 4)=v at a0 X |-;refine⟨trivial,(callsIn_wide.2 (JW _ (HS.out.below X.out.bel))).mono ?_⟩;rintro e w' ⟨rfl,N⟩;subst N;have U:=ah (X.out.alloc (.cells #[.int .u64 (x:Int)] 283));have u:χ ((v.alloc (.cells #[.int .u64 (x:Int)] 283)).heap.size=w.heap.size+4):=by unfold χ;simp;omega
  have T:(v.alloc (.cells #[.int .u64 (x:Int)] 283)).cell? ⟨v,0,O⟩=S (.int .u64 (x:Int)):=(Boxed.new v _ _).cell;rw[a0] at T
  gi_wp2_with fail
  generalize v.alloc (.cells #[.int .u64 (x:Int)] 283)=W4 at u U T |-
  refine wpIn_rangeFunc_ownG rfl (by omega) (gf:=267) (lb := #[(w.heap.size+3:Nat)]) rfl trivial (enters_of func267 (by kernel_rfl) rfl)
    (all_stops 8 (w.heap.size+3) x H HX.out hx W4 T (HT.out.below U.out.bel a1)) Hw (λW l o Z _ h R _=>Hu W l o Z h R) (ja0 _ _) (λ_=>rfl)
    (λpre W=>(∀ z∈pre,((z:Nat):Int)<f)/\NxI w W w.heap.size f 0 false)
    (λc pre W=>c=.ret/\∃(E:List Nat) (y:Nat),pre=E++[y]/\(∀ z∈E,((z:Nat):Int)<f)/\f<=(y:Int)/\NxI w W w.heap.size f y true)
    (λs A B row d g j=>⟨d.1,d.2.own (by have:=u.out;omega) g j⟩)
    (λc s A B row d g j=>by
      obtain⟨C,E,y,q,P,J,h5⟩:=d
      exact⟨C,E,y,q,P,J,h5.own (by have:=u.out;omega) g j⟩)
    ⟨λ_ h=>(by cases h),U.out⟩
    (λy=>{tmps := #[p,f,undef,w.heap.size,(w.heap.size+1:Nat),(w.heap.size+1+1:Nat),((y:Nat):Int),undef,p,.func (.func 267) #[] #[(w.heap.size+3:Nat)],((y:Nat):Int),undef,undef,undef,undef,undef,undef,undef,undef],defers:=[]}) ?assign ?body ?done ?stop
  case assign =>
    intro l y W K i
    gi_wp2
    exact i
  case body =>
    rintro l pre y W ⟨G,a⟩ _;have HN:=ah a;have c0:=a.b0.cell;have c1:=a.b1.cell;have c2:=a.b2.cell;have f1:=a.b1.frozen;have f2:=a.b2.frozen;by_cases hf:f<=(y:Int)
    . gi_wp2
      exact⟨((jbq _ _ _).trans (jbq _ _ _)).from _,rfl,pre,y,rfl,G,hf,HN.put (ja1 _) _ _⟩
    . gi_wp2
      exact⟨KeepsFrom.refl _ _,λt=>t,λz hz=>(List.mem_append.1 hz).elim (G z) (λe=>by rw[jaW] at e;subst e;omega),HN⟩
  case stop =>
    rintro D c pre W hD Y ⟨rfl,E,y,rfl,C,q,a⟩ i;obtain⟨F,e2⟩:=CV Y C q
    gi_wp2
    refine yP [D] W (λD' h=>by rw[jaW] at h;subst h;exact i) (by simp) (λW' m=>CW _ rfl rfl (a.kept m (λk h=>by rw[jaW] at h;have:=u.out;omega)) F e2)
  case done =>
    rintro D ys W hD a3 ⟨G,a⟩ i;subst a3;have HM:=ah (IX G);have Q:=ah (a.alloc (.cells #[.int .u64 (x:Int)] 283));have a2:χ ((W.alloc (.cells #[.int .u64 (x:Int)] 283)).heap[D]?=S (.deferred (S []))):=(jap W _ D (lt_of_some i)).trans i;have M:χ ((W.alloc (.cells #[.int .u64 (x:Int)] 283)).cell? ⟨W,0,O⟩=S (.int .u64 (x:Int))):=(Boxed.new W _ _).cell;have b:χ (w.heap.size+4<=D/\D<(W.alloc (.cells #[.int .u64 (x:Int)] 283)).heap.size):=⟨by have:=u.out;omega,by have:=lt_of_some i;simp;omega⟩
    gi_wp2_with fail
    refine⟨trivial,(callsIn_wide.2 (JW W (HS.below a.bel))).mono ?_⟩;rintro e w' ⟨rfl,N⟩;subst N
    gi_wp2_with fail
    generalize W.alloc _=W5 at Q a2 M b |-;generalize W.heap.size=B5 at M |-
    refine wpIn_rangeFunc_ownG rfl (by omega) (gf:=267)  rfl trivial (enters_of func267 (by kernel_rfl) rfl)
      (all_stops 8 B5 x ys HX hx W5 M (HT.below Q.bel a1)) Hw (λW l o Z _ h R _=>Hu W l o Z h R) (ja0 _ _) (λ_=>rfl)
      (λpre W=>pre=[]/\W.heap[D]?=S _/\NxI w W w.heap.size f 0 false)
      (λc pre W=>c=.ret/\W.heap[D]?=S _/\∃(y:Nat),pre=[y]/\NxI w W w.heap.size f y true)
      (λs A B row d g j=>⟨d.1,IB d.2.1 b.2 g j,d.2.2.own (by have:=b.out;omega) g j⟩)
      (λc s A B row d g j=>by
        obtain⟨C,q,y,P,J⟩:=d
        exact⟨C,IB q b.2 g j,y,P,J.own (by have:=b.out;omega) g j⟩)
      ⟨rfl,a2,Q⟩
      (λy=>{tmps := #[p,f,undef,w.heap.size,(w.heap.size+1:Nat),(w.heap.size+1+1:Nat),undef,((y:Nat):Int),p,.func (.func 267) #[] #[(w.heap.size+3:Nat)],undef,undef,undef,undef,undef,p,.func (.func 267) #[] #[B5],((y:Nat):Int),undef],defers:=[]}) ?assign2 ?body2 ?done2 ?stop2
    case assign2 =>
      intro l y W K i
      gi_wp2
      exact i
    case body2 =>
      rintro l pre y W ⟨rfl,m,a⟩ _;have c1:=a.b1.cell;have c2:=a.b2.cell;have f1:=a.b1.frozen;have f2:=a.b2.frozen
      gi_wp2
      exact⟨((jbq _ _ _).trans (jbq _ _ _)).from _,rfl,uV (uV m (by have:=b.out;omega)) (by have:=b.out;omega),y,rfl,a.put (ja1 _) _ _⟩
    case stop2 =>
      rintro L c pre W a4 Y ⟨rfl,m,y,rfl,a⟩ V
      have F:ys.headD 0=y/\oW ys=true:=by
        obtain⟨r,rfl⟩:=Y;exact⟨rfl,rfl⟩
      gi_wp2
      refine yP [L,D] W (λD' h=>by
        simp at h;rcases h with rfl|rfl
        . exact V
        . exact m) (by have:=b.out;simp;omega) (λW' I=>CW _ rfl rfl (a.kept I (λk h=>by simp at h;have:=b.out;omega)) (HM.trans (by rw[F.1])) F.2)
    case done2 =>
      rintro L zs W a4 a5 ⟨h0,m,a⟩ V;subst a5;subst h0;have c1:=a.b1.cell;have c2:=a.b2.cell;have f1:=a.b1.frozen;have f2:=a.b2.frozen
      gi_wp2
      refine yP [L,D] _ (λD' h=>by
        simp at h;rcases h with rfl|rfl
        . exact uV (uV V (by have:=b.out;omega)) (by have:=b.out;omega)
        . exact uV (uV m (by have:=b.out;omega)) (by have:=b.out;omega)) (by have:=b.out;simp;omega) (λW' I=>CW _ rfl rfl ((a.put (ja1 _) 0 false).kept I (λk h=>by simp at h;have:=b.out;omega)) HM rfl)
end
end S4
namespace S4
def CO{n i}(a:iD n i=true):∃ k:Nat,i=k/\k<n:=by
 unfold iD at *
 simp at *
 exact⟨i.toNat,by omega,by omega⟩
def TN{n k}(h:k<n):iD n (k:Int)=true:=by unfold iD;simp;omega
def FQ(x a b)(h:a<=b):iK x a <+: iK x b:=by
 induction b with
 | zero =>
  simp_all
 | succ b c =>
  by_cases e:a=b+1
  .simp_all
  .exact(c (by omega)).trans (List.prefix_append _ _)
def Uc{x k a f}(h:jP x a)(i:k<64)(d:x.testBit k=true)(c:f<=(k:Int))(m:∀ j:Nat,f<=(j:Int)->j<k->x.testBit j=false):nT a f=(k:Int)/\oW a=true:=by
 have b:iK x k++[k] <+: a:=by
  rw[h.eq];have:=FQ x (k+1) 64 (by omega)
  have e:iK x (k+1)=iK x k++[k]:=by show iK x k++_=_;rw[d];rfl
  rw[e] at this;exact this
 refine CV b (λz g=>?_) c;obtain⟨n,l⟩:=(vV x k z).1 g;by_cases q:f<=(z:Int)
 .simp_all
 .omega
def Ue{x a f}(h:jP x a)(b:f<0\/∀ j:Nat,f<=(j:Int)->j<64->x.testBit j=false):nT a f=((a.headD 0:Nat):Int):=by
 rcases b with b|b
 .cases a with
  | nil=>rfl
  | cons y c =>
   have:f<=(y:Int):=by omega
   exact(CV (pre:=[]) ⟨c,rfl⟩ (λ_ h=>by cases h) this).1
 .refine IX (λz d=>?_);rw[h.eq] at *
  obtain⟨i,g⟩:=(vV x 64 z).1 d;by_cases q:f<=(z:Int)
  .simp_all
  .omega
def QV{x k a}(h:jP x a)(d:k<64)(m:x.testBit k=true)(i:∀ j,j<k->x.testBit j=false):a.headD 0=k/\oW a=true:=by
 have c:iK x k=[]:=by
  cases q:iK x k with
  | nil=>rfl
  | cons y g =>
   obtain⟨l,f⟩:=(vV x k y).1 (by rw[q];simp);simp_all
 have:=FQ x (k+1) 64 (by omega)
 have e:iK x (k+1)=[k]:=by show iK x k++_=_;simp_all
 rw[e] at this;obtain⟨r,b⟩:=this;have  := h.eq.trans b.symm;rw[this];exact⟨rfl,rfl⟩
def Uh{x a}(h:jP x a)(d:∀ j,j<64->x.testBit j=false):a=[]:=by
 cases q:a with
 | nil=>rfl
 | cons y c =>
  obtain⟨f,b⟩:=(vV x 64 y).1 (by show y∈elems x;rw[<- h.eq,q];simp);simp_all
end S4
namespace S4
def Three(t:TypeId)(w:ω)(p:Nat)(r b l:Int):Prop:=w.heap[p]?=S (.cells #[r,b,l] t (0,0))
def Three.cells{t w p r b l}(h:Three t w p r b l) :
  w.cell? ⟨p,0,O⟩=S (r:υ)/\w.cell? ⟨p,1,O⟩=S (b:υ)/\w.cell? ⟨p,2,O⟩=S (l:υ)/\w.frozen? ⟨p,2,O⟩=false:=by
 have a:w.heap[p]?=_:=h;refine⟨?_,?_,?_,?_⟩<;>simp[World.cell?,World.frozen?,a]
def Three.set{t w p r b l}(h:Three t w p r b l)(a:Int):Three t (w.setCell ⟨p,2,O⟩ a) p r b a:=by
 unfold Three;rw[heap_setCell_same w p 2 _ _ _ h];rfl
def Three.below{t w w' p r b l}(h:Three t w p r b l)(a:β w w w'):Three t w' p r b l :=
 (a.block p (lt_of_some h)).trans h
def Ub(w:ω)(o):(w.alloc o).heap[w.heap.size]?=S o:=by
 show(w.heap.push o)[w.heap.size]?=S o
 simp
def inB(n a:Int):Bool:=decide (0<=n/\n<=a)
def mM(n a:Int)(w):κ prog 237 #[n,a] w λe w'=>e=.returned (.bool (inB n a))/\w'=w:=by
 by_cases c:0<=n
 .have b:χ (decide (n<=a)=inB n a):=by unfold χ inB;simp[c]
  go_enter func237,ntmps237;go_wp2;go_ret;exact⟨rU b,rfl⟩
 .have b:χ (false=inB n a):=by unfold χ inB;simp[c]
  go_enter func237,ntmps237;go_wp2;go_ret;exact⟨rU b,rfl⟩
def Nv(r b w)(h:(inB r 1000&&inB b 1000)=false) :
  κ prog 191 #[r,b] w λe w'=>e=.returned (.tuple #[.pointer O,.iface 96 (.int .i64 1)])/\w'=w:=by
 have a:=mM r 1000 w;have d:=mM b 1000 w
 cases c:inB r 1000 with
 | false =>
  rw[c] at a;go_enter func191,ntmps191;go_wp2_with fail;refine cSt a ?_;go_wp2;go_ret2;exact⟨rfl,rfl⟩
 | true =>
  have i:inB b 1000=false:=by simpa [c] using h
  rw[c] at a;rw[i] at d;go_enter func191,ntmps191;go_wp2_with fail;refine cEq a λw' f=>?_
  have g:=f.symm;subst g;go_wp2_with fail;refine cSt d ?_;go_wp2;go_ret2;exact⟨rfl,rfl⟩
def EG(r b w)(d:inB r 1000=true)(i:inB b 1000=true) :
  κ prog 191 #[r,b] w λe w'=>e=.returned (.tuple #[w,.nilIface])/\Three 280 w' w r b b/\β w w w':=by
 have g:=mM r 1000 w;have f:=mM b 1000 w;rw[d] at *
 rw[i] at *
 go_enter func191,ntmps191;go_wp2_with fail;refine cEq g λw' a=>?_
 have c:=a.symm;subst c;go_wp2_with fail;refine cSt f ?_;go_wp2;go_ret2;exact⟨rfl,Ub w _,(ja0 _ w).alloc (ja1 _) _⟩
def YM{p:Nat}(n w)(h:inB n 100000=false) :
  κ prog 199 #[p,n] w λe w'=>e=.returned (.iface 96 (.int .i64 1))/\w'=w:=by
 go_enter func199,ntmps199;go_wp2_with fail;refine cSt (mM n 100000 w) ?_;go_wp2;go_ret;simp_all
def gU(r b l n:Int):Int:=if b<l+n*r then b else l+n*r
theorem Three.drew{t w p r b l}(h:Three t w p r b l):Three t w.drew p r b l:=h
def YN{p r b l}(n w)(h:Three 280 w p r b l)(i:inB n 100000=true)(a:0<=r/\r<=1000)(j:0<=l/\l<=1000) :
  κ prog 199 #[p,n] w λe w'=>e=.returned .nilIface/\Three 280 w' p r b (gU r b l n)/\Kept (λk=>k=p) w w':=by
 have d:χ (Three 280 w p r b l):=h;obtain⟨q,c1,c2,m⟩:=h.cells;have f:=mM n 100000 w;rw[i] at f;have c:0<=n/\n<=100000:=by unfold inB at *;simpa using i
 have o:IntKind.i64.wrap (n*r)=n*r:=by
  have  := Int.mul_nonneg c.1 a.1;have  := Int.mul_le_mul c.2 a.2 a.1 (by omega);exact ja9 _ (by omega)
 have s:IntKind.i64.wrap (l+n*r)=l+n*r:=by
  have  := Int.mul_nonneg c.1 a.1;have  := Int.mul_le_mul c.2 a.2 a.1 (by omega);exact ja9 _ (by omega)
 by_cases g:b<l+n*r
 .have HV:χ (gU r b l n=b):=by unfold χ gU;rw[if_pos g]
  go_enter func199,ntmps199;go_wp2_with fail;refine cSt f ?_;go_wp2_with fail;go_region;go_wp2;go_ret;exact⟨rfl,by rw[HV.out];first|exact(d.set _).drew|(rw[show min (l+n*r) b=b by omega];exact(d.set _).drew),(Kept.setCell (S:=λk=>k=p) (Kept.refl _ w) (p:=⟨p,2,O⟩) (.inl rfl) _).drew⟩
 .have HV:χ (gU r b l n=l+n*r):=by unfold χ gU;rw[if_neg g]
  go_enter func199,ntmps199;go_wp2_with fail;refine cSt f ?_;go_wp2_with fail;go_region;go_wp2;go_ret;exact⟨rfl,by rw[HV.out];first|exact(d.set _).drew|(rw[show min (l+n*r) b=l+n*r by omega];exact(d.set _).drew),(Kept.setCell (S:=λk=>k=p) (Kept.refl _ w)  (.inl rfl) _).drew⟩
def jU(l n:Int):Int:=if inB n l then l-n else l
def EH{p r b l}(n:Int)(w)(h:Three 280 w p r b l)(g:0<=l/\l<=1000) :
  κ prog 201 #[p,n] w λe w'=>e=.returned (.bool (inB n l))/\Three 280 w' p r b (jU l n)/\Kept (λk=>k=p) w w':=by
 have d:χ (Three 280 w p r b l):=h;obtain⟨j,c1,c2,i⟩:=h.cells;have c:=mM n l w
 cases a:inB n l with
 | false =>
  rw[a] at c;have HV:χ (jU l n=l):=by unfold χ jU;simp[a]
  go_enter func201,ntmps201;go_wp2_with fail;refine cSt c ?_;go_wp2;go_ret;exact⟨rfl,by rw[HV.out];exact d,Kept.refl _ w⟩
 | true =>
  rw[a] at c;have f:0<=n/\n<=l:=by unfold inB at *;simpa using a
  have HV:χ (jU l n=l-n):=by unfold χ jU;simp[a]
  have m:IntKind.i64.wrap (l-n)=l-n:=ja9 _ (by omega);go_enter func201,ntmps201;go_wp2_with fail;refine cSt c ?_;go_wp2;go_ret;exact⟨rfl,by rw[HV.out];exact d.set _,Kept.setCell (S:=λk=>k=p) (Kept.refl _ w)  (.inl rfl) _⟩
end S4
namespace S4
def YK{r b l n}{k:Nat}(c:0<=r)(a:(k:Int)<=n)(h:(k:Int)=n\/b<=gU r b l k\/r<=0):gU r b l k=gU r b l n:=by
 rcases h with h|h|h
 .rw[h]
 .have d  := Int.mul_le_mul_of_nonneg_right a c;unfold gU at *
  omega
 .have:r=0:=by omega
  subst this;unfold gU;simp
def YL{r b l}{k:Nat}(h:gU r b l k<b):(if gU r b l k+r<b then gU r b l k+r else b)=gU r b l ((k:Int)+1):=by
 have e:((k:Int)+1)*r=(k:Int)*r+r:=by rw[Int.add_mul,Int.one_mul]
 unfold gU at *
 omega
def D8{r b l n}(a:0<=r)(d:0<=l)(g:0<=b)(c:0<=n):0<=gU r b l n/\gU r b l n<=b:=by
 have f  := Int.mul_nonneg c a;unfold gU;omega
end S4
structure JV where
 rt:Int
 kind:Int
 file:Int
 rate:Int
 burst:Int
 l:List Int
 deep:Nat
 n:Nat
 x:Nat
 last:Int
 stage:Int
 lv:Int
def JV.above(j:JV):List Int:=j.l.take j.deep
def JV.jr(j:JV)(s:SV)(c:Int):Bool:=if j.kind=1 then true else if j.kind=2 then decide (0<s.found j.above c) else decide (0<=s.found j.above c)
def JV.state(j:JV):Int:=if j.stage=1/\S4.cnt j.x 64=0 then 3 else j.stage
def JV.into(j:JV):Int:=if j.kind=2 then j.l.headD 0 else j.file
def JV.some(j:JV):Bool:=S4.oW (S4.elems j.x)
def JV.pick(j:JV):Int:=S4.nT (S4.elems j.x) (j.last+1)
def JV.took(j:JV):JV:={j with lv:=j.lv-4}
def JV.went(j:JV)(c:Int):JV:={j with x:=S4.fK j.n j.x c false,last:=c,lv:=j.lv-4}
def JV.put(j:JV)(x:Nat):JV:={j with x:=x}
def JV.at(j:JV)(st:Int):JV:={j with stage:=st}
def JV.fell(j:JV):JV:={j with stage:=5,lv:=j.lv-4}
def JV.moved(j:JV)(s:SV)(c:Int):SV × Int:=s.move j.into c (s.read j.l c).1
def stepS(s:SV)(j:JV):SV:=if j.stage=1/\j.some=true/\S4.inB 4 j.lv=true/\j.jr s j.pick=true then (j.moved s j.pick).1 else s
def stepJ(s:SV)(j:JV):JV:=if j.stage=1/\j.some=true/\S4.inB 4 j.lv=true then (if j.jr s j.pick=true/\(j.moved s j.pick).2≠0 then j.fell else j.went j.pick) else j
def eP(s:SV)(j:JV):Bool:=decide (j.stage=1/\j.some=true/\S4.inB 4 j.lv=true/\¬(j.jr s j.pick=true/\(j.moved s j.pick).2≠0))
def bF(s:SV)(j:JV):Int:=if j.stage=1 then (if j.some=true/\S4.inB 4 j.lv=true/\j.jr s j.pick=true then (j.moved s j.pick).2 else 0) else 9
def SV.ig(s:SV)(n:Int):SV:=match s.file n with
 | none=>s
 | some v=>s.upd n.toNat v.flush
def SV.iG(s:SV)(l:List Int):SV:=l.foldl SV.ig s
def SV.BD(s:SV)(l n):s.iG (l++[n])=(s.iG l).ig n:=by
 unfold SV.iG;simp_all
def dO(s:SV)(n back:Int):SV × Int:=match s.file n with
 | none=>(s,4)
 | some v=>(s.upd n.toNat (v.link back),v.jg back)
def dQ(s:SV)(j:JV):SV:=if j.state=3 then (if j.kind=2 then (dO s (j.l.headD 0) j.file).1 else s.iG (s.walk j.file).1) else s
def dF(s:SV)(j:JV):Int:=if j.state=3 then (if j.kind=2 then (dO s (j.l.headD 0) j.file).2 else (s.walk j.file).2) else 9
def dY(s:SV)(j:JV):JV:=if j.state=3/\j.kind=2/\(dO s (j.l.headD 0) j.file).2≠0 then j.at 5 else j
def nG(j:JV)(a:Bool):JV:=if a=true then (if j.stage=1 then j.at 2 else j) else (if j.stage=2 then j.at 1 else j)
def fD(j:JV)(a:Bool):Int:=if a=true then (if j.stage=1 then 0 else 9) else (if j.stage=2 then 0 else 9)
def eU(j:JV)(c:Int):JV:=if j.kind=2\/4<=j.stage then j else j.put (S4.fK j.n j.x c true)
def kM(j:JV)(n:Int):JV:=if S4.inB n 100000=true then {j with lv:=S4.gU j.rate j.burst j.lv n} else j
def mF(j:JV)(a:Bool):JV:=j.at (if a=true then 4 else 5)
structure JOk(s:SV)(C:Nat)(j:JV):Prop where
 good:s.good (C:Int) j.l
 ne:j.l≠[]
 len:j.l.length<=5
 n:j.n=C
 c40:C<=40
 set:S4.jY j.n j.x
 kind:j.kind=1\/j.kind=2\/j.kind=3
 file:j.kind≠2->∃ v,s.file j.file=S v
 deep:j.deep<=j.l.length
 idx:j.kind≠1->(Lib.idxOf j.l j.file=(j.deep:Int)/\j.deep<j.l.length)\/(Lib.idxOf j.l j.file = -1/\j.deep=j.l.length)
 stage:j.stage=1\/j.stage=2\/j.stage=4\/j.stage=5
 last : -1<=j.last/\j.last<64
 rate:0<=j.rate/\j.rate<=1000
 lv:0<=j.lv/\j.lv<=j.burst/\j.burst<=1000
def Ud{x f}(h:S4.oW (S4.elems x)=true):∃ k:Nat,S4.nT (S4.elems x) f=(k:Int)/\k∈S4.elems x:=by
 unfold S4.nT;split
 .next k a=>exact⟨k,rfl,List.mem_of_find?_eq_some a⟩
 .cases b:S4.elems x with
  | nil=>rw[b] at h;cases h
  | cons y r=>exact⟨y,rfl,jai⟩
theorem JOk.pick{s C j}(h:JOk s C j)(c:j.some=true):∃ k:Nat,j.pick=(k:Int)/\k<C/\k<64:=by
 obtain⟨k,d,a⟩:=Ud  c;obtain⟨f,b⟩:=(S4.vV j.x 64 k).1 a;refine⟨k,d,?_,f⟩;have i:=h.n;by_cases g:k<j.n
 .omega
 .rw[h.set.hi k (by omega)] at *;cases b
def JOk.root{s C j}(h:JOk s C j):∃(n:Int) (r:List Int) (v:IV),j.l=n::r/\s.file n=S v/\v.h.c=C:=by
 cases a:j.l with
 | nil=>exact absurd a h.ne
 | cons n r =>
  obtain⟨v,d,b⟩:=h.good n (by simp_all);simp_all
theorem JOk.into{s C j}(h:JOk s C j):∃ v,s.file j.into=S v:=by
 unfold JV.into;by_cases a:j.kind=2
 .obtain⟨n,r,v,c,b,_⟩:=h.root;simp_all
 .rw[if_neg a];exact h.file a
theorem JOk.read{s C m j}(h:JOk s C j)(a:s.ok m){k}(b:k<C):(s.read j.l (k:Int)).2=0/\(s.read j.l (k:Int)).1.size=64 :=
 SV.l9 h.good a h.ne ⟨by omega,by omega⟩
structure SV.alike(s z:SV):Prop where
 head:∀ n v,s.file n=S v->∃ u,z.file n=S u/\u.h.c=v.h.c
def SV.alike.refl(s:SV):s.alike s:=⟨λ_ v h=>⟨v,h,rfl⟩⟩
def SV.alike.trans{a b c:SV}(h:a.alike b)(k:b.alike c):a.alike c:=⟨λn v d=>by
 obtain⟨u,f,g⟩:=h.head n v d;obtain⟨t,j,i⟩:=k.head n u f
 simp_all⟩
theorem SV.alike.upd{s:SV}{n v u}(a:s.file n=S v)(d:u.h.c=v.h.c):s.alike (s.upd n.toNat u):=⟨λk t b=>by
 rw[SV.Bv a];by_cases e:k=n
 .simp_all
 .simp_all⟩
def IV.Tf(v:IV)(b):(v.link b).h.c=v.h.c:=by
 unfold IV.link;split
 .unfold IV.kV;split<;>rfl
 .rfl
theorem SV.alike.move(s:SV)(n c t):s.alike (s.move n c t).1:=by
 unfold SV.move;split
 .exact .refl s
 .next v a =>
  split
  .exact .upd a (by rw[IV.xY])
  .split
   .exact .upd a (by rw[IV.Ag])
   .exact .upd a (by rw[IV.yG])
def SV.alike.link(s:SV)(n b):s.alike (dO s n b).1:=by
 unfold dO;split
 .exact .refl s
 .next v a=>exact .upd a (IV.Tf v b)
theorem SV.alike.ig(s:SV)(n):s.alike (s.ig n):=by
 unfold SV.ig;split
 .exact .refl s
 .next v a=>exact .upd a rfl
theorem SV.alike.iG(l):∀ s:SV,s.alike (s.iG l):=by
 induction l with
 | nil=>intro s;exact .refl s
 | cons n r a=>intro s;exact(SV.alike.ig s n).trans (a _)
def JOk.over{s z C j}(h:JOk s C j)(b:s.alike z):JOk z C j :=
 {h with
  good:=λn f=>by
   obtain⟨v,a,g⟩:=h.good n f;obtain⟨u,d,i⟩:=b.head n v a;simp_all
  file:=λc=>by
   obtain⟨v,a⟩:=h.file c;obtain⟨u,d,_⟩:=b.head _ v a
   simp_all}
theorem JOk.at{s C j}(h:JOk s C j){st}(a:st=1\/st=2\/st=4\/st=5):JOk s C (j.at st):={h with stage:=a}
theorem JOk.put{s C j}(h:JOk s C j)(c b):JOk s C (j.put (S4.fK j.n j.x c b)):={h with set:=S4.zh h.set c b}
theorem JOk.went{s C j}(h:JOk s C j)(b:S4.inB 4 j.lv=true){k:Nat}(a:k<64):JOk s C (j.went (k:Int)):=by
 have c:4<=j.lv:=by unfold S4.inB at *;simp_all
 exact {h with set:=S4.zh h.set _ _,last:=⟨by show -1<=(k:Int);omega,by show(k:Int)<64;omega⟩,lv:=⟨by show 0<=j.lv-4;omega,by show j.lv-4<=j.burst;have:=h.lv;omega,h.lv.2.2⟩}
theorem JOk.fell{s C j}(h:JOk s C j)(a:S4.inB 4 j.lv=true):JOk s C j.fell:=by
 have b:4<=j.lv:=by unfold S4.inB at *;simp_all
 exact {h with stage:=.inr (.inr (.inr rfl)),lv:=⟨by show 0<=j.lv-4;omega,by show j.lv-4<=j.burst;have:=h.lv;omega,h.lv.2.2⟩}
def JOk.step{s C j}(h:JOk s C j):JOk (stepS s j) C (stepJ s j):=by
 have c:s.alike (stepS s j):=by
  unfold stepS;split
  .exact .move s _ _ _
  .exact .refl s
 have b:JOk s C (stepJ s j):=by
  unfold stepJ;split
  .next a =>
   obtain⟨k,d,_,f⟩:=h.pick a.2.1;split
   .exact h.fell a.2.2
   .rw[d];exact h.went a.2.2 f
  .exact h
 exact b.over c
def JOk.settle{s C j}(h:JOk s C j):JOk (dQ s j) C (dY s j):=by
 have b:s.alike (dQ s j):=by
  unfold dQ;split
  .split
   .exact .link s _ _
   .exact .iG _ s
  .exact .refl s
 have a:JOk s C (dY s j):=by
  unfold dY;split
  .exact h.at (.inr (.inr (.inr rfl)))
  .exact h
 exact a.over b
def JOk.pause{s C j}(h:JOk s C j)(a):JOk s C (nG j a):=by
 unfold nG;split
 .split
  .exact h.at (.inr (.inl rfl))
  .exact h
 .split
  .exact h.at (.inl rfl)
  .exact h
def JOk.dirty{s C j}(h:JOk s C j)(c):JOk s C (eU j c):=by
 unfold eU;split
 .exact h
 .exact h.put c true
def JOk.tick{s C j}(h:JOk s C j)(n):JOk s C (kM j n):=by
 unfold kM;split
 .next c =>
  have a:0<=n:=by unfold S4.inB at *;simp_all
  have:=S4.D8  (b:=j.burst)   h.rate.1 h.lv.1 (by have:=h.lv;omega) a
  exact {h with lv:=⟨this.1,this.2,h.lv.2.2⟩}
 .exact h
def Linked(s:SV):Int->List Int->Prop
 | n,[]=>n = -1
 | n,k::r=>n=k/\n ≠ -1/\∃ v,s.file n=S v/\Linked s v.h.b r
def Linked.only{s}:∀a b n,Linked s n a->Linked s n b->a=b:=by
 intro a
 induction a with
 | nil =>
  intro b n d c
  cases b with
  | nil=>rfl
  | cons k r=>exact absurd d c.2.1
 | cons k r l =>
  intro b n d c
  cases b with
  | nil=>exact absurd c d.2.1
  | cons u f =>
   obtain⟨o,_,v,g,i⟩:=d;obtain⟨m,_,t,q,j⟩:=c;rw[g] at *
   cases q;rw[<- o,<- m,l f _ i j]
def Linked.part{s}:∀p q k n,Linked s n (p++k::q)->Linked s k (k::q):=by
 intro p
 induction p with
 | nil=>intro q k n h;have:=h.1;simp_all
 | cons a r b=>intro q k n h;obtain⟨_,_,v,_,c⟩:=h;exact b q k _ c
def Linked.nodup{s}:∀a n,Linked s n a->a.Nodup:=by
 intro a
 induction a with
 | nil=>simp_all
 | cons k r f =>
  intro n h;have b:=h;obtain⟨i,_,v,m,l⟩:=h;refine List.nodup_cons.2 ⟨λd=>?_,f _ l⟩;obtain⟨p,q,c⟩:=jbR d;have g:=Linked.part (k::p) q k n (by rw[c] at b;exact b);rw[i] at b;have j:=Linked.only _ _ _ b g;rw[c] at *
  have:=congrArg List.length j
  simp at *
  omega
def SV.Za{s f}:∀k l n,(s.jq f k l n).2=0->∃ r,(s.jq f k l n).1=l++r/\Linked s n r:=by
 intro k
 induction k with
 | zero=>intro l n h;exact absurd h (by show ¬(10:Int)=0;decide)
 | succ k i =>
  intro l n h;by_cases a:n = -1
  .subst a;rw[SV.xC];exact⟨[],by simp,rfl⟩
  .cases b:s.file n with
   | none=>rw[SV.xG a b] at h;omega
   | some v =>
    by_cases d:l.length=5
    .rw[SV.xE a b d] at h;omega
    .by_cases g:v.h.c=f
     .rw[SV.vI a b d g] at *
      obtain⟨r,m,j⟩:=i _ _ h;exact⟨n::r,by simp_all,rfl,a,v,b,j⟩
     .rw[SV.walk_other a b d g] at h;omega
def SV.sH{s root}(h:(s.walk root).2=0):Linked s root (s.walk root).1:=by
 obtain⟨r,a,b⟩:=SV.Za 6 [] root h;have:(s.walk root).1=r:=a
 simp_all
def SV.Lu{s:SV}{root}(h:(s.walk root).2=0)(c:(s.walk root).1≠[]):∃ r,(s.walk root).1=root::r:=by
 have a:=SV.sH h
 cases b:(s.walk root).1 with
 | nil=>simp_all
 | cons k r=>rw[b] at a;exact⟨r,by rw[a.1]⟩
structure aP where
 root:Int
 kind:Int
 file:Int
 rate:Int
 burst:Int
def oK(s:SV)(l:List Int)(f:Int):Int:=match s.file f with
 | none=>4
 | some v=>if l.contains f=true\/v.h.b ≠ -1\/v.h.c≠s.iF l then 2 else 0
def kP(s:SV)(l:List Int)(d:aP):Int :=
 if d.kind=1 then oK s l d.file
 else if d.kind=2\/d.kind=3 then (if d.kind=2/\d.file = -1\/(l.drop 1).contains d.file=true then 0 else 4)
 else 1
def newF(s:SV)(d:aP):Int :=
 if (s.walk d.root).2≠0 then (s.walk d.root).2
 else if (s.walk d.root).1=[] then 4
 else if (S4.inB d.rate 1000&&S4.inB d.burst 1000)=false then 1
 else kP s (s.walk d.root).1 d
def pJ(l:List Int)(d:aP):Nat:=if d.kind=1 then 0 else if Lib.idxOf l d.file = -1 then l.length else (Lib.idxOf l d.file).toNat
def cO(s:SV)(d:aP):JV:=⟨d.root,d.kind,d.file,d.rate,d.burst,(s.walk d.root).1,pJ (s.walk d.root).1 d,(s.iF (s.walk d.root).1).toNat,0,-1,2,d.burst⟩
def kN(s:SV)(j:JV):Nat->Nat
 | 0=>0
 | k+1=>S4.fK j.n (kN s j k) (k:Int) (j.jr s (k:Int))
def iw(s:SV)(d:aP):JV:=(cO s d).put (kN s (cO s d) (cO s d).n)
def LC(s j)(a:j.n<=64):∀ k,S4.jY j.n (kN s j k):=by
 intro k
 induction k with
 | zero=>exact S4.KC _ a
 | succ k b=>exact S4.zh b _ _
def uP(l f)(h:l.Nodup):(Lib.idxOf l f = -1/\f ∉ l)\/∃ k:Nat,Lib.idxOf l f=(k:Int)/\k<l.length/\l.getD k 0=f:=by
 by_cases b:f∈l
 .right
  obtain⟨k,c,e⟩:=List.getElem_of_mem b;have hd:l.getD k 0=f:=by simp_all
  have d:=Lib.idxOf_hit l _ k f c (ja1 _) hd (λj a m=>by
   have i:j<l.length:=by omega
   have g:l[j]=l[k]:=by simp_all
   exact List.pairwise_iff_getElem.1 h j k i c a g)
  rw[jaT] at *
  exact⟨k,d,c,hd⟩
 .left
  refine⟨?_,b⟩
  have d:=Lib.idxOf_miss l _ f (λj a e=>b (by
   rw[ja6,ja5 a] at e
   rw[<- e];exact jad a))
  simp_all
structure xP(s:SV)(d:aP)(m:Nat):Prop where
 ok:s.ok m
 w0:(s.walk d.root).2=0
 ne:(s.walk d.root).1≠[]
 rt:S4.inB d.rate 1000=true
 bu:S4.inB d.burst 1000=true
 ck:kP s (s.walk d.root).1 d=0
def CQ{s d m}(b:s.ok m)(h:newF s d=0):xP s d m:=by
 unfold newF at h;split at h
 .omega
 .next g =>
  split at h
  .cases h
  .next f =>
   split at h
   .cases h
   .next c =>
    have a:(S4.inB d.rate 1000&&S4.inB d.burst 1000)=true:=by simpa using c
    rw[jb3] at *
    exact⟨b,jag g,f,a.1,a.2,h⟩
def EP{s l d}(h:kP s l d=0):d.kind=1\/d.kind=2\/d.kind=3:=by
 unfold kP at h;omega
def xP.jok{s d m}(h:xP s d m):∃ C,JOk s C (cO s d)/\s.iF (s.walk d.root).1=(C:Int)/\1<=C:=by
 obtain⟨a,B,_⟩:=s.walk_good d.root;have g:=Linked.nodup _ _ (SV.sH h.w0);have H:=a.iF h.ne
 obtain⟨n,r,q⟩:∃ n r,(s.walk d.root).1=n::r:=by
  cases y:(s.walk d.root).1 with
  | nil=>exact absurd y h.ne
  | cons n r=>exact⟨n,r,rfl⟩
 obtain⟨v,E,F⟩:=a n (by rw[q];exact jai);have G:=HV.dS (h.ok _ _ (SV.eG E).2.2).h;have f:=h.rt;have c:=h.bu;unfold S4.inB at *
 simp at *
 refine⟨(s.iF _).toNat,⟨?_,h.ne,B,rfl,by omega,S4.KC _ (by show(s.iF _).toNat<=64;omega),(EP h.ck),?_,?_,?_,.inr (.inl rfl),⟨by show(-1:Int) <= -1;omega,by show(-1:Int)<64;omega⟩,⟨f.1,f.2⟩,⟨c.1,jby _,c.2⟩⟩,by omega,by omega⟩
 .show s.good (((s.iF _).toNat:Nat):Int) _
  rw[show(((s.iF _).toNat:Nat):Int)=s.iO d.root by omega];exact a
 .intro o;have z:d.kind≠2:=o;show ∃ v,s.file d.file=S v
  have b:=h.ck;unfold kP at *
  by_cases i:d.kind=1
  .rw[if_pos i] at *
   unfold oK at *
   cases j:s.file d.file with
   | none=>rw[j] at b;cases b
   | some u=>exact⟨u,rfl⟩
  .have x:d.kind=3:=by omega
   rw[if_neg i,if_pos (.inr x)] at *
   split at *
   .next e =>
    rcases e with e|e
    .exact absurd e.1 z
    .have A:d.file∈(s.walk d.root).1.drop 1:=by simpa using e
     obtain⟨u,w,_⟩:=a d.file (jbm A);exact⟨u,w⟩
   .cases b
 .show pJ _ d<=(s.walk d.root).1.length
  unfold pJ;split
  .exact ja7 _
  .rcases uP _ d.file g with⟨e,_⟩|⟨k,e,D,_⟩
   .rw[if_pos e];exact ja1 _
   .rw[e,if_neg (by omega)];omega
 .intro t;have l:d.kind≠1:=t;show(Lib.idxOf (s.walk d.root).1 d.file=((pJ _ d:Nat):Int)/\pJ _ d<(s.walk d.root).1.length)\/(Lib.idxOf _ d.file = -1/\pJ _ d=(s.walk d.root).1.length)
  unfold pJ;rw[if_neg l];rcases uP _ d.file g with⟨e,_⟩|⟨k,e,D,_⟩
  .rw[if_pos e];exact .inr ⟨e,rfl⟩
  .rw[e,if_neg (by omega)];exact .inl ⟨by omega,by omega⟩
def JOk.newX{s C j}(h:JOk s C j)(k):JOk s C (j.put (kN s j k)):={h with set:=LC s j (by have:=h.n;have:=h.c40;omega) k}
def ny(l:List Int)(f:Int):Nat->Int
 | 0 => -1
 | k+1=>if l.getD k 0=f then (k:Int) else ny l f k
def SK(l f)(h:l.Nodup):ny l f l.length=Lib.idxOf l f:=by
 rcases uP l f h with⟨e,g⟩|⟨k,e,c,hd⟩
 .have:∀ n,n<=l.length->ny l f n = -1:=by
   intro n
   induction n with
   | zero=>intro _;rfl
   | succ n b =>
    intro i;have a:n<l.length:=by omega
    unfold ny
    rw[if_neg (λe=>g (by
     rw[ja6,ja5 a] at e
     rw[<- e];exact jad a)),b (by omega)]
  simp_all
 .have:∀ n,n<=l.length->k<n->ny l f n=(k:Int):=by
   intro n
   induction n with
   | zero=>omega
   | succ n b =>
    intro i j;unfold ny;by_cases m:n=k
    .simp_all
    .have a:n<l.length:=by omega
     rw[if_neg (λd=>by
      rw[ja6,ja5 a] at d;rw[ja6,ja5 c] at *
      exact List.pairwise_iff_getElem.1 h k n c a (by omega) ((show l[n]=f from d).trans (show l[k]=f from hd).symm).symm),b (by omega) (by omega)]
  simp_all
def Px{l f}(h:l.Nodup):(l.drop 1).contains f=true↔1<=Lib.idxOf l f:=by
 have g:(l.drop 1).contains f=true↔f∈l.drop 1:=by simp
 rw[g];constructor
 .intro a;rcases uP l f h with⟨_,i⟩|⟨k,e,c,hd⟩
  .exact absurd (jbm a) i
  .cases k with
   | zero =>
    exfalso
    cases l with
    | nil=>cases a
    | cons x r =>
     simp_all
   | succ k=>omega
 .intro j;rcases uP l f h with⟨e,_⟩|⟨k,e,c,hd⟩
  .omega
  .cases l with
   | nil=>simp at *
   | cons x r =>
    cases k with
    | zero=>omega
    | succ k =>
     have b:k<r.length:=by simpa using c
     have d:r.getD k 0=f:=hd;rw[ja6,ja5 b] at *
     rw[<- d];exact jad b
def Oi{l f}:l.contains f=true↔0<=Lib.idxOf l f:=by
 rw[<- Lib.idxOf_nonneg_iff]
structure pq(h:HV)(a:List (Int × Int)):Prop where
 ents:∀ e∈a,bP e.1 e.2 h.p=true
 once:∀ i j,i<j->j<a.length->(a.getD j (0,0)).1=2->a.getD i (0,0)≠a.getD j (0,0)
def pq.nil(h):pq h []:=⟨λe b=>(by cases b),λi j _ a=>(by cases a)⟩
def BN{l:List (Int × Int)}{r i}(h:i<l.length):(l++r).getD i (0,0)=l.getD i (0,0):=by
 rw[ja6,ja6,jaD h]
def QL(l)(e:Int × Int):(l++[e]).getD l.length (0,0)=e:=by
 simp
def getD_mem{l:List (Int × Int)}{i}(h:i<l.length):l.getD i (0,0)∈l:=by
 simp_all
def XZ{h b a e}(d:stepT h b e=S a)(f:pq h b)(s:(b.length:Int)<=h.c):pq h a/\(a.length:Int)=min h.c (b.length+1):=by
 unfold stepT at *
 split at *
 .next r =>
  split at *
  .cases d;exact⟨f,by omega⟩
  .cases d
 .next r =>
  split at *
  .next q =>
   cases d;refine⟨⟨λx o=>?_,λi j g t k=>?_⟩,by simp;omega⟩
   .rcases List.mem_append.1 o with m|m
    .exact f.ents x m
    .simp_all
   .rw[jah] at *
    simp only[jau,jbJ] at *
    by_cases l:j<b.length
    .rw[BN l] at *
     rw[BN (by omega)];exact f.once i j g l k
    .have:j=b.length:=by omega
     subst this;rw[QL] at *
     rw[BN g];intro n;exact q.2 ⟨k,n▸getD_mem g⟩
  .cases d
def Wn{h b s}(j:pq h b)(n:(b.length:Int)<=h.c):∀(i:Nat) (a:List (Int × Int)),fQ h b s i=S a->pq h a/\(a.length:Int)=min h.c (b.length+i):=by
 intro i
 induction i with
 | zero=>intro a e;cases e;exact⟨j,by omega⟩
 | succ i f =>
  intro a e
  cases d:fQ h _ s i with
  | none=>rw[wU d _ (by omega)] at e;cases e
  | some x =>
   rw[zC d] at e;obtain⟨g,l⟩:=f x d;obtain⟨k,m⟩:=XZ e g (by omega);exact⟨k,by omega⟩
def Yd{h b}(n:0<=h.c):∀ j,(bU h b j).2=0->pq h (bU h b j).1/\((bU h b j).1.length:Int)=min h.c (8*j):=by
 intro j
 induction j with
 | zero=>intro _;exact⟨pq.nil h,by show((0:Nat):Int)=_;omega⟩
 | succ j k =>
  intro e;by_cases d:(bU h b j).2=0
  .obtain⟨l,m⟩:=k d;by_cases g:(b.getD j ByteArray.empty).size=16
   .cases f:fQ h _ _ 8 with
    | none=>rw[zU d g f] at e;cases e
    | some a =>
     rw[zV d g f];obtain⟨i,o⟩:=Wn l (by omega) 8 a f;refine⟨i,?_⟩;show(a.length:Int)=_
     omega
   .rw[zW d g] at e;cases e
  .have:bU h b (j+1)=([],(bU h b j).2):=by
    show(if (bU h _ j).2=0 then _ else _)=_
    rw[if_neg d]
   simp_all
def D5{h a}(d:gQ h a=0):h.ok=true/\a.length=aB h.c.toNat/\pq h (dZ h a)/\((dZ h a).length:Int)=h.c:=by
 unfold gQ at *
 split at *
 .next g =>
  unfold dZ;rw[if_pos g];have b:=g;unfold lT at *
  rw[jb3] at *
  have f  := of_decide_eq_true b.2;have k:=HV.dS b.1;obtain⟨j,i⟩:=Yd (by omega) _ d;refine⟨b.1,f,j,?_⟩;rw[i,f];unfold aB;omega
 .cases d
def aK(d:DV):HV:=iq (bytesOf (d.seen.getD 0 []))
def oC(d:DV)(k:Nat):ByteArray:=bytesOf (d.seen.getD (1+k) [])
def nD(d:DV):List ByteArray:=(List.range (aB (aK d).c.toNat)).map (oC d)
def dL(d:DV):Int :=
 if dW (bytesOf (d.seen.getD 0 []))=0 then (if d.fl.length<aQ (aK d) then 1 else gQ (aK d) (nD d)) else dW (bytesOf (d.seen.getD 0 []))
def kY(d:DV):IV:=⟨d,aK d,dZ (aK d) (nD d),[]⟩
def GU{s}(h:dW s=0):(iq s).ok=true:=by
 unfold dW at h;split at h
 .next a =>
  split at h
  .next b =>
   unfold iq;rw[if_pos ⟨a,b⟩];unfold nP at *
   simp_all
  .cases h
 .omega
def UG{d m}(hd:d.fine d.fl.length m)(a:dL d=0):(kY d).ok m/\pq (aK d) (kY d).t:=by
 unfold dL at *
 split at *
 .next k =>
  split at *
  .cases a
  .next i =>
   obtain⟨g,j,b,c⟩:=D5 a;exact⟨⟨hd,g,c,b.ents,by show aQ (aK d)<=d.fl.length;omega,(λq f=>by cases f),ja7 _⟩,b⟩
 .omega
def Il{B tb tc h d}(c p b:Int)(ts w)(hd:bV B w h d)(m:B.top<=w)(o:w.ownsRow 0 168 2 (.slice (S ⟨tb,0,O⟩) ts.length tc) ts.length (bD ts))(q:¬B.g tb) :
  κ prog 100 #[h.p,.agg #[c,p,b],.slice (S ⟨tb,0,O⟩) ts.length tc] w λe w' =>
   ∃ x,x.h=h/\x.tb=tb/\x.tc=tc/\e=.returned x.p/\aI B w' x ⟨d,⟨c,p,b⟩,ts,[]⟩/\β w w w':=by
 have r := @run_makeMap prog;have n:=ah hd;have i:=ah o;go_enter func100,ntmps100;go_wp2;go_ret;have l:β w w (w.alloc (.cells #[c,p,b] 67)):=(ja0 _ _).alloc (ja1 _) _;have j:=l.alloc l.size (.map #[] 0);have f:=j.alloc j.size (.cells #[h.p,c,p,b,.slice (S ⟨tb,0,O⟩) ts.length tc,.map (S (w.heap.size+1))] 235);refine⟨⟨w.heap.size+2,h,tb,tc,w.heap.size+1⟩,rfl,rfl,rfl,by simp,⟨?_,⟨B.fresh m (Nat.le_add_right _ 2),q⟩,B.fresh m (Nat.le_add_right _ 1),?_,?_,?_⟩,f⟩
 .have e:=heap_alloc_new ((w.alloc (.cells #[c,p,b] 67)).alloc (.map #[] 0)) (.cells #[h.p,c,p,b,.slice (S ⟨tb,0,O⟩) ts.length tc,.map (S (w.heap.size+1))] 235);rw[show((w.alloc _).alloc _).heap.size=w.heap.size+2 by simp] at e;exact e
 .exact n.keep λk a=>f.block k (n.lt k a).2
 .exact bg i λk a=>f.block k (i.lt k a).2
 .have e:=World.ownsMap_made (w.alloc (.cells #[c,p,b] 67)) prog 3 (unitElem (H:=Unit));rw[show(w.alloc _).heap.size=w.heap.size+1 by simp] at e;refine wJ e ?_;exact jap _ _ _ (by simp)
def gJ(d:DV)(k:Nat):List ByteArray:=(List.range k).map (oC d)
def Dv(d k):(gJ d k).length=k:=by simp[gJ]
def JL(d k):gJ d (k+1)=gJ d k++[oC d k]:=by unfold gJ;rw[jbr,jbs];rfl
def JK(d n k)(h:k<n):(gJ d n).getD k ByteArray.empty=oC d k:=by
 unfold gJ;simp_all
def kS(l:List ByteArray):List Value:=l.map Value.string
def Ld{w B n cap a l}(c:w.ownsRow B 9 1 (.slice a n cap) n (kS l))(f:l.length=n)(j:∀ k,k<n->(l.getD k ByteArray.empty).size<=maxLen):Texts w a n l:=by
 refine⟨f,λk b=>?_⟩;obtain⟨g,o,d,m,_⟩:=kE c k b;injection d with hv1 hv2 hv3;refine⟨g,0,hv1,?_,j k b⟩;rw[jak,m];have i:k<l.length:=by omega
 simp[kS,ja5 i,List.getD]
def Vu{B h d}(c p b w)(hd:bV B w h d)(o:HV.ok ⟨c,p,b⟩=true)(hn:aB c.toNat<d.fl.length) :
  κ prog 149 #[h.p,.agg #[c,p,b]] w λe w' =>
   ∃ lt j,e=.returned (.tuple #[.slice lt (dZ ⟨c,p,b⟩ (gJ d (aB c.toNat))).length j,erV (gQ ⟨c,p,b⟩ (gJ d (aB c.toNat)))])/\mV w w' lt j (dZ ⟨c,p,b⟩ (gJ d (aB c.toNat)))/\β w w w':=by
 have ab:=HV.dS o;simp only at *
 have HR:χ (∀ W:ω,κ prog 101 #[c] W λe w'=>e=.returned (aB c.toNat:Int)/\w'=W):=λW=>by have:=rX c.toNat W (by omega);rw[show((c.toNat:Nat):Int)=c by omega] at *;exact this
 have a9:aB c.toNat<=5:=by unfold aB;omega
 generalize aB c.toNat=n at *
 obtain⟨i2,I,a2,E,Q⟩:=info_parts wu;have aa:=hd.ok.same
 have a1:χ (∀ k,k<n->(oC d k).size=16):=λk g=>by
  have f:1+k<d.seen.length:=by omega
  have:(d.seen.getD (1+k) []).length=16:=by rw[ja6,ja5 f];exact hd.ok.l2 _ (jad f)
  show(d.seen.getD (1+k) []).toArray.size=16
  simpa using this
 have U:χ (∀(k:Nat) (W:ω),k<n->bV B W h d->κ prog 75 #[h.p,(1+(k:Int):Int)] W λe w'=>e=.returned (.tuple #[.string (oC d k),.nilIface])/\w'=W):=λk W g hi=>by
  have:=l9 (1+k) W hi.toaS (by omega)
  rw[show(((1+k:Nat):Int))=1+(k:Int) by omega] at *;exact this
 have N:=ah λW a cap (l:W.ownsRow w.heap.size 9 1 (.slice a n cap) n (kS (gJ d n)))=>Vs c p b a n cap (gJ d n) W (Ld l (Dv d n) λk g=>by rw[JK d n k g,a1.out k g];unfold maxLen;omega) (by omega)
 have K:χ (gJ d 0=[]):=rfl;have a4:χ (∀ k,gJ d (k+1)=gJ d k++[oC d k]):=JL d;have af  := Dv d;generalize oC d=R at *
 generalize hT:dZ ⟨c,p,b⟩ (gJ d n)=T at *
 generalize hF:gQ ⟨c,p,b⟩ (gJ d n)=Fa at *
 generalize gJ d=L at *
 go_enter func149,ntmps149;go_wp2_with (go_at_call 101;refine cSt (HR _) ?_)
 have Z:χ (β w w (w.alloc (.cells #[c,p,b] 67))):=(ja0 _ _).alloc (ja1 _) _;have HX:χ ((w.alloc (.cells #[c,p,b] 67)).heap[w.heap.size]?=some (.cells #[c,p,b] 67 (0,0))):=heap_alloc_new _ _;have a7:χ ((w.alloc (.cells #[c,p,b] 67)).heap.size=w.heap.size+1):=by unfold χ;simp
 generalize w.alloc (.cells #[c,p,b] 67)=s at *
 go_loopw [6,13] (λu i wr=>∃(k:Nat) (a:Option Addr) (cap:Nat),k<=n/\i=.int .i64 k/\u=.slice a k cap/\wr.ownsRow (w.heap.size+1) 9 1 (.slice a k cap) k (kS (L k))/\β (w.heap.size+1) s wr) (λ_ i _=>n-(intOf i).toNat)
 case atStart=>exact⟨0,O,0,ja7 _,rfl,rfl,by rw[K.out];exact jaa _ _ _ _,ja0 _ _⟩
 case round =>
  obtain⟨k,a,cap,g,rfl,rfl,l,m⟩:=hrel;have A  := Z.trans (m.mono (jbz _));have J:w.heap.size+1<=wr.heap.size:=by have:=m.size;rw[a7.out] at *;exact this
  by_cases P:k<n
  .have a6:=ah (U k wr P ((λW (F:β w w W)=>hd.keep λk o=>F.block k (hd.lt k o).2) wr A));have D:=ah (a4 k);have z:χ ((wr.alloc (.cells #[.string (R k)] 9)).ownsRow (w.heap.size+1) 9 1 (.slice a k cap) k (kS (L k))):=l.alloc _;have C:χ (w.heap.size+1<=(wr.alloc (.cells #[.string (R k)] 9)).heap.size):=by unfold χ;simp;omega
   have H:χ (β (w.heap.size+1) s (wr.alloc (.cells #[.string (R k)] 9))):=m.alloc J _;have a5:χ ((wr.alloc (.cells #[.string (R k)] 9)).heap.size=wr.heap.size+1):=by unfold χ;simp
   have G:χ (∀ i y,([.string (R k)]:List υ)[i]?=some y->(wr.alloc (.cells #[.string (R k)] 9)).cell? ((⟨wr.heap.size,0,O⟩:Addr).add i)=some y):=cell_one_new _ _ _;have ad:IntKind.i64.wrap (1+(k:Int))=1+(k:Int):=ja9 _ (by omega);generalize R k=S at *
   go_wp2_with fail;refine cSt a6 ?_;go_wp2_with (at_builtin;refine wpList_append_lies _ (by rfl) _ _ 44 (by rfl) (w.heap.size+1) 9 i2 (.string ⟨#[]⟩) 1 16 underlying44 I a2 E Q rfl (by decide) (.slice a k cap) k (kS (L k)) (by rfl) z ⟨wr,0,O⟩ 1 1 [S] (by rfl) (by rfl) G (λu hu=>by simp at *;subst hu;rfl) (by decide) (by unfold maxLen;omega) (by omega) C (wr.heap.size+1) a5 ?_;intro g3 v x a3 Y ae ac)
   have M:χ (x.ownsRow (w.heap.size+1) 9 1 (.slice (some ⟨g3,0,O⟩) (k+1) v) (k+1) (kS (L (k+1)))):=by
    unfold χ;have e2:kS (L (k+1))=kS (L k)++[.string S]:=by rw[D.out];simp[kS]
    rw[e2];exact a3
   have a0:χ (β (w.heap.size+1) s x):=H.grown Y C (λr e=>(z.lt r e).1);go_roundw
   case rel =>
    exact⟨k+1,some ⟨g3,0,O⟩,v,by omega,by go_num,rfl,M,a0⟩
   case measure=>simp[intOf];omega
  .have V:k=n:=by omega
   subst V;have f:wr.heap[w.heap.size]?=some (.cells #[c,p,b] 67 (0,0)):=by rw[m.block _ (by omega)];exact HX
   have y0:wr.cell? ⟨w,0,O⟩=some (c:υ):=by rw[cell_of_row _ _ _ _ _ _ f];rfl
   have y1:wr.cell? ⟨w,1,O⟩=some (p:υ):=by rw[cell_of_row _ _ _ _ _ _ f];rfl
   have y2:wr.cell? ⟨w,2,O⟩=some (b:υ):=by rw[cell_of_row _ _ _ _ _ _ f];rfl
   have q:=ah A;go_wp2_with fail;refine(N wr a cap (ownsRow_base l (jbz _))).mono ?_;rintro e w4 ⟨lt,j,rfl,t,a8⟩;have X:χ (mV w.heap.size w4 lt j T):=⟨t.1,ownsRow_base t.2 q.size⟩;go_wp2;go_ret2;exact⟨lt,j,rfl,X,(q.trans (a8.mono q.size))⟩
