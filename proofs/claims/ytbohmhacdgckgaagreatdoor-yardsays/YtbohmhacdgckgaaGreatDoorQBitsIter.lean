/- Shelves as plain data (G1 to G4): files by their numbers, a list that is walked, what is seen of a cluster, a range of sectors and its parts, what is got, put, wiped and moved. -/
import Derived.Test.YtbohmhacdgckgaaGreatDoorQImgKind
import Derived.Deep.CutBlock
import Derived.Deep.CutRange
import Derived.Laws.Bits64
import Derived.Laws.Bits64b
import Derived.Lib.TrailingZeros
import Derived.RangeFuncNested
import Derived.RangeFuncBound
import Derived.RangeFuncCalls
import Derived.RangeFuncLeaves
import Derived.Shelf.Abstract
import Derived.Shelf.RegionOpen
import Derived.OwnWalkIn
import Derived.TacticsInMore
import Derived.LoopNIn
import Derived.LoopIn
set_option linter.all false
set_option maxHeartbeats 2000000
set_option maxRecDepth 100000
namespace Go.Proofs.YtbohmhacdgckgaaGreatDoor
open Go renaming World->ω, Calls->κ
open Option renaming none->O, some->S
open Go.Proofs.Tryz Go.RowKit Go.ChangeShapes Go.WideShapes Go.Shelf
attribute [local go_sem ↓] Go.wp_at_zero Go.wp_at_succ
abbrev SV:=Nat->Option IV
def SV.file(s:SV)(n:Int):Option IV:=if 0<=n/\n<5 then s n.toNat else O
def SV.upd(s:SV)(i:Nat)(v:IV):SV:=λj=>if j=i then S v else s j
def SV.ok(s:SV)(m:Nat):Prop:=∀ i v,s i=S v->v.ok m
def SV.dS{s:SV}{n:Int}{v:IV}(h:s.file n=S v):0<=n/\n<5/\s n.toNat=S v:=by
 unfold SV.file at h
 simp_all
def SV.zZ{s:SV}{i:Nat}(h:i<5):s.file (i:Int)=s i:=by
 unfold SV.file;rw[if_pos ⟨by omega,by omega⟩];rfl
theorem SV.ok.more{s:SV}{m m':Nat}(h:s.ok m)(a:m<=m'):s.ok m':=λi v e=>(h i v e).more a
theorem SV.ok.upd{s:SV}{m m':Nat}(h:s.ok m)(a:m<=m'){i:Nat}{v:IV}(b:v.ok m'):(s.upd i v).ok m':=by
 intro j u e;unfold SV.upd at e;split at e
 .simp_all
 .exact(h j u e).more a
def SV.Ac{s:SV}{n:Int}{v u:IV}(h:s.file n=S v)(k:Int):(s.upd n.toNat u).file k=if k=n then S u else s.file k:=by
 obtain⟨c,b,_⟩:=SV.dS h;unfold SV.file SV.upd;by_cases a:0<=k/\k<5
 .rw[if_pos a]
  by_cases e:k=n
  .simp_all
  .rw[if_neg e,if_neg (by omega),if_pos a]
 .rw[if_neg a]
  have e:k≠n:=by omega
  rw[if_neg e,if_neg a]
def IV.zo(v:IV)(c f:Int)(s:ByteArray):(v.write c f s).h=v.h:=by unfold IV.write;split<;>rfl
def IV.H6(v:IV)(c:Nat)(e:Int × Int):(v.set c e).h=v.h:=by unfold IV.set;split<;>rfl
def IV.wO(v:IV)(c:Int):(v.clear c).h=v.h:=by
 unfold IV.clear;split
 .exact IV.H6 _ _ _
 .rfl
def IV.xq(v:IV)(c:Int)(s:ByteArray):(v.fill c s).h=v.h:=by
 unfold IV.fill;split
 .split
  .rfl
  .split
   .rfl
   .split
    .rw[IV.H6];rfl
    .rfl
 .rfl
def SV.gZ(s:SV)(root:Int):Int:=match s.file root with
 | none=>0
 | some v=>v.h.c
def SV.iK(s:SV)(a:Int):Nat->List Int->Int->List Int × Int
 | 0,_,_=>([],10)
 | k+1,l,n=>if n = -1 then (l,0) else match s.file n with
  | none=>([],4)
  | some v=>if l.length=5 then ([],10) else if v.h.c=a then s.iK a k (l++[n]) v.h.b else ([],2)
def SV.walk(s:SV)(root:Int):List Int × Int:=s.iK (s.gZ root) 6 [] root
def SV.vT{s:SV}{a:Int}{k:Nat}{l:List Int}:s.iK a (k+1) l (-1)=(l,0):=by
 unfold SV.iK;simp_all
def SV.vV{s:SV}{a:Int}{k:Nat}{l:List Int}{n:Int}(b:n ≠ -1)(h:s.file n=O):s.iK a (k+1) l n=([],4):=by
 unfold SV.iK;simp_all
def SV.vU{s:SV}{a:Int}{k:Nat}{l:List Int}{n:Int}{v:IV}(c:n ≠ -1)(h:s.file n=S v)(b:l.length=5):s.iK a (k+1) l n=([],10):=by
 unfold SV.iK;simp_all
def SV.walk_other{s:SV}{a:Int}{k:Nat}{l:List Int}{n:Int}{v:IV}(f:n ≠ -1)(h:s.file n=S v)(b:l.length≠5)(d:v.h.c≠a):s.iK a (k+1) l n=([],2):=by
 unfold SV.iK;simp_all
def SV.uD{s:SV}{a:Int}{k:Nat}{l:List Int}{n:Int}{v:IV}(d:n ≠ -1)(h:s.file n=S v)(f:l.length≠5)(g:v.h.c=a):s.iK a (k+1) l n=s.iK a k (l++[n]) v.h.b:=by
 rw[SV.iK,if_neg d,h];simp_all
def SV.good(s:SV)(C:Int)(l:List Int):Prop:=∀ n∈l,∃ v,s.file n=S v/\v.h.c=C
def SV.Vj{s:SV}{a:Int}:∀(k:Nat) (l:List Int) (n:Int),s.good a l->l.length<=5->s.good a (s.iK a k l n).1/\(s.iK a k l n).1.length<=5/\0<=(s.iK a k l n).2/\(s.iK a k l n).2<=10:=by
 intro k
 induction k with
 | zero=>intro l n _ _;exact⟨(λ_ h=>by cases h),ja6 _,(by simp[SV.iK]),(by simp[SV.iK])⟩
 | succ k j =>
  intro l n m o;by_cases b:n = -1
  .subst b;rw[SV.vT];simp_all
  .cases d:s.file n with
   | none=>rw[SV.vV b d];exact⟨(λ_ h=>by cases h),ja6 _,(by simp),(by simp)⟩
   | some v =>
    by_cases g:l.length=5
    .rw[SV.vU b d g];exact⟨(λ_ h=>by cases h),ja6 _,(by simp),(by simp)⟩
    .by_cases i:v.h.c=a
     .rw[SV.uD b d g i]
      refine j _ _ (λx f=>?_) (by simp;omega)
      rcases List.mem_append.1 f with f|f
      .exact m x f
      .simp_all
     .rw[SV.walk_other b d g i];exact⟨(λ_ h=>by cases h),ja6 _,(by simp),(by simp)⟩
def SV.walk_good(s:SV)(root:Int):s.good (s.gZ root) (s.walk root).1/\(s.walk root).1.length<=5/\0<=(s.walk root).2/\(s.walk root).2<=10 :=
 SV.Vj 6 [] root (λ_ h=>by cases h) (ja6 _)
def rM(o:Option IV)(c:Int):Int:=match o with
 | none=>0
 | some v=>(v.bC c).1
def SV.jM(s:SV)(c:Int):List Int->Nat->Int
 | [],_ => -1
 | n::r,k=>if rM (s.file n) c=0 then s.jM c r (k+1) else (k:Int)
def SV.found(s:SV)(l:List Int)(c:Int):Int:=s.jM c l 0
def SV.seenAt(s:SV)(c:Int):List Int->Option IV
 | []=>O
 | n::r=>if rM (s.file n) c=0 then s.seenAt c r else s.file n
def SV.Af(s:SV)(c:Int):∀(l:List Int) (k:Nat),(s.jM c l k = -1/\s.seenAt c l=O) \/
  ∃(j:Nat) (n:Int) (v:IV),j<l.length/\s.jM c l k=((k+j:Nat):Int)/\l.getD j 0=n/\n∈l/\s.file n=S v/\(v.bC c).1≠0/\s.seenAt c l=S v:=by
 intro l
 induction l with
 | nil=>intro k;exact .inl ⟨rfl,rfl⟩
 | cons n r g =>
  intro k;unfold SV.jM SV.seenAt;by_cases h:rM (s.file n) c=0
  .rw[if_pos h,if_pos h]
   rcases g (k+1) with⟨m,b⟩|⟨j,x,v,m,b,d,i,q,f,o⟩
   .simp_all
   .exact .inr ⟨j+1,x,v,by simp;omega,by congr 1;omega,by simpa using d,jb2 _ i,q,f,o⟩
  .rw[if_neg h,if_neg h]
   cases a:s.file n with
   | none=>rw[a] at h;exact absurd rfl h
   | some v=>exact .inr ⟨0,n,v,by simp,rfl,rfl,jag,a,by rw[a] at h;exact h,rfl⟩
def SV.gJ(s:SV):List Int->Int
 | []=>0
 | n::_=>s.gZ n
def SV.read(s:SV)(l:List Int)(c:Int):ByteArray × Int :=
 if l=[] then (bytesOf [],4) else if 0<=c/\c<s.gJ l then (match s.seenAt c l with
  | none=>(bytesOf qX,0)
  | some v=>(bytesOf (v.fZ c),v.iI c)) else (bytesOf [],1)
theorem SV.good.gJ{s:SV}{C:Int}{l:List Int}(h:s.good C l)(c:l≠[]):s.gJ l=C:=by
 cases l with
 | nil=>simp_all
 | cons n r =>
  obtain⟨v,b,a⟩:=h n jag;show s.gZ n=C
  unfold SV.gZ
  simp_all
def IV.LZ{v:IV}{c:Int}(h:(v.bC c).1≠0):v.there c=true/\(v.ent c).1≠0:=by
 unfold IV.bC at h
 cases a:v.there c with
 | true=>simp_all
 | false=>simp_all
def Qw{d:DV}{a n m:Nat}(hd:d.fine n m)(h:a+4<=n):∀ k,k<=4->(jO d a k).length=16*k:=by
 intro k
 induction k with
 | zero=>intro _;rfl
 | succ k c =>
  intro f;have i:=hd.ok.same;have g:=hd.len;have b:a+k<d.seen.length:=by omega
  have:(d.seen.getD (a+k) []).length=16:=by rw[ja5,ja7 b];exact hd.ok.l2 _ (jab b)
  show(jO d a k++d.seen.getD _ []).length=_
  rw[jak,c (by omega),this];omega
def IV.Rk{v:IV}{m:Nat}{c:Int}(b:v.ok m)(h:(v.bC c).1≠0):v.iI c=0/\(v.fZ c).length=64:=by
 obtain⟨a,j⟩:=IV.LZ h;unfold IV.iI IV.fZ;rw[if_pos a,if_pos a,if_neg j];refine⟨rfl,?_⟩;by_cases f:(v.ent c).1=2
 .rw[if_pos f]
  obtain⟨n,l,k⟩:=b.place a f;exact Qw b.d k 4 (ja1 _)
 .rw[if_neg f]
  rcases jh (b.ent a) with g|g
  .omega
  .rcases g.1 with i|i
   .omega
   .rw[if_pos i];decide
def SV.kS{s:SV}{C:Int}{l:List Int}{m:Nat}(f:s.good C l)(g:s.ok m)(a:l≠[]){c:Int}(o:0<=c/\c<C):(s.read l c).2=0/\(s.read l c).1.size=64:=by
 unfold SV.read;rw[if_neg a,f.gJ a,if_pos o];rcases SV.Af s c l 0 with⟨_,d⟩|⟨j,n,v,_,_,_,_,k,h,i⟩
 .rw[d];exact⟨rfl,rfl⟩
 .rw[i]
  obtain⟨_,_,b⟩:=SV.dS k;obtain⟨r1,r2⟩:=IV.Rk (g _ _ b) h;refine⟨r1,?_⟩;show(v.fZ c).toArray.size=64
  simpa using r2
structure Pt where
 c:Nat
 f:Nat
 n:Nat
 a:Nat
def aG(fr n a:Nat):Pt:=⟨(fr+a) / 4,(fr+a) % 4,min (4-(fr+a) % 4) (n-a),a⟩
def nV{fr n a:Nat}(h:a<n):1<=(aG fr n a).n/\(aG fr n a).f+(aG fr n a).n<=4/\a+(aG fr n a).n<=n:=by
 unfold aG;simp only
 omega
def aV(fr n a:Nat):List Pt:=if _h:a<n then aG fr n a::aV fr n (a+(aG fr n a).n) else []
termination_by n-a
decreasing_by
 have:=nV (fr:=fr) _h
 omega
def qE{fr n a:Nat}(h:a<n):aV fr n a=aG fr n a::aV fr n (a+(aG fr n a).n):=by
 rw[aV,dif_pos h]
def rQ{fr n a:Nat}(h:¬a<n):aV fr n a=[]:=by
 rw[aV,dif_neg h]
def qF(fr n:Nat):∀(k a:Nat),n-a<=k->(aV fr n a).length<=n-a:=by
 intro k
 induction k with
 | zero=>intro a h;rw[rQ (by omega)];simp_all
 | succ k c =>
  intro a h;by_cases b:a<n
  .rw[qE b]
   have d:=nV (fr:=fr) b;have:=c (a+(aG fr n a).n) (by omega)
   simp only[jax];omega
  .rw[rQ b];simp_all
structure Pt.fits(p:Pt)(fr n C:Nat):Prop where
 n1:1<=p.n
 n4:p.f+p.n<=4
 an:p.a+p.n<=n
 c:p.c<C
 at_:p.c*4+p.f=fr+p.a
def xO{fr n a C:Nat}(h:a<n)(c:fr+n<=4*C):(aG fr n a).fits fr n C:=by
 have b:=nV (fr:=fr) h;refine⟨b.1,b.2.1,b.2.2,?_,?_⟩
 .show(fr+a) / 4<C
  omega
 .show(fr+a) / 4*4+(fr+a) % 4=fr+a
  omega
def vw{fr n C:Nat}(d:fr+n<=4*C):∀(k a:Nat),n-a<=k->∀ p∈aV fr n a,p.fits fr n C:=by
 intro k
 induction k with
 | zero=>intro a h p b;rw[rQ (by omega)] at b;cases b
 | succ k f =>
  intro a h p b;by_cases c:a<n
  .rw[qE c] at b
   have g:=nV (fr:=fr) c;rcases List.mem_cons.1 b with b|b
   .rw[b];exact xO c d
   .exact f _ (by omega) p b
  .rw[rQ c] at b;cases b
def eU(t:ByteArray)(f n:Nat):ByteArray:=t.extract (f*16) ((f+n)*16)
def dY(n:Nat):ByteArray:=bytesOf (List.replicate n 0)
def rX{t:ByteArray}{f n:Nat}(h:(f+n)*16<=t.size):(eU t f n).size=n*16:=by
 unfold eU;rw[jaB];omega
def SV.aW(s:SV)(l:List Int)(fr n:Int):Int:=if l=[] then 4 else if fr<0\/n<0\/4*s.gJ l-fr<n then 1 else 0
def SV.mO{s:SV}{C:Int}{l:List Int}(c:s.good C l){fr n:Int}(h:s.aW l fr n=0):l≠[]/\0<=fr/\0<=n/\fr+n<=4*C:=by
 unfold SV.aW at h;split at h
 .cases h
 .next a =>
  split at h
  .cases h
  .next b=>rw[c.gJ a] at b;exact⟨a,by omega,by omega,by omega⟩
def SV.lay(s:SV)(l:List Int)(c f:Nat)(t:ByteArray):SV × Int:=match l with
 | []=>(s,4)
 | n::_=>match s.file n with
  | none=>(s,4)
  | some v=>if (v.bC c).1=2 then (s.upd n.toNat (v.write c f t),v.dJ c f t) else
   (s.upd n.toNat (v.fill c ((s.read l c).1.extract 0 (f*16)++t++(s.read l c).1.extract (f*16+t.size) 64)),v.dD c ((s.read l c).1.extract 0 (f*16)++t++(s.read l c).1.extract (f*16+t.size) 64))
def SV.gU(l:List Int)(t:ByteArray)(s:SV)(p:Pt):SV × Int:=s.lay l p.c p.f (eU t p.a p.n)
def SV.dI(l:List Int)(s:SV)(p:Pt):SV × Int:=match l with
 | []=>(s,4)
 | n::_=>match s.file n with
  | none=>(s,4)
  | some v=>if p.n=4 then (s.upd n.toNat (v.clear p.c),v.fB p.c) else if (v.bC p.c).1=1 then (s,0) else s.lay l p.c p.f (dY (p.n*16))
def jC(a:SV->Pt->SV × Int):SV->List Pt->SV × Int
 | s,[]=>(s,0)
 | s,p::r=>if (a s p).2=0 then jC a (a s p).1 r else a s p
def SV.put(s:SV)(l:List Int)(fr:Int)(t:ByteArray):SV × Int :=
 if t.size % 16=0 then (if s.aW l fr ((t.size / 16:Nat):Int)=0 then jC (SV.gU l t) s (aV fr.toNat (t.size / 16) 0) else (s,s.aW l fr ((t.size / 16:Nat):Int))) else (s,1)
def SV.wipe(s:SV)(l:List Int)(fr n:Int):SV × Int :=
 if s.aW l fr n=0 then jC (SV.dI l) s (aV fr.toNat n.toNat 0) else (s,s.aW l fr n)
def SV.move(s:SV)(n c:Int)(t:ByteArray):SV × Int:=match s.file n with
 | none=>(s,4)
 | some v=>if t=dY 64 then (s.upd n.toNat (v.clear c),v.fB c) else if (v.bC c).1=2 then (s.upd n.toNat (v.write c 0 t),v.dJ c 0 t) else (s.upd n.toNat (v.fill c t),v.dD c t)
def SV.jS(s:SV)(l:List Int)(fr:Nat):Nat->ByteArray
 | 0=>bytesOf []
 | k+1=>s.jS l fr k++eU (s.read l (((fr+k) / 4:Nat):Int)).1 ((fr+k) % 4) 1
def SV.ji(s:SV)(l:List Int)(fr n:Int):ByteArray:=if s.aW l fr n=0 then s.jS l fr.toNat n.toNat else bytesOf []
theorem SV.good.upd{s:SV}{C:Int}{l:List Int}(c:s.good C l){n:Int}{v u:IV}(b:s.file n=S v)(i:u.h=v.h):(s.upd n.toNat u).good C l:=λk a=>by
 obtain⟨d,g,f⟩:=c k a;rw[SV.Ac b];by_cases e:k=n
 .simp_all
 .simp_all
theorem SV.good.lay{s:SV}{C:Int}{l:List Int}(a:s.good C l)(d:List Int)(c f:Nat)(t:ByteArray):(s.lay d c f t).1.good C l:=by
 unfold SV.lay;split
 .exact a
 .split
  .exact a
  .next v b =>
   split
   .exact a.upd b (IV.zo _ _ _ _)
   .exact a.upd b (IV.xq _ _ _)
theorem SV.good.gU{s:SV}{C:Int}{l:List Int}(a:s.good C l)(b:List Int)(t:ByteArray)(p:Pt):(SV.gU b t s p).1.good C l:=a.lay _ _ _ _
theorem SV.good.dI{s:SV}{C:Int}{l:List Int}(a:s.good C l)(c:List Int)(p:Pt):(SV.dI c s p).1.good C l:=by
 unfold SV.dI;split
 .exact a
 .split
  .exact a
  .next v b =>
   split
   .exact a.upd b (IV.wO _ _)
   .split
    .exact a
    .exact a.lay _ _ _ _
def pY{a:SV->Pt->SV × Int}{s:SV}{p:Pt}{r:List Pt}:jC a s (p::r)=if (a s p).2=0 then jC a (a s p).1 r else a s p:=rfl
def Ec{P:List Pt}{i:Nat}(h:i<P.length):P.drop i=P[i]::P.drop (i+1):=List.drop_eq_getElem_cons h
def MB(t:ByteArray)(a b c:Nat)(d:a<=b)(f:b<=c):t.extract a b++t.extract b c=t.extract a c:=by
 simp_all
def TG(t:ByteArray)(f n:Nat):eU t f n++eU t (f+n) 1=eU t f (n+1):=by
 unfold eU;rw[MB t _ _ _ (by omega) (by omega)];rfl
def TD(t:ByteArray)(f:Nat):eU t f 0=bytesOf []:=by
 unfold eU;apply jbj
 rw[ByteArray.data_extract];apply Array.ext'
 rw[Array.toList_extract,List.extract_eq_take_drop,show(f+0)*16-f*16=0 by omega]
 rfl
def JK(t:ByteArray):t++bytesOf []=t:=by
 apply jbj
 apply Array.ext'
 simp[bytesOf]
def JL(a b c:ByteArray):a++b++c=a++(b++c):=by
 apply jbj
 simp_all
def SV.Nw{s:SV}{C:Nat}{l:List Int}{fr n:Nat}{p:Pt}(b:p.fits fr n C):∀ j,j<=p.n->s.jS l fr (p.a+j)=s.jS l fr p.a++eU (s.read l (p.c:Int)).1 p.f j:=by
 intro j;have m:=b.at_;have k:=b.n4
 induction j with
 | zero=>intro _;rw[TD,JK];rfl
 | succ j g =>
  intro i;show s.jS l fr (p.a+j)++eU (s.read l (((fr+(p.a+j)) / 4:Nat):Int)).1 ((fr+(p.a+j)) % 4) 1=_
  have d:(fr+(p.a+j)) / 4=p.c:=by omega
  have h:(fr+(p.a+j)) % 4=p.f+j:=by omega
  rw[g (by omega),d,h,JL,TG]
def SV.EC{s:SV}{C:Nat}{l:List Int}{m fr:Nat}(d:s.good (C:Int) l)(a:s.ok m)(b:l≠[]):∀ k,fr+k<=4*C->(s.jS l fr k).size=k*16:=by
 intro k
 induction k with
 | zero=>intro _;rfl
 | succ k g =>
  intro f;show(s.jS l fr k++eU _ _ 1).size=_
  obtain⟨_,r2⟩:=SV.kS d a b (c:=(((fr+k) / 4:Nat):Int)) ⟨by omega,by omega⟩
  rw[jaM,rX (by omega)];omega
def Qz(fr n:Nat):∀(k a:Nat),n-a<=k->∀ i (h:i<(aV fr n a).length),a<=(aV fr n a)[i].a/\(∀ j (f:j<(aV fr n a).length),j=i+1->(aV fr n a)[j].a=(aV fr n a)[i].a+(aV fr n a)[i].n)/\(i+1=(aV fr n a).length->(aV fr n a)[i].a+(aV fr n a)[i].n=n)/\(i=0->(aV fr n a)[i].a=a):=by
 intro k
 induction k with
 | zero=>intro a h i b;have:=qF fr n 0 a h;omega
 | succ k m =>
  intro a h i b;by_cases c:a<n
  .have t:=nV (fr:=fr) c
   have g:=qE (fr:=fr) c;have d:=m (a+(aG fr n a).n) (by omega)
   generalize aV fr n a=P at b g |-;subst g
   cases i with
   | zero =>
    refine⟨ja1 _,λj f e=>?_,λe=>?_,λ_=>rfl⟩
    .subst e
     exact(d 0 _).2.2.2 rfl
    .show a+(aG fr n a).n=n
     by_cases l:a+(aG fr n a).n<n
     .rw[qE l] at e;simp at e
     .omega
   | succ i =>
    have r:i<(aV fr n (a+(aG fr n a).n)).length:=by simpa using b
    obtain⟨s,q2,o,q⟩:=d i _;refine⟨by show a<=(aV fr n _)[i].a;omega,λj f e=>?_,λe=>?_,λe=>by cases e⟩
    .subst e
     exact q2 _ _ rfl
    .exact o (by simpa using e)
  .have:=rQ (fr:=fr) c
   rw[this] at b;cases b
namespace S4
structure Kept(S:Nat->Prop)(w w':ω):Prop where
 os:w'.os=w.os
 tape:w'.tape=w.tape
 output:w'.output=w.output
 size:w.heap.size<=w'.heap.size
 block:∀ k,k<w.heap.size->¬S k->w'.heap[k]?=w.heap[k]?
def Kept.refl(S:Nat->Prop)(w:ω):Kept S w w:=⟨rfl,rfl,rfl,ja1 _,λ_ _ _=>rfl⟩
theorem Kept.trans{S:Nat->Prop}{a b c:ω}(h:Kept S a b)(k:Kept S b c):Kept S a c :=
 ⟨k.os.trans h.os,k.tape.trans h.tape,k.output.trans h.output,ja4 h.size k.size,λi f d=>(k.block i (ja9 f h.size) d).trans (h.block i f d)⟩
def Kept.mono{S T:Nat->Prop}{a b:ω}(h:Kept S a b)(f:∀ k,k<a.heap.size->S k->T k):Kept T a b :=
 ⟨h.os,h.tape,h.output,h.size,λi c d=>h.block i c λs=>d (f i c s)⟩
theorem Kept.drew{S:Nat->Prop}{a w:ω}(h:Kept S a w):Kept S a w.drew:=⟨h.os,h.tape,h.output,h.size,h.block⟩
theorem Kept.setCell{S:Nat->Prop}{a w:ω}(h:Kept S a w){p:Addr}(b:S p.block\/a.heap.size<=p.block)(u:Value):Kept S a (w.setCell p u) :=
 ⟨h.os,h.tape,h.output,by simpa [World.setCell] using h.size,λk d c=>(heap_setCell_other w p k u (λe=>by rcases b with b|b;exact c (e▸b);omega)).trans (h.block k d c)⟩
def Kept.below{S:Nat->Prop}{a w:ω}{B:Nat}(h:Kept S a w)(c:B<=a.heap.size)(d:∀ k,S k->B<=k):Below B a w :=
 ⟨h.os,h.tape,h.output,h.size,λk b=>h.block k (ja9 b c) λs=>by have:=d k s;omega⟩
def ah{p:Prop}(h:p):Hid p:=h
def Bools(w:ω)(f:Option Addr)(a:Nat)(c:List Bool):Prop :=
 c.length=a/\∀ j,j<a->∃ b d,f=S ⟨b,d,O⟩/\w.cell? ⟨b,d+j,O⟩=S (.bool (c.getD j false))
def lt_of_some{w:ω}{k:Nat}{o:Obj}(h:w.heap[k]?=S o):k<w.heap.size:=by
 rcases jaq k _ with a|a
 .exact a
 .simp_all
structure aT where
 kind:ByteArray
 a:Int
 b:Int
 c:Int
 d:Int
 s:ByteArray
 ka:Option Addr
 kl:Nat
 kc:Nat
 ks:List Bool
def aT.none_:aT:=⟨⟨#[]⟩,0,0,0,0,⟨#[]⟩,O,0,0,[]⟩
def aT.cells(x:aT):List Value:=[.string x.kind,.int .i64 x.a,.int .i64 x.b,.int .i64 x.c,.int .i64 x.d,.string x.s,.slice x.ka x.kl x.kc]
structure sJ(w:ω)(x:aT):Prop where
 k1:x.kind.size<=maxLen
 s1:x.s.size<=maxLen
 a1 : -9223372036854775808<=x.a/\x.a<=9223372036854775807
 kl1:x.kl<=maxLen
 keep:Bools w x.ka x.kl x.ks
 kn:x.ka=O->x.kc=0
def lJ(w:ω)(d:Option Addr)(len:Nat)(a:List aT):Prop :=
 a.length=len/\∀ k,k<len->∃ b c,d=S ⟨b,c,O⟩/\w.rangeAt b (c+k*7) (a.getD k aT.none_).cells/\sJ w (a.getD k aT.none_)
section
variable {H:Type} {enc:TypeId × Value->H}
end
def mX(a:List aT)(b:Nat):Bool:=decide (a.length<=b/\∀ k,k<a.length->(a.getD k aT.none_).s.size<=700/\(a.getD k aT.none_).kl<=300)
def ng{a b:Bool}(h:a=b):Ending.returned a=.returned b:=by rw[h]
end S4
namespace S4
def cnt(x:Nat):Nat->Nat
 | 0=>0
 | k+1=>cnt x k+if x.testBit k then 1 else 0
def cnt_le(x n:Nat):cnt x n<=n:=by
 induction n with
 | zero=>exact ja1 _
 | succ n a=>show cnt x n+_<=_;split<;>omega
def KJ(x a b:Nat):cnt x (a+b)=cnt x a+cnt (x / 2 ^ a) b:=by
 induction b with
 | zero=>rfl
 | succ b c =>
  show cnt x (a+b)+(if x.testBit (a+b) then 1 else 0)=cnt x a+(cnt _ b+if (x / 2 ^ a).testBit b then 1 else 0)
  rw[c,Nat.testBit_div_two_pow,Nat.add_comm b a];omega
def KL(x a:Nat):cnt x a=cnt (x % 2 ^ a) a:=by
 have:∀ k,k<=a->cnt x k=cnt (x % 2 ^ a) k:=by
  intro k
  induction k with
  | zero=>intro _;rfl
  | succ k b =>
   intro c;show cnt x k+_=cnt _ k+_
   rw[b (by omega),Nat.testBit_mod_two_pow]
   simp[show k<a by omega]
 simp_all
def and_split(a b A B:Nat)(f:a<256)(d:b<256):(a+256*A) &&& (b+256*B)=(a &&& b)+256*(A &&& B):=by
 have c:∀(x X:Nat),x+256*X=2 ^ 8*X+x:=λx X=>by omega
 rw[c,c,c];apply jbq
 intro i;rw[Nat.testBit_and,jaE _ f,jaE _ d,jaE _ (Nat.and_lt_two_pow _ d)];split
 .simp_all
 .simp_all
def g1(b:Nat):Nat:=(b / 2 &&& 85)+(b &&& 85)
def g2(b:Nat):Nat:=(b / 4 &&& 51)+(b &&& 51)
def g3(b:Nat):Nat:=(b / 16+b) &&& 15
def bytes(f:Nat->Nat):Nat->Nat->Nat
 | 0,_=>0
 | k+1,x=>f (x % 256)+256*bytes f k (x / 256)
def rep(c:Nat):Nat->Nat
 | 0=>0
 | k+1=>c+256*rep c k
def Ey:∀ b,b<256->g1 b<256:=by decide +kernel
def Np:∀ b,b<256->((b / 2+128) &&& 85)=(b / 2 &&& 85):=by decide +kernel
def Ez:∀ b,b<256->g2 (g1 b)<256:=by decide +kernel
def Nr:∀ b,b<256->∀ c,c<4->((b / 4+64*c) &&& 51)=(b / 4 &&& 51):=by decide +kernel
def Nu:∀ b,b<256->g3 (g2 (g1 b))=cnt b 8:=by decide +kernel
def Ns:∀ b,b<256->g2 (g1 b) % 16<=4/\g2 (g1 b) / 16<=4:=by decide +kernel
def lo4:∀ a,a<=4->∀ b,b<=4->∀ c,c<=4->((a+16*b) / 16+16*c+(a+16*b)) &&& 15=((a+16*b) / 16+(a+16*b)) &&& 15:=by decide +kernel
def step1(k:Nat):∀ x,x<256 ^ k->(x / 2 &&& rep 85 k)+(x &&& rep 85 k)=bytes g1 k x:=by
 induction k with
 | zero=>intro x a;simp at a;subst a;rfl
 | succ k d =>
  intro x a;have b:x / 256<256 ^ k:=by omega
  show(x / 2 &&& (85+256*rep 85 k))+(x &&& (85+256*rep 85 k))=g1 _+256*bytes g1 k _
  rw[<- (d _ b)];have c:x / 2=(x % 256 / 2+128*(x / 256 % 2))+256*(x / 256 / 2):=by omega
  have g:x &&& (85+256*rep 85 k)=(x % 256 &&& 85)+256*(x / 256 &&& rep 85 k):=by
   rw[<- and_split _ 85 _ _ (by omega) (by omega)];congr 1;omega
  have f:x / 2 &&& (85+256*rep 85 k)=(x % 256 / 2 &&& 85)+256*(x / 256 / 2 &&& rep 85 k):=by
   rw[c,and_split _ 85 _ _ (by omega) (by omega)]
   congr 1
   rcases jb7 _ with q|q<;>rw[q]
   .simp
   .exact Np _ (by omega)
  unfold g1;omega
def step2(k:Nat):∀ x,x<256 ^ k->(x / 4 &&& rep 51 k)+(x &&& rep 51 k)=bytes g2 k x:=by
 induction k with
 | zero=>intro x a;simp at a;subst a;rfl
 | succ k d =>
  intro x a;have b:x / 256<256 ^ k:=by omega
  show(x / 4 &&& (51+256*rep 51 k))+(x &&& (51+256*rep 51 k))=g2 _+256*bytes g2 k _
  rw[<- (d _ b)];have c:x / 4=(x % 256 / 4+64*(x / 256 % 4))+256*(x / 256 / 4):=by omega
  have g:x &&& (51+256*rep 51 k)=(x % 256 &&& 51)+256*(x / 256 &&& rep 51 k):=by
   rw[<- and_split _ 51 _ _ (by omega) (by omega)];congr 1;omega
  have f:x / 4 &&& (51+256*rep 51 k)=(x % 256 / 4 &&& 51)+256*(x / 256 / 4 &&& rep 51 k):=by
   rw[c,and_split _ 51 _ _ (by omega) (by omega)]
   congr 1
   exact Nr _ (by omega) _ (by omega)
  unfold g2;omega
def low:Nat->Nat->Prop
 | 0,x=>x=0
 | k+1,x=>x % 256 % 16<=4/\x % 256 / 16<=4/\low k (x / 256)
def OT{k x:Nat}(h:low k x):x % 16<=4:=by
 cases k with
 | zero=>simp[show x=0 from h]
 | succ k=>have:=h.1;omega
def step3(k:Nat):∀ x,low k x->((x / 16+x) &&& rep 15 k)=bytes g3 k x:=by
 induction k with
 | zero=>intro x a;rw[show x=0 from a];rfl
 | succ k d =>
  intro x a;obtain⟨h,f,b⟩:=a;have g:=OT b;show((x / 16+x) &&& (15+256*rep 15 k))=g3 _+256*bytes g3 k _
  rw[<- (d _ b)];have c:x / 16+x=(x % 256 / 16+16*(x / 256 % 16)+x % 256)+256*(x / 256 / 16+x / 256):=by omega
  rw[c,and_split _ 15 _ _ (by omega) (by omega)]
  congr 1
  have:=lo4 _ h _ f _ g
  rw[show x % 256 % 16+16*(x % 256 / 16)=x % 256 by omega] at this
  exact this
def Dq(f:Nat->Nat)(k x:Nat)(a:f (x % 256)<256):bytes f (k+1) x % 256=f (x % 256)/\bytes f (k+1) x / 256=bytes f k (x / 256):=by
 show(f _+256*bytes f k _) % 256=_/\(f _+256*bytes f k _) / 256=_
 omega
def Kw(f:Nat->Nat)(a:∀ b,b<256->f b<256)(k:Nat):∀ x,bytes f k x<256 ^ k:=by
 induction k with
 | zero=>intro x;exact Nat.one_pos
 | succ k c =>
  intro x;have:=c (x / 256)
  have:=a (x % 256) (by omega)
  show f _+256*bytes f k _<256 ^ k*256
  omega
def Dt(f g:Nat->Nat)(a:∀ b,b<256->f b<256)(k:Nat):∀ x,bytes g k (bytes f k x)=bytes (λb=>g (f b)) k x:=by
 induction k with
 | zero=>intro x;rfl
 | succ k c =>
  intro x;obtain⟨h,d⟩:=Dq f k x (a _ (by omega))
  show g _+256*bytes g k _=g _+256*bytes _ k _
  simp_all
def OO(k:Nat):∀ x,low k (bytes (λb=>g2 (g1 b)) k x):=by
 induction k with
 | zero=>intro x;rfl
 | succ k c =>
  intro x;obtain⟨a,d⟩:=Dq (λb=>g2 _) k x (Ez _ (by omega))
  have:=Ns (x % 256) (by omega)
  exact⟨by omega,by omega,by simp_all⟩
def Ku(f g:Nat->Nat)(h:∀ b,b<256->f b=g b)(k:Nat):∀ x,bytes f k x=bytes g k x:=by
 induction k with
 | zero=>intro x;rfl
 | succ k a=>intro x;show f _+256*bytes f k _=g _+256*bytes g k _;rw[h _ (by omega),a]
def sum(k:Nat)(x:Nat):Nat:=match k with
 | 0=>0
 | k+1=>cnt (x % 256) 8+sum k (x / 256)
def Uu(k:Nat):∀ x,sum k x=cnt x (8*k):=by
 induction k with
 | zero=>intro x;rfl
 | succ k a =>
  intro x;show cnt _ 8+sum k _=_
  rw[show 8*(k+1)=8+8*k by omega,KJ,a,KL x 8]
def o1(x:Nat):Nat:=(x / 2 &&& 6148914691236517205)+(x &&& 6148914691236517205)
def o2(x:Nat):Nat:=(x / 4 &&& 3689348814741910323)+(x &&& 3689348814741910323)
def o3(x:Nat):Nat:=(x / 16+x) &&& 1085102592571150095
def Bd(x:Nat)(a:x<18446744073709551616):o1 x<18446744073709551616:=by
 have:rep 85 8=6148914691236517205:=by decide +kernel
 unfold o1;rw[<- this,step1 8 x a];exact Kw g1 Ey 8 x
def PE(x:Nat)(a:x<18446744073709551616):o1 x=bytes g1 8 x:=by
 have:rep 85 8=6148914691236517205:=by decide +kernel
 unfold o1;rw[<- this,step1 8 x a]
def FW(x:Nat)(a:x<18446744073709551616):o2 (o1 x)=bytes (λb=>g2 (g1 b)) 8 x:=by
 have:rep 51 8=3689348814741910323:=by decide +kernel
 unfold o2;rw[<- this,step2 8 _ (Bd x a),PE x a,Dt g1 g2 Ey]
def PI(x:Nat)(a:x<18446744073709551616):o3 (o2 (o1 x))=bytes (λb=>cnt b 8) 8 x:=by
 have:rep 15 8=1085102592571150095:=by decide +kernel
 unfold o3;rw[<- this,FW x a,step3 8 _ (OO 8 x),Dt _ g3 Ez];exact Ku _ _ Nu 8 x
def Ky(f:Nat->Nat)(c:Nat)(a:∀ b,b<256->f b<=c)(k:Nat):∀ x,bytes f k x<=rep c k:=by
 induction k with
 | zero=>intro x;exact ja1 _
 | succ k d =>
  intro x;have:=d (x / 256)
  have:=a (x % 256) (by omega)
  show f _+256*bytes f k _<=c+256*rep c k
  omega
def Nq:∀ b,b<256->g2 (g1 b)<=68:=by decide +kernel
def PG(x:Nat)(a:x<18446744073709551616):o2 (o1 x)<4919131752989213765:=by
 have h:=Ky _ 68 Nq 8 x;rw[<- FW x a,show rep 68 8=4919131752989213764 by decide +kernel] at h
 omega
def Lr(p Y:Nat)(h:p<=8):(p+256*Y) / 256=Y:=by omega
def Ls(c b f a d:Nat)(i:c<=8)(h:b<=8)(g:f<=8)(j:a=f+256*d) :
  (c+256*(b+256*a)+(b+256*a)) / 65536=a+d:=by omega
def OQ(a b q2 c S:Nat)(g:a<=32)(f:b<=32)(d:q2<=32)(h:c<=32):(a+256*b+65536*q2+16777216*c+4294967296*S) / 4294967296=S:=by omega
def Lu(q S:Nat)(h:q<=64):(q+256*S) % 128=q:=by omega
def PV(q l j i k m r d b a c g f h y:Nat)(z:q<=8)(C:l<=8)(D:j<=8)(I:i<=8)(J:k<=8)(H:m<=8)(N:r<=8)(K:d<=8)
  (v:h=r+256*d) (u:f=m+256*h) (x:g=k+256*f) (w:c=i+256*g) (s:a=j+256*c) (t:b=l+256*a) (n:y=q+256*b) :
  y<=578721382704613384/\y / 256=b/\b<=2260630401189896/\(y+b) / 65536=a+c/\a+c<=17661175009296/\(y+b+(a+c)) / 4294967296=g+f+h+d/\g+f+h+d<=1000000000 /\
   (y+b+(a+c)+(g+f+h+d)) % 128=q+l+j+i+k+m+r+d:=by
 have F:h<=2056:=by omega
 have E:f<=526344:=by omega
 have M:g<=134744072:=by omega
 have G:c<=34494482440:=by omega
 have L:a<=8830587504648:=by omega
 have A:b<=2260630401189896:=by omega
 have B:y<=578721382704613384:=by omega
 refine⟨B,?_,A,?_,?_,?_,?_,?_⟩
 .rw[n];exact Lr _ _ z
 .have:=Ls q l j a c z C D s
  rw[<- t,<- n] at this;exact this
 .omega
 .have o:y+b+(a+c)=(q+l+j+i)+256*(l+j+i+k)+65536*(j+i+k+m)+16777216*(i+k+m+r)+4294967296*(g+f+h+d):=by
   subst n t s w x u v;simp only[Nat.mul_add,<- jb4,Nat.reduceMul];omega
  rw[o];exact OQ _ _ _ _ _ (by omega) (by omega) (by clear o n t s w x u v;omega) (by clear o n t s w x u v;omega)
 .omega
 .have o:y+b+(a+c)+(g+f+h+d)=(q+l+j+i+k+m+r+d)+256*(b+a+c+g+f+h+d):=by
   omega
  rw[o];exact Lu _ _ (by clear o n t s w x u v;omega)
def o4(x:Nat):Nat:=x+x / 256
def o5(x:Nat):Nat:=x+x / 65536
def o6(x:Nat):Nat:=x+x / 4294967296
def PU(x:Nat)(A:x<18446744073709551616):o3 (o2 (o1 x))<=578721382704613384/\o4 (o3 (o2 (o1 x)))<=580982013105803280/\o5 (o4 (o3 (o2 (o1 x))))<=580999674280812576/\o6 (o5 (o4 (o3 (o2 (o1 x)))))<=580999675280812576/\o6 (o5 (o4 (o3 (o2 (o1 x))))) % 128=cnt x 64:=by
 rw[PI x A,show(64:Nat)=8*8 by rfl,<- Uu]
 have v:=cnt_le (x % 256) 8;have B:=cnt_le (x / 256 % 256) 8;have C:=cnt_le (x / 256 / 256 % 256) 8;have F:=cnt_le (x / 256 / 256 / 256 % 256) 8;have u:=cnt_le (x / 256 / 256 / 256 / 256 % 256) 8;have z:=cnt_le (x / 256 / 256 / 256 / 256 / 256 % 256) 8;have D:=cnt_le (x / 256 / 256 / 256 / 256 / 256 / 256 % 256) 8;have w:=cnt_le (x / 256 / 256 / 256 / 256 / 256 / 256 / 256 % 256) 8;obtain⟨d,l,h,i,j,g,q,a⟩:=PV _ _ _ _ _ _ _ _ _ _ _ _ _ _ _ v B C F u z D w rfl rfl rfl rfl rfl rfl rfl
 have e:bytes (λb=>cnt b 8) 8 x=cnt (x % 256) 8+256*(cnt (x / 256 % 256) 8+256*(cnt (x / 256 / 256 % 256) 8+256*(cnt (x / 256 / 256 / 256 % 256) 8+256*(cnt (x / 256 / 256 / 256 / 256 % 256) 8+256*(cnt (x / 256 / 256 / 256 / 256 / 256 % 256) 8+256*(cnt (x / 256 / 256 / 256 / 256 / 256 / 256 % 256) 8+256*cnt (x / 256 / 256 / 256 / 256 / 256 / 256 / 256 % 256) 8)))))):=by
  simp only[bytes,Nat.mul_zero,jaR]
 have E:sum 8 x=cnt (x % 256) 8+cnt (x / 256 % 256) 8+cnt (x / 256 / 256 % 256) 8+cnt (x / 256 / 256 / 256 % 256) 8+cnt (x / 256 / 256 / 256 / 256 % 256) 8+cnt (x / 256 / 256 / 256 / 256 / 256 % 256) 8+cnt (x / 256 / 256 / 256 / 256 / 256 / 256 % 256) 8+cnt (x / 256 / 256 / 256 / 256 / 256 / 256 / 256 % 256) 8:=by
  simp only[sum,Nat.add_assoc,jaR]
 rw[<- e] at d l i g a;rw[<- E] at a;generalize bytes (λb=>cnt b 8) 8 x=y at d l i g a |-
 obtain⟨c,m⟩:∃ c,y / 256=c:=⟨_,rfl⟩;rw[<- l,m] at h i g a;obtain⟨f,s⟩:∃ f,(y+c) / 65536=f:=⟨_,rfl⟩;rw[<- i,s] at j g a;obtain⟨k,t⟩:∃ k,(y+c+f) / 4294967296=k:=⟨_,rfl⟩;rw[<- g,t] at q a;have r:o4 y=y+c:=by unfold o4;rw[m]
 have n:o5 (o4 y)=y+c+f:=by rw[r];unfold o5;rw[s]
 have o:o6 (o5 (o4 y))=y+c+f+k:=by rw[n];unfold o6;rw[t]
 refine⟨d,?_,?_,?_,?_⟩
 .rw[r];exact ja4 (jaZ d h) (by decide)
 .rw[n];exact ja4 (jaZ (jaZ d h) j) (by decide)
 .rw[o];exact ja4 (jaZ (jaZ (jaZ d h) j) q) (by decide)
 .rw[o];exact a
end S4
namespace S4
def iq(w:ω)(p n x:Nat):Prop:=w.heap[p]?=S (.cells #[(n:Int),.int .u64 (x:Int)] 285 (0,0))
structure jw(n x:Nat):Prop where
 n1:n<=64
 hi:∀ i,n<=i->x.testBit i=false
def jw.lt{n x:Nat}(h:jw n x):x<18446744073709551616:=by
 have  := Nat.lt_pow_two_of_testBit x (λi a=>h.hi i (ja4 h.n1 a))
 exact this
def iq.cells{w:ω}{p n x:Nat}(h:iq w p n x):w.cell? ⟨p,0,O⟩=S (.int .i64 (n:Int))/\w.cell? ⟨p,1,O⟩=S (.int .u64 (x:Int))/\w.frozen? ⟨p,1,O⟩=false:=by
 have a:w.heap[p]?=_:=h;refine⟨?_,?_,?_⟩<;>simp[World.cell?,World.frozen?,a]
def iq.below{w a:ω}{p n x:Nat}(h:iq w p n x)(b:Below w w a):iq a p n x:=(b.block p (lt_of_some h)).trans h
def iq.set{w:ω}{p n x:Nat}(h:iq w p n x)(y:Nat):iq (w.setCell ⟨p,1,O⟩ (.int .u64 (y:Int))) p n y:=by
 unfold iq;rw[heap_setCell_same w p 1 _ _ _ h];rfl
def O6(w:ω)(o:Obj):(w.alloc o).heap[w.heap.size]?=S o:=by
 show(w.heap.push o)[w.heap.size]?=S o
 simp
def gG(n:Nat)(i:Int):Bool:=decide (0<=i/\i<(n:Int))
def hasB(n x:Nat)(i:Int):Bool:=gG n i&&x.testBit i.toNat
def Uc(n:Nat)(w:ω)(h:n<=64) :
  κ prog 239 #[(n:Int)] w λe a=>e=.returned (.tuple #[w.heap.size,.nilIface])/\iq a w.heap.size n 0/\Below w w a:=by
 have g1:decide ((n:Int)<0)=false:=decide_eq_false (by omega)
 have g2:decide (64<(n:Int))=false:=decide_eq_false (by omega)
 go_enter func239,ntmps239
 go_wp2
 go_ret2
 exact⟨rfl,O6 w _,(ja0 _ w).alloc (ja1 _) _⟩
def Ia(n:Nat)(h:n<=64):jw n 0:=⟨h,λi _=>Nat.zero_testBit i⟩
def Il{p n x:Nat}(i:Int)(w:ω)(h:iq w p n x) :
  κ prog 245 #[p,i] w λe c=>e=.returned (.bool (gG n i))/\c=w:=by
 obtain⟨f,c1,d⟩:=h.cells;by_cases b:0<=i
 .have a:Hid (decide (i<(n:Int))=gG n i):=by unfold Hid gG;simp[b]
  go_enter func245,ntmps245
  go_wp2
  go_ret
  exact⟨ng a.out,rfl⟩
 .have a:Hid (false=gG n i):=by unfold Hid gG;simp[b]
  go_enter func245,ntmps245
  go_wp2
  go_ret
  exact⟨ng a.out,rfl⟩
def J4(x k:Nat)(b:x<18446744073709551616):(bits BinOp.and .u64 ((x:Int) / 2 ^ k) 1==1)=x.testBit k:=by
 have a:x / 2 ^ k<18446744073709551616:=Nat.lt_of_le_of_lt (Nat.div_le_self _ _) b;have c:((x / 2 ^ k:Nat):Int)=(x:Int) / 2 ^ k:=by rfl
 show(bits _ .u64 ((x / 2 ^ k:Nat):Int) ((1:Nat):Int)==1)=_
 rw[(bits_and_u64_nat _ 1 a (by decide)),Nat.testBit_eq_decide_div_mod_eq,Nat.and_one_is_mod]
 rcases jb7 _ with q|q<;>rw[q]<;>rfl
def TW{p n x:Nat}(i:Int)(w:ω)(h:iq w p n x)(d:jw n x) :
  κ prog 246 #[p,i] w λe f=>e=.returned (.bool (hasB n x i))/\f=w:=by
 have b:=Il i w h;obtain⟨m,c1,g⟩:=h.cells;have l:=d.n1
 cases a:gG n i with
 | false =>
  rw[a] at b;have c:Hid (false=hasB n x i):=by unfold Hid hasB;simp[a]
  go_enter func246,ntmps246
  go_wp2_with fail
  refine cSt b ?_;go_wp2
  go_ret
  exact⟨ng c.out,rfl⟩
 | true =>
  rw[a] at b;obtain⟨k,rfl⟩:∃ k:Nat,i=k:=⟨i.toNat,by unfold gG at a;simp at a;omega⟩
  have j:k<n:=by unfold gG at a;simp at a;omega
  have c:Hid ((bits BinOp.and .u64 ((x:Int) / 2 ^ k) 1==1)=hasB n x (k:Int)):=by
   unfold Hid hasB;rw[a,jb6,jbG,J4 x k d.lt]
  go_enter func246,ntmps246
  go_wp2_with fail
  refine cSt b ?_;go_wp2
  go_ret
  exact⟨ng c.out,rfl⟩
def JH(a:Nat)(d:a<9223372036854775808):bits .and .i64 (a:Int) 127=((a % 128:Nat):Int):=by
 have b:(BitVec.ofInt 64 (a:Int)).toNat=a:=by
  rw[BitVec.ofInt_natCast,BitVec.toNat_ofNat];omega
 have c:(BitVec.ofInt 64 (127:Int)).toNat=127:=by decide
 show IntKind.i64.wrap ((BitVec.ofInt 64 (a:Int) &&& BitVec.ofInt 64 (127:Int)).toNat:Int)=_
 rw[BitVec.toNat_and,b,c,(Nat.and_two_pow_sub_one_eq_mod a 7)];exact ja8 _ (by omega)
def zk(a:Nat)(b:a<18446744073709551616):IntKind.u64.wrap (a:Int)=(a:Int):=by
 rw[jb3];omega
def uK(a m:Nat)(c:a<18446744073709551616)(b:m<18446744073709551616):bits .and .u64 (a:Int) (m:Int)=((a &&& m:Nat):Int):=bits_and_u64_nat a m c b
def QE(x:Nat)(a:x<18446744073709551616):IntKind.u64.wrap (bits .and .u64 ((x:Int) / 2) 6148914691236517205+bits .and .u64 (x:Int) 6148914691236517205)=((o1 x:Nat):Int):=by
 have d:((x / 2:Nat):Int)=(x:Int) / 2:=by omega
 have c:bits .and .u64 ((x:Int) / 2) 6148914691236517205=((x / 2 &&& 6148914691236517205:Nat):Int):=(uK (x / 2) 6148914691236517205 (by omega) (by decide))
 have b:bits .and .u64 (x:Int) 6148914691236517205=((x &&& 6148914691236517205:Nat):Int):=(uK x 6148914691236517205 a (by decide))
 rw[c,b,<- Int.natCast_add];exact zk _ (Bd x a)
def QF(y:Nat)(c:y<18446744073709551616)(b:o2 y<18446744073709551616):IntKind.u64.wrap (bits .and .u64 ((y:Int) / 4) 3689348814741910323+bits .and .u64 (y:Int) 3689348814741910323)=((o2 y:Nat):Int):=by
 have f:((y / 4:Nat):Int)=(y:Int) / 4:=by omega
 have d:bits .and .u64 ((y:Int) / 4) 3689348814741910323=((y / 4 &&& 3689348814741910323:Nat):Int):=(uK (y / 4) 3689348814741910323 (by omega) (by decide))
 have a:bits .and .u64 (y:Int) 3689348814741910323=((y &&& 3689348814741910323:Nat):Int):=(uK y 3689348814741910323 c (by decide))
 rw[d,a,<- Int.natCast_add];exact zk _ b
def QG(y:Nat)(a:y<4919131752989213765):IntKind.u64.wrap ((y:Int) / 16+(y:Int))=((y / 16+y:Nat):Int)/\bits .and .u64 ((y / 16+y:Nat):Int) 1085102592571150095=((o3 y:Nat):Int):=by
 constructor
 .rw[jb3];omega
 .exact uK _ _ (by omega) (by decide)
def Bv(y d:Nat)(h:y+y / d<18446744073709551616):IntKind.u64.wrap ((y:Int)+(y:Int) / (d:Int))=((y+y / d:Nat):Int):=by
 exact zk _ h
def PO(x:Nat)(w:ω)(j:x<18446744073709551616) :
  κ prog 240 #[.int .u64 (x:Int)] w λe s=>e=.returned (.int .i64 (cnt x 64:Nat))/\s=w:=by
 have t:=QE x j;have o:=Bd x j;have n:=PG x j;obtain⟨l,i,h,b,a⟩:=PU x j;generalize o1 x=y1 at t o n l i h b a;have q2:=QF y1 o (by omega)
 generalize o2 y1=k at q2 n l i h b a;obtain⟨u,r⟩:=QG k n;generalize k / 16+k=A at u r;generalize o3 k=d at r l i h b a;have y:IntKind.u64.wrap ((d:Int)+(d:Int) / 256)=((o4 d:Nat):Int):=(Bv d 256 (show o4 d<_ by omega))
 generalize o4 d=g at y i h b a;have z:IntKind.u64.wrap ((g:Int)+(g:Int) / 65536)=((o5 g:Nat):Int):=(Bv g 65536 (show o5 g<_ by omega))
 generalize o5 g=f at z h b a;have v:IntKind.u64.wrap ((f:Int)+(f:Int) / 4294967296)=((o6 f:Nat):Int):=(Bv f 4294967296 (show o6 f<_ by omega))
 generalize o6 f=m at v b a;have q:=JH m (by omega)
 have B:IntKind.i64.wrap (m:Int)=(m:Int):=ja8 _ (by omega)
 rw[a] at q;generalize cnt x 64=c at q |-;go_enter func240,ntmps240
 go_wp2
 go_ret
 exact⟨rfl,rfl⟩
def Hf{p n x:Nat}(w:ω)(h:iq w p n x)(a:jw n x) :
  κ prog 195 #[p] w λe b=>e=.returned (.int .i64 (cnt x 64:Nat))/\b=w:=by
 obtain⟨d,c1,c⟩:=h.cells;go_enter func195,ntmps195
 go_wp2_with fail
 refine cSt (PO x w a.lt) ?_;go_wp2
 go_ret
 simp_all
def fK(n x:Nat)(i:Int)(b:Bool):Bool:=gG n i&&(hasB n x i != b)
def eY(n x:Nat)(i:Int)(b:Bool):Nat:=if fK n x i b then x ^^^ 2 ^ i.toNat else x
def yg{n x:Nat}(h:jw n x)(i:Int)(b:Bool):jw n (eY n x i b):=by
 unfold eY;split
 .rename_i q
  have a:gG n i=true:=by unfold fK at q;simp_all
  unfold gG at a;simp at a
  refine⟨h.n1,λj c=>?_⟩
  rw[jbp,h.hi j c,Nat.testBit_two_pow_of_ne (by omega)]
  rfl
 .exact h
def yc{n x:Nat}(i:Int)(b:Bool)(j:Nat):(eY n x i b).testBit j=if gG n i=true/\i=(j:Int) then b else x.testBit j:=by
 unfold eY fK
 cases a:gG n i with
 | false=>simp
 | true =>
  obtain⟨k,rfl⟩:∃ k:Nat,i=k:=⟨i.toNat,by unfold gG at a;simp at a;omega⟩
  have c:hasB n x (k:Int)=x.testBit k:=by unfold hasB;simp_all
  rw[c,jb6,jbG];by_cases e:k=j
  .subst e
   by_cases q:x.testBit k=b
   .simp_all
   .have:(x.testBit k != b)=true:=by simpa using q
    rw[if_pos this,jbp,Nat.testBit_two_pow_self]
    revert q
    cases x.testBit k<;>cases b<;>simp
  .have d:¬(true=true/\(k:Int)=(j:Int)):=λh=>e (by omega)
   split
   .simp_all
   .rfl
def VF(x k:Nat)(c:x<18446744073709551616)(b:k<64):bits BinOp.xor .u64 (x:Int) (IntKind.u64.wrap (2 ^ k))=((x ^^^ 2 ^ k:Nat):Int):=by
 have a:2 ^ k<18446744073709551616:=Nat.pow_lt_pow_right (by decide) b
 have e:(2:Int) ^ k=((2 ^ k:Nat):Int):=by rfl
 rw[e,zk _ a];exact bits_xor_u64_nat _ _ c a
def yO{p n x:Nat}(i:Int)(b:Bool)(w:ω)(h:iq w p n x)(s:jw n x) :
  κ prog 204 #[p,i,b] w λe j=>e=.returned (.bool (fK n x i b))/\iq j p n (eY n x i b)/\Kept (λk=>k=p) w j:=by
 have f:=Il i w h;have r:=TW i w h s;have t:=ah h;obtain⟨C,c1,B⟩:=h.cells;have A:=s.n1
 cases a:gG n i with
 | false =>
  rw[a] at f;have c:fK n x i b=false:=by unfold fK;simp[a]
  have g:eY n x i b=x:=by unfold eY;simp[c]
  rw[c,g];go_enter func204,ntmps204
  go_wp2_with fail
  refine cSt f ?_;go_wp2
  go_ret
  exact⟨rfl,t.out,Kept.refl _ w⟩
 | true =>
  rw[a] at f;have o:fK n x i b=(hasB n x i != b):=by unfold fK;simp[a]
  generalize z:hasB n x i=d at r o
  cases l:(d != b) with
  | false =>
   have c  := o.trans l;have g:eY n x i b=x:=by unfold eY;simp[c]
   have v:(d==b)=true:=by revert l;cases d<;>cases b<;>simp
   rw[c,g];go_enter func204,ntmps204
   go_wp2_with fail
   refine cEq f λj m=>?_
   have q:=m.symm;subst q;go_wp2_with fail
   refine cSt r ?_;go_wp2
   go_ret
   exact⟨rfl,t.out,Kept.refl _ w⟩
  | true =>
   have c  := o.trans l;have g:eY n x i b=x ^^^ 2 ^ i.toNat:=by unfold eY;simp[c]
   have v:(d==b)=false:=by revert l;cases d<;>cases b<;>simp
   rw[c,g];obtain⟨k,rfl⟩:∃ k:Nat,i=k:=⟨i.toNat,by unfold gG at a;simp at a;omega⟩
   have u:k<64:=by unfold gG at a;simp at a;omega
   rw[jbG];have y:Hid _:=VF x k s.lt u;go_enter func204,ntmps204
   go_wp2_with fail
   refine cEq f λj m=>?_
   have q:=m.symm;subst q;go_wp2_with fail
   refine cSt r ?_;go_wp2_with fail
   go_region
   go_wp2
   go_ret
   exact⟨rfl,by rw[y.out];exact t.out.set _,(Kept.setCell (S:=λk=>k=p) (Kept.refl _ w)  (.inl rfl) _).drew⟩
end S4
namespace S4
def gX(x:Nat):Nat->List Nat
 | 0=>[]
 | k+1=>gX x k++if x.testBit k then [k] else []
def elems(x:Nat):List Nat:=gX x 64
def Ed(x k:Nat):(gX x k).length=cnt x k:=by
 induction k with
 | zero=>rfl
 | succ k a =>
  show(gX x k++_).length=cnt x k+_
  rw[jak,a];split<;>rfl
def LU(k:Nat):gX 0 k=[]:=by
 induction k with
 | zero=>rfl
 | succ k a=>show gX 0 k++_=[];rw[a];simp
def uO(x k j:Nat):j∈gX x k↔j<k/\x.testBit j=true:=by
 induction k with
 | zero=>simp[gX]
 | succ k a =>
  show j∈gX x k++_↔_
  rw[List.mem_append,a];by_cases h:x.testBit k=true
  .rw[if_pos h,jaK]
   constructor
   .rintro(⟨h1,h2⟩|rfl)
    .exact⟨by omega,h2⟩
    .simp_all
   .rintro⟨h1,h2⟩
    by_cases e:j=k
    .exact .inr e
    .exact .inl ⟨by omega,h2⟩
  .rw[if_neg h]
   constructor
   .rintro(⟨h1,h2⟩|h1)
    .exact⟨by omega,h2⟩
    .cases h1
   .rintro⟨h1,h2⟩
    by_cases e:j=k
    .simp_all
    .exact .inl ⟨by omega,h2⟩
def OU(x:Nat)(b:x≠0)(a:x<18446744073709551616):∃ m,x=2 ^ Lib.ctz 64 x*(2*m+1)/\Lib.ctz 64 x<64:=by
 have:=Lib.ctzFrom_spec 64 x (by omega) a
 unfold Lib.ctz
 simp_all
def AO(c m j:Nat):(2 ^ c*(2*m+1)).testBit j=(decide (c<=j)&&(2*m+1).testBit (j-c)):=Nat.testBit_two_pow_mul ..
def RU(c m j:Nat):((2 ^ c*(2*m+1)) &&& (2 ^ c*(2*m+1)-1)).testBit j=((2 ^ c*(2*m+1)).testBit j&&decide (j≠c)):=by
 have d:0<2 ^ c:=Nat.pow_pos (by decide)
 have e:2 ^ c*(2*m+1)-1=2 ^ c*(2*m)+(2 ^ c-1):=by
  rw[Nat.mul_add];omega
 rw[Nat.testBit_and,e,jaE _ (by omega),AO]
 by_cases h:j<c
 .simp[show ¬c<=j by omega]
 .rw[if_neg h]
  by_cases b:j=c
  .simp_all
  .obtain⟨k,a⟩:∃ k,j-c=k+1:=⟨j-c-1,by omega⟩
   rw[a,Nat.testBit_succ,Nat.testBit_succ,show(2*m+1) / 2=m by omega]
   simp[b]
def LV(x:Nat)(l:x≠0)(o:x<18446744073709551616):elems x=Lib.ctz 64 x::elems (x &&& (x-1))/\(x &&& (x-1))<x/\Lib.ctz 64 x<64:=by
 obtain⟨m,e,h⟩:=OU x l o;generalize Lib.ctz 64 x=c at e h;refine⟨?_,Nat.lt_of_le_of_lt Nat.and_le_right (by omega),h⟩
 have n:∀ j,j<c->x.testBit j=false:=λj v=>by rw[e,AO];simp[show ¬c<=j by omega]
 have s:x.testBit c=true:=by rw[e,AO];simp_all
 have a:∀ j,(x &&& (x-1)).testBit j=(x.testBit j&&decide _):=λj=>by
  rw[e];exact RU c m j
 generalize x &&& (x-1)=y at a
 have r:∀ k,k<=c->gX x k=[]/\gX y k=[]:=by
  intro k
  induction k with
  | zero=>intro _;exact⟨rfl,rfl⟩
  | succ k g =>
   intro u;obtain⟨f,b⟩:=g (by omega)
   have i:=n k (by omega)
   have d:y.testBit k=false:=by simp_all
   refine⟨?_,?_⟩
   .show gX x k++_=[];rw[f,i];rfl
   .show gX y k++_=[];rw[b,d];rfl
 have q:∀ k,gX x (c+1+k)=c::gX y (c+1+k):=by
  intro k
  induction k with
  | zero =>
   obtain⟨f,b⟩:=r c (ja1 _);have d:y.testBit c=false:=by rw[a];simp
   show gX x c++_=c::(gX y c++_)
   simp_all
  | succ k g =>
   have t:∀ z,gX z (c+1+(k+1))=gX z (c+1+k)++if z.testBit (c+1+k) then [c+1+k] else []:=λz=>rfl
   have:decide (c+1+k≠c)=true:=decide_eq_true (by omega)
   simp_all
 have:=q (63-c)
 rw[show c+1+(63-c)=64 by omega] at this
 exact this
def LW:elems 0=[]:=LU 64
def Tab(w:ω):Prop:=∀ j,j<Lib.deBruijn64tab.length->w.cell? ⟨0,j,O⟩=S (.int .u8 (Lib.deBruijn64tab.getD j 0:Nat))
def Vd(x a:Nat)(c:x<18446744073709551616)(f:x≠0)(d:x &&& (18446744073709551616-x)=a) :
  IntKind.u64.wrap (bits BinOp.and IntKind.u64 (x:Int) (IntKind.u64.wrap (-(x:Int)))*285870213051353865) / 288230376151711744=((a*285870213051353865 % 18446744073709551616 / 288230376151711744:Nat):Int):=by
 have b:IntKind.u64.wrap (-(x:Int))=((18446744073709551616-x:Nat):Int):=by rw[jb3];omega
 rw[b,bits_and_u64_nat x _ c (by omega),jb3]
 omega
def Vb(x k a:Nat)(w:ω)(f:((x:Int)==0)=false)
  (c:IntKind.u64.wrap (bits BinOp.and IntKind.u64 (x:Int) (IntKind.u64.wrap (-(x:Int)))*285870213051353865) / 288230376151711744=(a:Int))
  (h:a<64) (d:k<64) (g:w.cell? ⟨0,a,O⟩=S (.int .u8 (k:Int))) :
  κ prog 268 #[.int .u64 (x:Int)] w λe b=>e=.returned (k:Int)/\b=w:=by
 go_enter func268,ntmps268
 go_wp2_with (omega)
 go_ret
 simp_all
def Va(x:Nat)(w:ω)(c:x≠0)(f:x<18446744073709551616)(i:Tab w) :
  κ prog 268 #[.int .u64 (x:Int)] w λe h=>e=.returned ((Lib.ctz 64 x:Nat):Int)/\h=w:=by
 obtain⟨g,a⟩:=Lib.lowest_bit 64 x c f;obtain⟨d,j⟩:=Lib.deBruijn64_at _ a;have b:=i _ d;rw[j] at b;exact Vb x _ _ w (by simp;omega) (Vd x _ f c g) d a b
def He{p n x:Nat}(w:ω)(h:iq w p n x) :
  κ prog 242 #[p] w λe a=>e=.returned (.func (.func 267) #[] #[w.heap.size])/\a=w.alloc (.cells #[.int .u64 (x:Int)] 283):=by
 obtain⟨c,c1,b⟩:=h.cells;go_enter func242,ntmps242
 go_wp2
 go_ret
 exact⟨rfl,rfl⟩
end S4
namespace S4
section
attribute [local go_sem] Oper.semAt_some
def sN(W a:ω):Prop:=Tab W->Tab a
def JG(v:Nat)(b:v≠0)(a:v<18446744073709551616):IntKind.u64.wrap ((v:Int)-1)=((v-1:Nat):Int)/\bits .and .u64 (v:Int) ((v-1:Nat):Int)=((v &&& (v-1):Nat):Int):=by
 refine⟨?_,bits_and_u64_nat _ _ a (by omega)⟩
 rw[jb3];omega
def FV{n:Nat}:Fence.wide.depth.isSome=true->1<=n:=λh=>by cases h
structure jd(v:Nat)(rest:List Nat):Prop where
 eq:rest=elems v
def jd.zero{a:List Nat}(h:jd 0 a):a=[]:=h.eq.trans LW
def jd.len{v:Nat}{a:List Nat}(h:jd v a):a.length<=64:=by
 rw[h.eq];unfold elems;rw[Ed];exact cnt_le v 64
def jd.step{v:Nat}{a:List Nat}(h:jd v a)(d:v≠0)(f:v<18446744073709551616):∃ r,a=Lib.ctz 64 v::r/\jd (v &&& (v-1)) r/\(v &&& (v-1))<v:=by
 obtain⟨b,c,_⟩:=LV v d f;exact⟨_,h.eq.trans b,⟨rfl⟩,c⟩
def all1_in(n:Nat)(l Bn x:Nat)(a:List Nat)(k:jd x a)(P:x<18446744073709551616)(J Jx:List Nat->ω->Prop)
    (I:∀ pre y W,J pre W->pre.length<64->YieldAt Fence.wide (n-1) prog l #[((y:Nat):Int)] W λe b =>
      (e=.returned true/\J (pre++[y]) b/\sN W b)\/(e=.returned false/\Jx (pre++[y]) b))
    (W:ω) (a0:W.cell? ⟨Bn,0,none⟩=some (.int .u64 (x:Int))) (f:Tab W) (D:J [] W) :
    CallsIn Fence.wide n prog 267 #[.func (.yield l) #[] #[],Bn] W λe b=>(∃ v,e=.returned v) /\
      ((∃ z,z=a/\J z b)\/(∃ pre,pre <+: a/\Jx pre b)):=by
  have R:=ah f;have F:Hid (a.length<=64):=k.len;refine callsIn_of_wp func267 rfl trivial ?_ rfl;simp only[ntmps267,jaC,jax,jbs,Nat.reduceAdd,Nat.reduceSub,Array.replicate_succ,Array.replicate_zero,List.push_toArray,List.append_toArray,jaL,jbJ]
  gi_wp2
  gi_loopw [3] (λq wr=>∃(pre i:List Nat) (v:Nat),q=.int .u64 (v:Int)/\v<18446744073709551616/\a=pre++i/\jd v i/\Tab wr/\J pre wr)
    (λq wr=>(intOf q).toNat)
  case atStart =>
    exact⟨[],a,x,rfl,P,rfl,k,R.out,D⟩
  case round =>
    obtain⟨pre,i,v,rfl,g,h,s,f,m⟩:=hrel;have u:=ah f;by_cases d:v=0
    . subst d
      have N:=s.zero;subst N
      gi_wp2
      go_end0
      exact⟨⟨_,rfl⟩,.inl ⟨pre,by simp[h],m⟩⟩
    . obtain⟨r,t,w,E⟩:=s.step d g
      obtain⟨G,j⟩:=JG v d g;have o:=ah (Va v wr d g u.out);generalize Lib.ctz 64 v=c at t o;subst t;have H:pre.length<64:=by have:=F.out;rw[h] at this;simp at this;omega
      obtain⟨fn,X,U,T,Z,Q⟩:=(I pre c wr m H);have A:=ah h;generalize v &&& (v-1)=v2 at E w j;have C:v2<18446744073709551616:=by omega
      generalize v-1=V at G j
      gi_wp2_with fail
      refine⟨trivial,FV,(callsIn_wide.2 o.out).mono ?_⟩;rintro e S ⟨rfl,K⟩;have B:=K.symm;subst B
      gi_wp2_with fail
      refine⟨FV,Q.mono ?_⟩;rintro e Y (⟨rfl,L,O⟩|⟨rfl,M⟩)
      . gi_wp2
        go_roundw
        case rel=>exact⟨pre++[c],r,v2,rfl,C,by simp[A.out],w,(O u.out),L⟩
        case measure=>simp[intOf];omega
      . gi_wp2
        refine bodyPost_ret (results_none rfl _ _ _) rfl ?_;exact⟨⟨_,rfl⟩,.inr ⟨pre++[c],⟨r,by simp[A.out]⟩,M⟩⟩
def all_stops(n:Nat)(Bn x:Nat)(a:List Nat)(g:jd x a)(i:x<18446744073709551616)(w:ω)(b:w.cell? ⟨Bn,0,O⟩=S (.int .u64 (x:Int)))(f:Tab w) :
  SeqStopsK Fence.wide n prog 267 #[Bn] (λy:Nat => #[Value.int .i64 (y:Int)]) sN (λk=>k=a) (λpre=>pre <+: a) 64 w:=λl J Jx W c _ _ m h =>
 all1_in n l Bn x a g i J Jx m W ((c.cell  (ja2 w _ b)).trans b) (λj d=>(c.cell  (ja2 w _ (f j d))).trans (f j d)) h
def ET{A B C:ω}(h:sN A B)(k:sN B C):sN A C:=λt=>k (h t)
def ES(W:ω)(l:Nat)(o f:Obj)(h:W.heap[l]?=S o)(d:o.isCells=false):sN W (W.putObj l f):=λt j b=>by
 have a:=t j b
 have c:(0:Nat)≠l:=λe=>by
  subst e;unfold World.cell? at a;rw[h] at a;cases o<;>simp[Obj.isCells] at d a
 exact(jad (jbh c)).trans a
