/- Shelves as plain data (G1 to G4): files by their numbers, a list that is walked, what is seen of a cluster, a range of sectors and its parts, what is got, put, wiped and moved. -/
import Derived.Test.YtonhoahnieoebabGreatDoorQAImgKind
import Derived.Deep.CutBlock
import Derived.Deep.CutRange
namespace Go.Proofs.YtonhoahnieoebabGreatDoor
open Go.RowKit
abbrev SV:=Nat→Option IV
def SV.file(s:SV)(n:Int):Option IV:=if 0≤n∧n<5 then s n.toNat else none
def SV.upd(s:SV)(i:Nat)(v:IV):SV:=fun j=>if j=i then some v else s j
def SV.ok(s:SV)(m:Nat):Prop:=∀ i v,s i=some v→v.ok m
theorem SV.dJ{s:SV}{n:Int}{v:IV}(h:s.file n=some v):0≤n∧n<5∧s n.toNat=some v:=by
 unfold SV.file at h;split at h
 ·next hn=>exact⟨hn.1,hn.2,h⟩
 ·cases h
theorem SV.KU{s:SV}{i:Nat}(h:i<5):s.file (i:Int)=s i:=by
 unfold SV.file;rw[if_pos ⟨by omega,by omega⟩];rfl
theorem SV.ok.more{s:SV}{m m':Nat}(h:s.ok m)(hm:m≤m'):s.ok m':=fun i v e=>(h i v e).more hm
theorem SV.ok.upd{s:SV}{m m':Nat}(h:s.ok m)(hm:m≤m'){i:Nat}{v:IV}(hv:v.ok m'):(s.upd i v).ok m':=by
 intro j u e;unfold SV.upd at e;split at e
 ·cases e;exact hv
 ·exact(h j u e).more hm
theorem SV.fM{s:SV}{n:Int}{v u:IV}(h:s.file n=some v)(k:Int):(s.upd n.toNat u).file k=if k=n then some u else s.file k:=by
 obtain⟨h0,h1,_⟩:=SV.dJ h;unfold SV.file SV.upd;by_cases hk:0≤k∧k<5
 ·rw[if_pos hk]
  by_cases e:k=n
  ·rw[if_pos e,if_pos (by rw[e])]
  ·rw[if_neg e,if_neg (by omega),if_pos hk]
 ·rw[if_neg hk]
  have e:k≠n:=by omega
  rw[if_neg e,if_neg hk]
theorem IV.yx(v:IV)(c f:Int)(s:ByteArray):(v.write c f s).h=v.h:=by unfold IV.write;split<;>rfl
theorem IV.Aj(v:IV)(c:Nat)(e:Int × Int):(v.set c e).h=v.h:=by unfold IV.set;split<;>rfl
theorem IV.rC(v:IV)(c:Int):(v.clear c).h=v.h:=by
 unfold IV.clear;split
 ·exact IV.Aj _ _ _
 ·rfl
theorem IV.wK(v:IV)(c:Int)(s:ByteArray):(v.fill c s).h=v.h:=by
 unfold IV.fill;split
 ·split
  ·rfl
  ·split
   ·rfl
   ·split
    ·rw[IV.Aj];rfl
    ·rfl
 ·rfl
def SV.fQ(s:SV)(root:Int):Int:=match s.file root with
 | none=>0
 | some v=>v.h.c
def SV.iI(s:SV)(rc:Int):Nat→List Int→Int→List Int × Int
 | 0,_,_=>([],10)
 | k+1,l,n=>if n = -1 then (l,0) else match s.file n with
  | none=>([],4)
  | some v=>if l.length=5 then ([],10) else if v.h.c=rc then s.iI rc k (l++[n]) v.h.b else ([],2)
def SV.walk(s:SV)(root:Int):List Int × Int:=s.iI (s.fQ root) 6 [] root
theorem SV.sG{s:SV}{rc:Int}{k:Nat}{l:List Int}:s.iI rc (k+1) l (-1)=(l,0):=by
 unfold SV.iI;rw[if_pos rfl]
theorem SV.vF{s:SV}{rc:Int}{k:Nat}{l:List Int}{n:Int}(hn:n ≠ -1)(h:s.file n=none):s.iI rc (k+1) l n=([],4):=by
 unfold SV.iI;rw[if_neg hn,h]
theorem SV.vw{s:SV}{rc:Int}{k:Nat}{l:List Int}{n:Int}{v:IV}(hn:n ≠ -1)(h:s.file n=some v)(hl:l.length=5):s.iI rc (k+1) l n=([],10):=by
 unfold SV.iI;rw[if_neg hn,h];simp only;rw[if_pos hl]
theorem SV.walk_other{s:SV}{rc:Int}{k:Nat}{l:List Int}{n:Int}{v:IV}(hn:n ≠ -1)(h:s.file n=some v)(hl:l.length≠5)(hc:v.h.c≠rc):s.iI rc (k+1) l n=([],2):=by
 unfold SV.iI;rw[if_neg hn,h];simp only;rw[if_neg hl,if_neg hc]
theorem SV.sJ{s:SV}{rc:Int}{k:Nat}{l:List Int}{n:Int}{v:IV}(hn:n ≠ -1)(h:s.file n=some v)(hl:l.length≠5)(hc:v.h.c=rc):s.iI rc (k+1) l n=s.iI rc k (l++[n]) v.h.b:=by
 rw[SV.iI,if_neg hn,h];simp only;rw[if_neg hl,if_pos hc]
def SV.good(s:SV)(C:Int)(l:List Int):Prop:=∀ n∈l,∃ v,s.file n=some v∧v.h.c=C
theorem SV.TI{s:SV}{rc:Int}:∀(k:Nat) (l:List Int) (n:Int),s.good rc l→l.length≤5→s.good rc (s.iI rc k l n).1∧(s.iI rc k l n).1.length≤5∧0≤(s.iI rc k l n).2∧(s.iI rc k l n).2≤10:=by
 intro k
 induction k with
 | zero=>intro l n _ _;exact⟨(fun _ h=>by cases h),Nat.zero_le _,(by simp[SV.iI]),(by simp[SV.iI])⟩
 | succ k ih =>
  intro l n hg hl;by_cases hn:n = -1
  ·subst hn;rw[SV.sG];exact⟨hg,hl,(by simp),(by simp)⟩
  ·cases hf:s.file n with
   | none=>rw[SV.vF hn hf];exact⟨(fun _ h=>by cases h),Nat.zero_le _,(by simp),(by simp)⟩
   | some v =>
    by_cases h5:l.length=5
    ·rw[SV.vw hn hf h5];exact⟨(fun _ h=>by cases h),Nat.zero_le _,(by simp),(by simp)⟩
    ·by_cases hc:v.h.c=rc
     ·rw[SV.sJ hn hf h5 hc]
      refine ih _ _ (fun x hx=>?_) (by rw[List.length_append];simp;omega)
      rcases List.mem_append.1 hx with hx|hx
      ·exact hg x hx
      ·simp only[List.mem_singleton] at hx
       exact⟨v,by rw[hx];exact hf,hc⟩
     ·rw[SV.walk_other hn hf h5 hc];exact⟨(fun _ h=>by cases h),Nat.zero_le _,(by simp),(by simp)⟩
theorem SV.walk_good(s:SV)(root:Int):s.good (s.fQ root) (s.walk root).1∧(s.walk root).1.length≤5∧0≤(s.walk root).2∧(s.walk root).2≤10 :=
 SV.TI 6 [] root (fun _ h=>by cases h) (Nat.zero_le _)
def iF(o:Option IV)(c:Int):Int:=match o with
 | none=>0
 | some v=>(v.bH c).1
def SV.fC(s:SV)(c:Int):List Int→Nat→Int
 | [],_ => -1
 | n::r,k=>if iF (s.file n) c=0 then s.fC c r (k+1) else (k:Int)
def SV.found(s:SV)(l:List Int)(c:Int):Int:=s.fC c l 0
def SV.seenAt(s:SV)(c:Int):List Int→Option IV
 | []=>none
 | n::r=>if iF (s.file n) c=0 then s.seenAt c r else s.file n
theorem SV.rF(s:SV)(c:Int):∀(l:List Int) (k:Nat),(s.fC c l k = -1∧s.seenAt c l=none) ∨
  ∃(j:Nat) (n:Int) (v:IV),j<l.length∧s.fC c l k=((k+j:Nat):Int)∧l.getD j 0=n∧n∈l∧s.file n=some v∧(v.bH c).1≠0∧s.seenAt c l=some v:=by
 intro l
 induction l with
 | nil=>intro k;exact .inl ⟨rfl,rfl⟩
 | cons n r ih =>
  intro k;unfold SV.fC SV.seenAt;by_cases h:iF (s.file n) c=0
  ·rw[if_pos h,if_pos h]
   rcases ih (k+1) with⟨h1,h2⟩|⟨j,x,v,h1,h2,h3,h4,h5,h6,h7⟩
   ·exact .inl ⟨h1,h2⟩
   ·exact .inr ⟨j+1,x,v,by simp;omega,by rw[h2];congr 1;omega,by simpa using h3,List.mem_cons_of_mem _ h4,h5,h6,h7⟩
  ·rw[if_neg h,if_neg h]
   cases hf:s.file n with
   | none=>rw[hf] at h;exact absurd rfl h
   | some v=>exact .inr ⟨0,n,v,by simp,rfl,rfl,List.mem_cons_self,hf,by rw[hf] at h;exact h,rfl⟩
def SV.fV(s:SV):List Int→Int
 | []=>0
 | n::_=>s.fQ n
def SV.read(s:SV)(l:List Int)(c:Int):ByteArray × Int :=
 if l=[] then (bytesOf [],4) else if 0≤c∧c<s.fV l then (match s.seenAt c l with
  | none=>(bytesOf sO,0)
  | some v=>(bytesOf (v.jm c),v.kU c)) else (bytesOf [],1)
theorem SV.good.fV{s:SV}{C:Int}{l:List Int}(h:s.good C l)(h0:l≠[]):s.fV l=C:=by
 cases l with
 | nil=>exact absurd rfl h0
 | cons n r =>
  obtain⟨v,h1,h2⟩:=h n List.mem_cons_self;show s.fQ n=C
  unfold SV.fQ;rw[h1];exact h2
theorem IV.CQ{v:IV}{c:Int}(h:(v.bH c).1≠0):v.there c=true∧(v.ent c).1≠0:=by
 unfold IV.bH at h
 cases hc:v.there c with
 | true=>rw[hc,if_pos rfl] at h;exact⟨rfl,h⟩
 | false=>rw[hc] at h;exact absurd rfl h
theorem Pz{d:DV}{a n m:Nat}(hd:d.fine n m)(ha:a+4≤n):∀ k,k≤4→(lH d a k).length=16*k:=by
 intro k
 induction k with
 | zero=>intro _;rfl
 | succ k ih =>
  intro hk;have hs:=hd.ok.same;have hl:=hd.len;have hx:a+k<d.seen.length:=by omega
  have:(d.seen.getD (a+k) []).length=16:=by rw[List.getD_eq_getElem?_getD,List.getElem?_eq_getElem hx];exact hd.ok.l2 _ (List.getElem_mem hx)
  show(lH d a k++d.seen.getD (a+k) []).length=_
  rw[List.length_append,ih (by omega),this];omega
theorem IV.Qp{v:IV}{m:Nat}{c:Int}(hok:v.ok m)(h:(v.bH c).1≠0):v.kU c=0∧(v.jm c).length=64:=by
 obtain⟨h1,h2⟩:=IV.CQ h;unfold IV.kU IV.jm;rw[if_pos h1,if_pos h1,if_neg h2];refine⟨rfl,?_⟩;by_cases h3:(v.ent c).1=2
 ·rw[if_pos h3]
  obtain⟨p0,p1,p2⟩:=hok.place h1 h3;exact Pz hok.d p2 4 (Nat.le_refl _)
 ·rw[if_neg h3]
  rcases iK (hok.ent h1) with h4|h4
  ·exact absurd h4.1 h3
  ·rcases h4.1 with h5|h5
   ·exact absurd h5 h2
   ·rw[if_pos h5];decide
theorem SV.kF{s:SV}{C:Int}{l:List Int}{m:Nat}(hg:s.good C l)(hok:s.ok m)(h0:l≠[]){c:Int}(hc:0≤c∧c<C):(s.read l c).2=0∧(s.read l c).1.size=64:=by
 unfold SV.read;rw[if_neg h0,hg.fV h0,if_pos hc];rcases SV.rF s c l 0 with⟨_,h2⟩|⟨j,n,v,_,_,_,_,h5,h6,h7⟩
 ·rw[h2];exact⟨rfl,rfl⟩
 ·rw[h7]
  obtain⟨_,_,h8⟩:=SV.dJ h5;obtain⟨r1,r2⟩:=IV.Qp (hok _ _ h8) h6;refine⟨r1,?_⟩;show(v.jm c).toArray.size=64
  simpa using r2
structure Pt where
 c:Nat
 f:Nat
 n:Nat
 a:Nat
def eG(fr n a:Nat):Pt:=⟨(fr+a) / 4,(fr+a) % 4,min (4-(fr+a) % 4) (n-a),a⟩
theorem oJ{fr n a:Nat}(h:a<n):1≤(eG fr n a).n∧(eG fr n a).f+(eG fr n a).n≤4∧a+(eG fr n a).n≤n:=by
 unfold eG;simp only
 omega
def aO(fr n a:Nat):List Pt:=if _h:a<n then eG fr n a::aO fr n (a+(eG fr n a).n) else []
termination_by n-a
decreasing_by
 have:=oJ (fr:=fr) _h
 omega
theorem oM{fr n a:Nat}(h:a<n):aO fr n a=eG fr n a::aO fr n (a+(eG fr n a).n):=by
 rw[aO,dif_pos h]
theorem mM{fr n a:Nat}(h:¬a<n):aO fr n a=[]:=by
 rw[aO,dif_neg h]
theorem nV(fr n:Nat):∀(k a:Nat),n-a≤k→(aO fr n a).length≤n-a:=by
 intro k
 induction k with
 | zero=>intro a h;rw[mM (by omega)];exact Nat.zero_le _
 | succ k ih =>
  intro a h;by_cases ha:a<n
  ·rw[oM ha]
   have h1:=oJ (fr:=fr) ha;have:=ih (a+(eG fr n a).n) (by omega)
   simp only[List.length_cons];omega
  ·rw[mM ha];exact Nat.zero_le _
structure Pt.fits(p:Pt)(fr n C:Nat):Prop where
 n1:1≤p.n
 n4:p.f+p.n≤4
 an:p.a+p.n≤n
 c:p.c<C
 at_:p.c*4+p.f=fr+p.a
theorem wW{fr n a C:Nat}(h:a<n)(hC:fr+n≤4*C):(eG fr n a).fits fr n C:=by
 have h1:=oJ (fr:=fr) h;refine⟨h1.1,h1.2.1,h1.2.2,?_,?_⟩
 ·show(fr+a) / 4<C
  omega
 ·show(fr+a) / 4*4+(fr+a) % 4=fr+a
  omega
theorem uG{fr n C:Nat}(hC:fr+n≤4*C):∀(k a:Nat),n-a≤k→∀ p∈aO fr n a,p.fits fr n C:=by
 intro k
 induction k with
 | zero=>intro a h p hp;rw[mM (by omega)] at hp;cases hp
 | succ k ih =>
  intro a h p hp;by_cases ha:a<n
  ·rw[oM ha] at hp
   have h1:=oJ (fr:=fr) ha;rcases List.mem_cons.1 hp with hp|hp
   ·rw[hp];exact wW ha hC
   ·exact ih _ (by omega) p hp
  ·rw[mM ha] at hp;cases hp
def dR(t:ByteArray)(f n:Nat):ByteArray:=t.extract (f*16) ((f+n)*16)
def eH(n:Nat):ByteArray:=bytesOf (List.replicate n 0)
theorem qj{t:ByteArray}{f n:Nat}(h:(f+n)*16≤t.size):(dR t f n).size=n*16:=by
 unfold dR;rw[ByteArray.size_extract];omega
def SV.bP(s:SV)(l:List Int)(fr n:Int):Int:=if l=[] then 4 else if fr<0∨n<0∨4*s.fV l-fr<n then 1 else 0
theorem SV.jr{s:SV}{C:Int}{l:List Int}(hg:s.good C l){fr n:Int}(h:s.bP l fr n=0):l≠[]∧0≤fr∧0≤n∧fr+n≤4*C:=by
 unfold SV.bP at h;split at h
 ·cases h
 ·next h0 =>
  split at h
  ·cases h
  ·next h1=>rw[hg.fV h0] at h1;exact⟨h0,by omega,by omega,by omega⟩
def SV.lay(s:SV)(l:List Int)(c f:Nat)(t:ByteArray):SV × Int:=match l with
 | []=>(s,4)
 | n::_=>match s.file n with
  | none=>(s,4)
  | some v=>if (v.bH c).1=2 then (s.upd n.toNat (v.write c f t),v.dB c f t) else
   (s.upd n.toNat (v.fill c ((s.read l c).1.extract 0 (f*16)++t++(s.read l c).1.extract (f*16+t.size) 64)),v.dL c ((s.read l c).1.extract 0 (f*16)++t++(s.read l c).1.extract (f*16+t.size) 64))
def SV.iM(l:List Int)(t:ByteArray)(s:SV)(p:Pt):SV × Int:=s.lay l p.c p.f (dR t p.a p.n)
def SV.bK(l:List Int)(s:SV)(p:Pt):SV × Int:=match l with
 | []=>(s,4)
 | n::_=>match s.file n with
  | none=>(s,4)
  | some v=>if p.n=4 then (s.upd n.toNat (v.clear p.c),v.dU p.c) else if (v.bH p.c).1=1 then (s,0) else s.lay l p.c p.f (eH (p.n*16))
def dY(op:SV→Pt→SV × Int):SV→List Pt→SV × Int
 | s,[]=>(s,0)
 | s,p::r=>if (op s p).2=0 then dY op (op s p).1 r else op s p
def SV.put(s:SV)(l:List Int)(fr:Int)(t:ByteArray):SV × Int :=
 if t.size % 16=0 then (if s.bP l fr ((t.size / 16:Nat):Int)=0 then dY (SV.iM l t) s (aO fr.toNat (t.size / 16) 0) else (s,s.bP l fr ((t.size / 16:Nat):Int))) else (s,1)
def SV.wipe(s:SV)(l:List Int)(fr n:Int):SV × Int :=
 if s.bP l fr n=0 then dY (SV.bK l) s (aO fr.toNat n.toNat 0) else (s,s.bP l fr n)
def SV.move(s:SV)(n c:Int)(t:ByteArray):SV × Int:=match s.file n with
 | none=>(s,4)
 | some v=>if t=eH 64 then (s.upd n.toNat (v.clear c),v.dU c) else if (v.bH c).1=2 then (s.upd n.toNat (v.write c 0 t),v.dB c 0 t) else (s.upd n.toNat (v.fill c t),v.dL c t)
def SV.jR(s:SV)(l:List Int)(fr:Nat):Nat→ByteArray
 | 0=>bytesOf []
 | k+1=>s.jR l fr k++dR (s.read l (((fr+k) / 4:Nat):Int)).1 ((fr+k) % 4) 1
def SV.jY(s:SV)(l:List Int)(fr n:Int):ByteArray:=if s.bP l fr n=0 then s.jR l fr.toNat n.toNat else bytesOf []
theorem SV.good.upd{s:SV}{C:Int}{l:List Int}(hg:s.good C l){n:Int}{v u:IV}(hf:s.file n=some v)(hu:u.h=v.h):(s.upd n.toNat u).good C l:=fun k hk=>by
 obtain⟨v',h1,h2⟩:=hg k hk;rw[SV.fM hf];by_cases e:k=n
 ·rw[if_pos e]
  rw[e,hf] at h1;cases h1
  exact⟨u,rfl,by rw[hu];exact h2⟩
 ·rw[if_neg e];exact⟨v',h1,h2⟩
theorem SV.good.lay{s:SV}{C:Int}{l:List Int}(hg:s.good C l)(l':List Int)(c f:Nat)(t:ByteArray):(s.lay l' c f t).1.good C l:=by
 unfold SV.lay;split
 ·exact hg
 ·split
  ·exact hg
  ·next v hf =>
   split
   ·exact hg.upd hf (IV.yx _ _ _ _)
   ·exact hg.upd hf (IV.wK _ _ _)
theorem SV.good.iM{s:SV}{C:Int}{l:List Int}(hg:s.good C l)(l':List Int)(t:ByteArray)(p:Pt):(SV.iM l' t s p).1.good C l:=hg.lay _ _ _ _
theorem SV.good.bK{s:SV}{C:Int}{l:List Int}(hg:s.good C l)(l':List Int)(p:Pt):(SV.bK l' s p).1.good C l:=by
 unfold SV.bK;split
 ·exact hg
 ·split
  ·exact hg
  ·next v hf =>
   split
   ·exact hg.upd hf (IV.rC _ _)
   ·split
    ·exact hg
    ·exact hg.lay _ _ _ _
theorem nP{op:SV→Pt→SV × Int}{s:SV}{p:Pt}{r:List Pt}:dY op s (p::r)=if (op s p).2=0 then dY op (op s p).1 r else op s p:=rfl
theorem CJ{P:List Pt}{i:Nat}(h:i<P.length):P.drop i=P[i]::P.drop (i+1):=List.drop_eq_getElem_cons h
theorem KE(t:ByteArray)(a b c:Nat)(h1:a≤b)(h2:b≤c):t.extract a b++t.extract b c=t.extract a c:=by
 apply ByteArray.ext
 rw[ByteArray.data_append,ByteArray.data_extract,ByteArray.data_extract,ByteArray.data_extract];apply Array.ext'
 rw[Array.toList_append,Array.toList_extract,Array.toList_extract,Array.toList_extract,List.extract_eq_take_drop,List.extract_eq_take_drop,List.extract_eq_take_drop];rw[show c-a=(b-a)+(c-b) by omega,List.take_add,List.drop_drop,show a+(b-a)=b by omega]
theorem QW(t:ByteArray)(f n:Nat):dR t f n++dR t (f+n) 1=dR t f (n+1):=by
 unfold dR;rw[KE t _ _ _ (by omega) (by omega)];rfl
theorem QV(t:ByteArray)(f:Nat):dR t f 0=bytesOf []:=by
 unfold dR;apply ByteArray.ext
 rw[ByteArray.data_extract];apply Array.ext'
 rw[Array.toList_extract,List.extract_eq_take_drop,show(f+0)*16-f*16=0 by omega]
 rfl
theorem Ij(t:ByteArray):t++bytesOf []=t:=by
 apply ByteArray.ext
 rw[ByteArray.data_append];apply Array.ext'
 simp[bytesOf]
theorem Ik(a b c:ByteArray):a++b++c=a++(b++c):=by
 apply ByteArray.ext
 rw[ByteArray.data_append,ByteArray.data_append,ByteArray.data_append,ByteArray.data_append];exact Array.append_assoc
theorem SV.L9{s:SV}{C:Nat}{l:List Int}{fr n:Nat}{p:Pt}(hp:p.fits fr n C):∀ j,j≤p.n→s.jR l fr (p.a+j)=s.jR l fr p.a++dR (s.read l (p.c:Int)).1 p.f j:=by
 intro j;have hat:=hp.at_;have h4:=hp.n4
 induction j with
 | zero=>intro _;rw[QV,Ij];rfl
 | succ j ih =>
  intro hj;show s.jR l fr (p.a+j)++dR (s.read l (((fr+(p.a+j)) / 4:Nat):Int)).1 ((fr+(p.a+j)) % 4) 1=_
  have e1:(fr+(p.a+j)) / 4=p.c:=by omega
  have e2:(fr+(p.a+j)) % 4=p.f+j:=by omega
  rw[ih (by omega),e1,e2,Ik,QW]
theorem SV.zk{s:SV}{C:Nat}{l:List Int}{m fr:Nat}(hg:s.good (C:Int) l)(hok:s.ok m)(h0:l≠[]):∀ k,fr+k≤4*C→(s.jR l fr k).size=k*16:=by
 intro k
 induction k with
 | zero=>intro _;rfl
 | succ k ih =>
  intro hk;show(s.jR l fr k++dR _ _ 1).size=_
  obtain⟨_,r2⟩:=SV.kF hg hok h0 (c:=(((fr+k) / 4:Nat):Int)) ⟨by omega,by omega⟩
  rw[ByteArray.size_append,ih (by omega),qj (by omega)];omega
theorem PE(fr n:Nat):∀(k a:Nat),n-a≤k→∀ i (h:i<(aO fr n a).length),a≤(aO fr n a)[i].a∧(∀ j (hj:j<(aO fr n a).length),j=i+1→(aO fr n a)[j].a=(aO fr n a)[i].a+(aO fr n a)[i].n)∧(i+1=(aO fr n a).length→(aO fr n a)[i].a+(aO fr n a)[i].n=n)∧(i=0→(aO fr n a)[i].a=a):=by
 intro k
 induction k with
 | zero=>intro a h i hi;have:=nV fr n 0 a h;omega
 | succ k ih =>
  intro a h i hi;by_cases ha:a<n
  ·have h1:=oJ (fr:=fr) ha
   have hc:=oM (fr:=fr) ha;have ih2:=ih (a+(eG fr n a).n) (by omega)
   generalize aO fr n a=P at hi hc ⊢;subst hc
   cases i with
   | zero =>
    refine⟨Nat.le_refl _,fun j hj e=>?_,fun e=>?_,fun _=>rfl⟩
    ·subst e
     have hj':0<(aO fr n (a+(eG fr n a).n)).length:=by simpa using hj
     exact(ih2 0 hj').2.2.2 rfl
    ·show a+(eG fr n a).n=n
     simp only[List.length_cons] at e;by_cases hx:a+(eG fr n a).n<n
     ·rw[oM hx] at e;simp at e
     ·omega
   | succ i =>
    have hi':i<(aO fr n (a+(eG fr n a).n)).length:=by simpa using hi
    obtain⟨q1,q2,q3,q4⟩:=ih2 i hi';refine⟨by show a≤(aO fr n (a+(eG fr n a).n))[i].a;omega,fun j hj e=>?_,fun e=>?_,fun e=>by cases e⟩
    ·subst e
     have hj':i+1<(aO fr n (a+(eG fr n a).n)).length:=by simpa using hj
     exact q2 (i+1) hj' rfl
    ·exact q3 (by simpa using e)
  ·have:=mM (fr:=fr) ha
   rw[this] at hi;cases hi
end Go.Proofs.YtonhoahnieoebabGreatDoor
namespace Go.Proofs.YtonhoahnieoebabGreatDoor.S4
open Go.RowKit Go.ChangeShapes Go.WideShapes
structure Kept(S:Nat→Prop)(w w':World):Prop where
 os:w'.os=w.os
 tape:w'.tape=w.tape
 output:w'.output=w.output
 size:w.heap.size≤w'.heap.size
 block:∀ k,k<w.heap.size→¬S k→w'.heap[k]?=w.heap[k]?
theorem Kept.refl(S:Nat→Prop)(w:World):Kept S w w:=⟨rfl,rfl,rfl,Nat.le_refl _,fun _ _ _=>rfl⟩
theorem Kept.trans{S:Nat→Prop}{a b c:World}(h:Kept S a b)(k:Kept S b c):Kept S a c :=
 ⟨k.os.trans h.os,k.tape.trans h.tape,k.output.trans h.output,Nat.le_trans h.size k.size,fun i hi hs=>(k.block i (Nat.lt_of_lt_of_le hi h.size) hs).trans (h.block i hi hs)⟩
theorem Kept.mono{S T:Nat→Prop}{a b:World}(h:Kept S a b)(hs:∀ k,k<a.heap.size→S k→T k):Kept T a b :=
 ⟨h.os,h.tape,h.output,h.size,fun i hi ht=>h.block i hi fun s=>ht (hs i hi s)⟩
theorem Kept.drew{S:Nat→Prop}{a w:World}(h:Kept S a w):Kept S a w.drew:=⟨h.os,h.tape,h.output,h.size,h.block⟩
theorem Kept.setCell{S:Nat→Prop}{a w:World}(h:Kept S a w){p:Addr}(hp:S p.block∨a.heap.size≤p.block)(u:Value):Kept S a (w.setCell p u) :=
 ⟨h.os,h.tape,h.output,by simpa [World.setCell] using h.size,fun k hk hs=>(heap_setCell_other w p k u (fun e=>by rcases hp with hp|hp;exact hs (e▸hp);omega)).trans (h.block k hk hs)⟩
theorem Kept.below{S:Nat→Prop}{a w:World}{B:Nat}(h:Kept S a w)(hB:B≤a.heap.size)(hs:∀ k,S k→B≤k):Below B a w :=
 ⟨h.os,h.tape,h.output,h.size,fun k hk=>h.block k (Nat.lt_of_lt_of_le hk hB) fun s=>by have:=hs k s;omega⟩
theorem ah{p:Prop}(h:p):Hid p:=h
def Bools(w:World)(ka:Option Addr)(kl:Nat)(ks:List Bool):Prop :=
 ks.length=kl∧∀ j,j<kl→∃ b off,ka=some ⟨b,off,none⟩∧w.cell? ⟨b,off+j,none⟩=some (.bool (ks.getD j false))
theorem lt_of_some{w:World}{k:Nat}{o:Obj}(h:w.heap[k]?=some o):k<w.heap.size:=by
 rcases Nat.lt_or_ge k w.heap.size with h'|h'
 ·exact h'
 ·rw[Array.getElem?_eq_none h'] at h;cases h
structure aN where
 kind:ByteArray
 a:Int
 b:Int
 c:Int
 d:Int
 s:ByteArray
 ka:Option Addr
 kl:Nat
 kc:Nat
 ks:List Bool
def aN.none_:aN:=⟨⟨#[]⟩,0,0,0,0,⟨#[]⟩,none,0,0,[]⟩
def aN.cells(x:aN):List Value:=[.string x.kind,.int .i64 x.a,.int .i64 x.b,.int .i64 x.c,.int .i64 x.d,.string x.s,.slice x.ka x.kl x.kc]
structure qU(w:World)(x:aN):Prop where
 k1:x.kind.size≤maxLen
 s1:x.s.size≤maxLen
 a1 : -9223372036854775808≤x.a∧x.a≤9223372036854775807
 kl1:x.kl≤maxLen
 keep:Bools w x.ka x.kl x.ks
 kn:x.ka=none→x.kc=0
def lZ(w:World)(la:Option Addr)(len:Nat)(xs:List aN):Prop :=
 xs.length=len∧∀ k,k<len→∃ b off,la=some ⟨b,off,none⟩∧w.rangeAt b (off+k*7) (xs.getD k aN.none_).cells∧qU w (xs.getD k aN.none_)
section
variable {H:Type} {enc:TypeId × Value→H}
end
def lU(xs:List aN)(most:Nat):Bool:=decide (xs.length≤most∧∀ k,k<xs.length→(xs.getD k aN.none_).s.size≤700∧(xs.getD k aN.none_).kl≤300)
theorem nD{a b:Bool}(h:a=b):Ending.returned (.bool a)=.returned (.bool b):=by rw[h]
end Go.Proofs.YtonhoahnieoebabGreatDoor.S4
namespace Go.Proofs.YtonhoahnieoebabGreatDoor.S4
def cnt(x:Nat):Nat→Nat
 | 0=>0
 | k+1=>cnt x k+if x.testBit k then 1 else 0
theorem cnt_le(x n:Nat):cnt x n≤n:=by
 induction n with
 | zero=>exact Nat.le_refl _
 | succ n ih=>show cnt x n+_≤_;split<;>omega
theorem Jb(x a b:Nat):cnt x (a+b)=cnt x a+cnt (x / 2 ^ a) b:=by
 induction b with
 | zero=>rfl
 | succ b ih =>
  show cnt x (a+b)+(if x.testBit (a+b) then 1 else 0)=cnt x a+(cnt (x / 2 ^ a) b+if (x / 2 ^ a).testBit b then 1 else 0)
  rw[ih,Nat.testBit_div_two_pow,Nat.add_comm b a];omega
theorem Jc(x a:Nat):cnt x a=cnt (x % 2 ^ a) a:=by
 have:∀ k,k≤a→cnt x k=cnt (x % 2 ^ a) k:=by
  intro k
  induction k with
  | zero=>intro _;rfl
  | succ k ih =>
   intro hk;show cnt x k+_=cnt (x % 2 ^ a) k+_
   rw[ih (by omega),Nat.testBit_mod_two_pow]
   simp[show k<a by omega]
 exact this a (Nat.le_refl _)
theorem and_split(a b A B:Nat)(ha:a<256)(hb:b<256):(a+256*A) &&& (b+256*B)=(a &&& b)+256*(A &&& B):=by
 have hab:a &&& b<2 ^ 8:=Nat.and_lt_two_pow _ hb;have h1:∀(x X:Nat),x+256*X=2 ^ 8*X+x:=fun x X=>by omega
 rw[h1,h1,h1];apply Nat.eq_of_testBit_eq
 intro i;rw[Nat.testBit_and,Nat.testBit_two_pow_mul_add _ ha,Nat.testBit_two_pow_mul_add _ hb,Nat.testBit_two_pow_mul_add _ hab];split
 ·rw[Nat.testBit_and]
 ·rw[Nat.testBit_and]
def g1(b:Nat):Nat:=(b / 2 &&& 85)+(b &&& 85)
def g2(b:Nat):Nat:=(b / 4 &&& 51)+(b &&& 51)
def g3(b:Nat):Nat:=(b / 16+b) &&& 15
def bytes(f:Nat→Nat):Nat→Nat→Nat
 | 0,_=>0
 | k+1,x=>f (x % 256)+256*bytes f k (x / 256)
def rep(c:Nat):Nat→Nat
 | 0=>0
 | k+1=>c+256*rep c k
theorem Dp:∀ b,b<256→g1 b<256:=by decide +kernel
theorem LV:∀ b,b<256→((b / 2+128) &&& 85)=(b / 2 &&& 85):=by decide +kernel
theorem Dq:∀ b,b<256→g2 (g1 b)<256:=by decide +kernel
theorem LX:∀ b,b<256→∀ c,c<4→((b / 4+64*c) &&& 51)=(b / 4 &&& 51):=by decide +kernel
theorem LZ:∀ b,b<256→g3 (g2 (g1 b))=cnt b 8:=by decide +kernel
theorem LY:∀ b,b<256→g2 (g1 b) % 16≤4∧g2 (g1 b) / 16≤4:=by decide +kernel
theorem lo4:∀ a,a≤4→∀ b,b≤4→∀ c,c≤4→((a+16*b) / 16+16*c+(a+16*b)) &&& 15=((a+16*b) / 16+(a+16*b)) &&& 15:=by decide +kernel
theorem step1(k:Nat):∀ x,x<256 ^ k→(x / 2 &&& rep 85 k)+(x &&& rep 85 k)=bytes g1 k x:=by
 induction k with
 | zero=>intro x hx;simp at hx;subst hx;rfl
 | succ k ih =>
  intro x hx;have hx':x / 256<256 ^ k:=by rw[Nat.pow_succ] at hx;omega
  have h:=ih (x / 256) hx';show(x / 2 &&& (85+256*rep 85 k))+(x &&& (85+256*rep 85 k))=g1 (x % 256)+256*bytes g1 k (x / 256)
  rw[← h];have e1:x / 2=(x % 256 / 2+128*(x / 256 % 2))+256*(x / 256 / 2):=by omega
  have e2:x &&& (85+256*rep 85 k)=(x % 256 &&& 85)+256*(x / 256 &&& rep 85 k):=by
   rw[← and_split (x % 256) 85 _ _ (by omega) (by omega)];congr 1;omega
  have e3:x / 2 &&& (85+256*rep 85 k)=(x % 256 / 2 &&& 85)+256*(x / 256 / 2 &&& rep 85 k):=by
   rw[e1,and_split _ 85 _ _ (by omega) (by omega)]
   congr 1
   rcases Nat.mod_two_eq_zero_or_one (x / 256) with q|q<;>rw[q]
   ·simp
   ·exact LV _ (by omega)
  rw[e2,e3];unfold g1;omega
theorem step2(k:Nat):∀ x,x<256 ^ k→(x / 4 &&& rep 51 k)+(x &&& rep 51 k)=bytes g2 k x:=by
 induction k with
 | zero=>intro x hx;simp at hx;subst hx;rfl
 | succ k ih =>
  intro x hx;have hx':x / 256<256 ^ k:=by rw[Nat.pow_succ] at hx;omega
  have h:=ih (x / 256) hx';show(x / 4 &&& (51+256*rep 51 k))+(x &&& (51+256*rep 51 k))=g2 (x % 256)+256*bytes g2 k (x / 256)
  rw[← h];have e1:x / 4=(x % 256 / 4+64*(x / 256 % 4))+256*(x / 256 / 4):=by omega
  have e2:x &&& (51+256*rep 51 k)=(x % 256 &&& 51)+256*(x / 256 &&& rep 51 k):=by
   rw[← and_split (x % 256) 51 _ _ (by omega) (by omega)];congr 1;omega
  have e3:x / 4 &&& (51+256*rep 51 k)=(x % 256 / 4 &&& 51)+256*(x / 256 / 4 &&& rep 51 k):=by
   rw[e1,and_split _ 51 _ _ (by omega) (by omega)]
   congr 1
   exact LX _ (by omega) _ (by omega)
  rw[e2,e3];unfold g2;omega
def low:Nat→Nat→Prop
 | 0,x=>x=0
 | k+1,x=>x % 256 % 16≤4∧x % 256 / 16≤4∧low k (x / 256)
theorem NU{k x:Nat}(h:low k x):x % 16≤4:=by
 cases k with
 | zero=>simp[show x=0 from h]
 | succ k=>have:=h.1;omega
theorem step3(k:Nat):∀ x,low k x→((x / 16+x) &&& rep 15 k)=bytes g3 k x:=by
 induction k with
 | zero=>intro x hx;rw[show x=0 from hx];rfl
 | succ k ih =>
  intro x hx;obtain⟨h1,h2,h3⟩:=hx;have h:=ih (x / 256) h3;have h4:=NU h3;show((x / 16+x) &&& (15+256*rep 15 k))=g3 (x % 256)+256*bytes g3 k (x / 256)
  rw[← h];have e1:x / 16+x=(x % 256 / 16+16*(x / 256 % 16)+x % 256)+256*(x / 256 / 16+x / 256):=by omega
  rw[e1,and_split _ 15 _ _ (by omega) (by omega)]
  congr 1
  unfold g3;have:=lo4 (x % 256 % 16) h1 (x % 256 / 16) h2 (x / 256 % 16) h4
  rw[show x % 256 % 16+16*(x % 256 / 16)=x % 256 by omega] at this
  exact this
theorem Bl(f:Nat→Nat)(k x:Nat)(hf:f (x % 256)<256):bytes f (k+1) x % 256=f (x % 256)∧bytes f (k+1) x / 256=bytes f k (x / 256):=by
 show(f (x % 256)+256*bytes f k (x / 256)) % 256=_∧(f (x % 256)+256*bytes f k (x / 256)) / 256=_
 omega
theorem IE(f:Nat→Nat)(hf:∀ b,b<256→f b<256)(k:Nat):∀ x,bytes f k x<256 ^ k:=by
 induction k with
 | zero=>intro x;exact Nat.one_pos
 | succ k ih =>
  intro x;have:=ih (x / 256)
  have:=hf (x % 256) (by omega)
  show f (x % 256)+256*bytes f k (x / 256)<256 ^ k*256
  omega
theorem Bq(f g:Nat→Nat)(hf:∀ b,b<256→f b<256)(k:Nat):∀ x,bytes g k (bytes f k x)=bytes (fun b=>g (f b)) k x:=by
 induction k with
 | zero=>intro x;rfl
 | succ k ih =>
  intro x;obtain⟨h1,h2⟩:=Bl f k x (hf _ (by omega))
  show g (bytes f (k+1) x % 256)+256*bytes g k (bytes f (k+1) x / 256)=g (f (x % 256))+256*bytes (fun b=>g (f b)) k (x / 256)
  rw[h1,h2,ih]
theorem NS(k:Nat):∀ x,low k (bytes (fun b=>g2 (g1 b)) k x):=by
 induction k with
 | zero=>intro x;rfl
 | succ k ih =>
  intro x;obtain⟨h1,h2⟩:=Bl (fun b=>g2 (g1 b)) k x (Dq _ (by omega))
  have:=LY (x % 256) (by omega)
  exact⟨by rw[h1];exact this.1,by rw[h1];exact this.2,by rw[h2];exact ih _⟩
theorem IC(f g:Nat→Nat)(h:∀ b,b<256→f b=g b)(k:Nat):∀ x,bytes f k x=bytes g k x:=by
 induction k with
 | zero=>intro x;rfl
 | succ k ih=>intro x;show f _+256*bytes f k _=g _+256*bytes g k _;rw[h _ (by omega),ih]
def sum(k:Nat)(x:Nat):Nat:=match k with
 | 0=>0
 | k+1=>cnt (x % 256) 8+sum k (x / 256)
theorem RY(k:Nat):∀ x,sum k x=cnt x (8*k):=by
 induction k with
 | zero=>intro x;rfl
 | succ k ih =>
  intro x;show cnt (x % 256) 8+sum k (x / 256)=_
  rw[show 8*(k+1)=8+8*k by omega,Jb,ih,Jc x 8]
def o1(x:Nat):Nat:=(x / 2 &&& 6148914691236517205)+(x &&& 6148914691236517205)
def o2(x:Nat):Nat:=(x / 4 &&& 3689348814741910323)+(x &&& 3689348814741910323)
def o3(x:Nat):Nat:=(x / 16+x) &&& 1085102592571150095
theorem zM(x:Nat)(hx:x<18446744073709551616):o1 x<18446744073709551616:=by
 have:rep 85 8=6148914691236517205:=by decide +kernel
 unfold o1;rw[← this,step1 8 x hx];exact IE g1 Dp 8 x
theorem OO(x:Nat)(hx:x<18446744073709551616):o1 x=bytes g1 8 x:=by
 have:rep 85 8=6148914691236517205:=by decide +kernel
 unfold o1;rw[← this,step1 8 x hx]
theorem Ew(x:Nat)(hx:x<18446744073709551616):o2 (o1 x)=bytes (fun b=>g2 (g1 b)) 8 x:=by
 have:rep 51 8=3689348814741910323:=by decide +kernel
 unfold o2;rw[← this,step2 8 _ (zM x hx),OO x hx,Bq g1 g2 Dp]
theorem OT(x:Nat)(hx:x<18446744073709551616):o3 (o2 (o1 x))=bytes (fun b=>cnt b 8) 8 x:=by
 have:rep 15 8=1085102592571150095:=by decide +kernel
 unfold o3;rw[← this,Ew x hx,step3 8 _ (NS 8 x),Bq _ g3 Dq];exact IC _ _ LZ 8 x
theorem IG(f:Nat→Nat)(c:Nat)(hf:∀ b,b<256→f b≤c)(k:Nat):∀ x,bytes f k x≤rep c k:=by
 induction k with
 | zero=>intro x;exact Nat.le_refl _
 | succ k ih =>
  intro x;have:=ih (x / 256)
  have:=hf (x % 256) (by omega)
  show f (x % 256)+256*bytes f k (x / 256)≤c+256*rep c k
  omega
theorem LW:∀ b,b<256→g2 (g1 b)≤68:=by decide +kernel
theorem OQ(x:Nat)(hx:x<18446744073709551616):o2 (o1 x)<4919131752989213765:=by
 have h:=IG (fun b=>g2 (g1 b)) 68 LW 8 x
 rw[← Ew x hx,show rep 68 8=4919131752989213764 by decide +kernel] at h
 omega
theorem JK(p Y:Nat)(h:p≤8):(p+256*Y) / 256=Y:=by omega
theorem JL(p0 p1 p2 Y2 Y3:Nat)(h0:p0≤8)(h1:p1≤8)(h2:p2≤8)(h3:Y2=p2+256*Y3) :
  (p0+256*(p1+256*Y2)+(p1+256*Y2)) / 65536=Y2+Y3:=by omega
theorem NT(q0 q1 q2 q3 S:Nat)(h0:q0≤32)(h1:q1≤32)(h2:q2≤32)(h3:q3≤32):(q0+256*q1+65536*q2+16777216*q3+4294967296*S) / 4294967296=S:=by omega
theorem JM(q S:Nat)(h:q≤64):(q+256*S) % 128=q:=by omega
theorem O0(p0 p1 p2 p3 p4 p5 p6 p7 Y1 Y2 Y3 Y4 Y5 Y6 y:Nat)(l0:p0≤8)(l1:p1≤8)(l2:p2≤8)(l3:p3≤8)(l4:p4≤8)(l5:p5≤8)(l6:p6≤8)(l7:p7≤8)
  (e6:Y6=p6+256*p7) (e5:Y5=p5+256*Y6) (e4:Y4=p4+256*Y5) (e3:Y3=p3+256*Y4) (e2:Y2=p2+256*Y3) (e1:Y1=p1+256*Y2) (e0:y=p0+256*Y1) :
  y≤578721382704613384∧y / 256=Y1∧Y1≤2260630401189896∧(y+Y1) / 65536=Y2+Y3∧Y2+Y3≤17661175009296∧(y+Y1+(Y2+Y3)) / 4294967296=Y4+Y5+Y6+p7∧Y4+Y5+Y6+p7≤1000000000 ∧
   (y+Y1+(Y2+Y3)+(Y4+Y5+Y6+p7)) % 128=p0+p1+p2+p3+p4+p5+p6+p7:=by
 have b6:Y6≤2056:=by omega
 have b5:Y5≤526344:=by clear e4 e3 e2 e1 e0;omega
 have b4:Y4≤134744072:=by clear e3 e2 e1 e0 e5 e6;omega
 have b3:Y3≤34494482440:=by clear e2 e1 e0 e4 e5 e6;omega
 have b2:Y2≤8830587504648:=by clear e1 e0 e3 e4 e5 e6;omega
 have b1:Y1≤2260630401189896:=by clear e0 e2 e3 e4 e5 e6;omega
 have b0:y≤578721382704613384:=by clear e1 e2 e3 e4 e5 e6;omega
 refine⟨b0,?_,b1,?_,?_,?_,?_,?_⟩
 ·rw[e0];exact JK _ _ l0
 ·have:=JL p0 p1 p2 Y2 Y3 l0 l1 l2 e2
  rw[← e1,← e0] at this;exact this
 ·clear e0 e1 e2 e3 e4 e5 e6;omega
 ·have key:y+Y1+(Y2+Y3)=(p0+p1+p2+p3)+256*(p1+p2+p3+p4)+65536*(p2+p3+p4+p5)+16777216*(p3+p4+p5+p6)+4294967296*(Y4+Y5+Y6+p7):=by
   clear l0 l1 l2 l3 l4 l5 l6 l7 b0 b1 b2 b3 b4 b5 b6;subst e0 e1 e2 e3 e4 e5 e6;simp only[Nat.mul_add,← Nat.mul_assoc,Nat.reduceMul];omega
  rw[key];exact NT _ _ _ _ _ (by clear key e0 e1 e2 e3 e4 e5 e6;omega) (by clear key e0 e1 e2 e3 e4 e5 e6;omega) (by clear key e0 e1 e2 e3 e4 e5 e6;omega) (by clear key e0 e1 e2 e3 e4 e5 e6;omega)
 ·clear e0 e1 e2 e3 e4 e5 e6;omega
 ·have key:y+Y1+(Y2+Y3)+(Y4+Y5+Y6+p7)=(p0+p1+p2+p3+p4+p5+p6+p7)+256*(Y1+Y2+Y3+Y4+Y5+Y6+p7):=by
   clear l0 l1 l2 l3 l4 l5 l6 l7 b0 b1 b2 b3 b4 b5 b6;omega
  rw[key];exact JM _ _ (by clear key e0 e1 e2 e3 e4 e5 e6;omega)
def o4(x:Nat):Nat:=x+x / 256
def o5(x:Nat):Nat:=x+x / 65536
def o6(x:Nat):Nat:=x+x / 4294967296
theorem OZ(x:Nat)(hx:x<18446744073709551616):o3 (o2 (o1 x))≤578721382704613384∧o4 (o3 (o2 (o1 x)))≤580982013105803280∧o5 (o4 (o3 (o2 (o1 x))))≤580999674280812576∧o6 (o5 (o4 (o3 (o2 (o1 x)))))≤580999675280812576∧o6 (o5 (o4 (o3 (o2 (o1 x))))) % 128=cnt x 64:=by
 rw[OT x hx,show(64:Nat)=8*8 by rfl,← RY]
 have l0:=cnt_le (x % 256) 8;have l1:=cnt_le (x / 256 % 256) 8;have l2:=cnt_le (x / 256 / 256 % 256) 8;have l3:=cnt_le (x / 256 / 256 / 256 % 256) 8;have l4:=cnt_le (x / 256 / 256 / 256 / 256 % 256) 8;have l5:=cnt_le (x / 256 / 256 / 256 / 256 / 256 % 256) 8;have l6:=cnt_le (x / 256 / 256 / 256 / 256 / 256 / 256 % 256) 8;have l7:=cnt_le (x / 256 / 256 / 256 / 256 / 256 / 256 / 256 % 256) 8;obtain⟨a0,a1,a2,a3,a4,a5,a6,a7⟩:=O0 _ _ _ _ _ _ _ _ _ _ _ _ _ _ _ l0 l1 l2 l3 l4 l5 l6 l7 rfl rfl rfl rfl rfl rfl rfl
 have e:bytes (fun b=>cnt b 8) 8 x=cnt (x % 256) 8+256*(cnt (x / 256 % 256) 8+256*(cnt (x / 256 / 256 % 256) 8+256*(cnt (x / 256 / 256 / 256 % 256) 8+256*(cnt (x / 256 / 256 / 256 / 256 % 256) 8+256*(cnt (x / 256 / 256 / 256 / 256 / 256 % 256) 8+256*(cnt (x / 256 / 256 / 256 / 256 / 256 / 256 % 256) 8+256*cnt (x / 256 / 256 / 256 / 256 / 256 / 256 / 256 % 256) 8)))))):=by
  simp only[bytes,Nat.mul_zero,Nat.add_zero]
 have e':sum 8 x=cnt (x % 256) 8+cnt (x / 256 % 256) 8+cnt (x / 256 / 256 % 256) 8+cnt (x / 256 / 256 / 256 % 256) 8+cnt (x / 256 / 256 / 256 / 256 % 256) 8+cnt (x / 256 / 256 / 256 / 256 / 256 % 256) 8+cnt (x / 256 / 256 / 256 / 256 / 256 / 256 % 256) 8+cnt (x / 256 / 256 / 256 / 256 / 256 / 256 / 256 % 256) 8:=by
  simp only[sum,Nat.add_assoc,Nat.add_zero]
 rw[← e] at a0 a1 a3 a5 a7;rw[← e'] at a7;generalize bytes (fun b=>cnt b 8) 8 x=y at a0 a1 a3 a5 a7 ⊢
 obtain⟨Y1,hY1⟩:∃ Y1,y / 256=Y1:=⟨_,rfl⟩;rw[← a1,hY1] at a2 a3 a5 a7;obtain⟨Y2,hY2⟩:∃ Y2,(y+Y1) / 65536=Y2:=⟨_,rfl⟩;rw[← a3,hY2] at a4 a5 a7;obtain⟨Y3,hY3⟩:∃ Y3,(y+Y1+Y2) / 4294967296=Y3:=⟨_,rfl⟩;rw[← a5,hY3] at a6 a7;have f4:o4 y=y+Y1:=by unfold o4;rw[hY1]
 have f5:o5 (o4 y)=y+Y1+Y2:=by rw[f4];unfold o5;rw[hY2]
 have f6:o6 (o5 (o4 y))=y+Y1+Y2+Y3:=by rw[f5];unfold o6;rw[hY3]
 refine⟨a0,?_,?_,?_,?_⟩
 ·rw[f4];exact Nat.le_trans (Nat.add_le_add a0 a2) (by decide)
 ·rw[f5];exact Nat.le_trans (Nat.add_le_add (Nat.add_le_add a0 a2) a4) (by decide)
 ·rw[f6];exact Nat.le_trans (Nat.add_le_add (Nat.add_le_add (Nat.add_le_add a0 a2) a4) a6) (by decide)
 ·rw[f6];exact a7
end Go.Proofs.YtonhoahnieoebabGreatDoor.S4
