/- What is seen through a chain behind a range of sectors that is put or wiped: well, it is as it should be; else each of its sectors is as it was, or as it should be (G3). -/
import Derived.Test.YtonhoahnieoebabGreatDoorQAViewLay
namespace Go.Proofs.YtonhoahnieoebabGreatDoor
open Go.RowKit
def fA(s:SV)(C m:Nat)(n:Int)(r:List Int):Prop:=∃ v U,Top s C m n r v∧Safe v U
theorem fA.of{s:SV}{C m:Nat}{n:Int}{r:List Int}{v:IV}{U:List (Int × Int)}(h1:s.ok m)(h2:s.good (C:Int) (n::r))(h3:s.file n=some v)(h4:n ∉ r)(h5:Safe v U):fA s C m n r :=
 ⟨v,U,⟨h1,h2,h3,h4,h5.sub.good h5.good⟩,h5⟩
theorem fA.more{s:SV}{C m m':Nat}{n:Int}{r:List Int}(h:fA s C m n r)(hm:m≤m'):fA s C m' n r:=by
 obtain⟨v,U,h1,h2⟩:=h;exact⟨v,U,⟨h1.ok.more hm,h1.good,h1.file,h1.apart,h1.tab⟩,h2⟩
theorem fA.lay{s:SV}{C m:Nat}{n:Int}{r:List Int}(h:fA s C m n r)(hm:m+10≤1000000000)(c f:Nat)(t:ByteArray):fA (s.lay (n::r) c f t).1 C (m+10) n r:=by
 obtain⟨v,U,h1,h2⟩:=h;have ho:=h1.ok.lay (n::r) c f t hm;have hg:=h1.good.lay (n::r) c f t
 have hs:∃ u U',(s.lay (n::r) c f t).1.file n=some u∧Safe u U':=by
  unfold SV.lay;simp only
  rw[h1.file];simp only
  split
  ·exact⟨_,_,by rw[SV.fM h1.file,if_pos rfl],h2.write h1.vok _ _ _⟩
  ·obtain⟨U',h3⟩:=h2.fill h1.vok hm (c:Int) ((s.read (n::r) c).1.extract 0 (f*16)++t++(s.read (n::r) c).1.extract (f*16+t.size) 64)
   exact⟨_,U',by rw[SV.fM h1.file,if_pos rfl],h3⟩
 obtain⟨u,U',e,hs⟩:=hs;exact .of ho hg e h1.apart hs
theorem fA.clear{s:SV}{C m:Nat}{n:Int}{r:List Int}{v:IV}{U:List (Int × Int)}(h1:Top s C m n r v)(h2:Safe v U)(hm:m+10≤1000000000)(c:Int):fA (s.upd n.toNat (v.clear c)) C (m+10) n r :=
 .of (h1.ok.upd (by omega) (h1.vok.clear c hm)) (h1.good.upd h1.file (IV.rC _ _)) (by rw[SV.fM h1.file,if_pos rfl]) h1.apart (h2.clear h1.vok c)
def SV.sec(s:SV)(l:List Int)(k:Nat):List UInt8:=s.view (k / 4) (k % 4) l
structure Laid(s z:SV)(C:Nat)(l:List Int)(a b:Nat)(x:Nat→List UInt8)(well:Prop):Prop where
 yes:well→∀ k,k<4*C→z.sec l k=if a≤k∧k<b then x k else s.sec l k
 any:∀ k,k<4*C→z.sec l k=s.sec l k∨(a≤k∧k<b)∧z.sec l k=x k
theorem BH{t:ByteArray}{a n i:Nat}(h:i<n)(_ht:(a+n)*16≤t.size):chunk (dR t a n) i=chunk t (a+i):=by
 rw[mX,mX];unfold dR;rw[ByteArray.data_extract,Array.toList_extract,List.extract_eq_take_drop,List.drop_take,List.drop_drop,List.take_take,show min 16 ((a+n)*16-a*16-i*16)=16 by omega,show a*16+i*16=(a+i)*16 by omega]
theorem EI{s:SV}{C m:Nat}{n:Int}{r:List Int}(h:fA s C m n r)(hm:m+10≤1000000000){fr N:Nat}{t:ByteArray}(ht:t.size=N*16){p:Pt}(hp:p.fits fr N C) :
  Laid s (SV.iM (n::r) t s p).1 C (n::r) (fr+p.a) (fr+p.a+p.n) (fun k=>chunk t (k-fr)) ((SV.iM (n::r) t s p).2=0):=by
 obtain⟨v,U,h1,_⟩:=h;have hat:=hp.at_;have han:=hp.an;have hz:(dR t p.a p.n).size=p.n*16:=qj (by rw[ht];omega)
 have key:∀ k,k<4*C→(inR p.c p.f p.n (k / 4) (k % 4)↔(fr+p.a≤k∧k<fr+p.a+p.n)):=fun k _=>by
  have h4:=hp.n4;unfold inR;omega
 have hch:∀ k,k<4*C→inR p.c p.f p.n (k / 4) (k % 4)→chunk (dR t p.a p.n) (k % 4-p.f)=chunk t (k-fr):=fun k hk hr=>by
  have h5:=(key k hk).1 hr;obtain⟨e1,e2,e3⟩:=hr;rw[BH (by omega) (by rw[ht];omega),show p.a+(k % 4-p.f)=k-fr by omega]
 refine⟨fun hw k hk=>?_,fun k hk=>?_⟩
 ·have:=(wU h1 hm hp.c hz hp.n4 (c2:=k / 4) (j:=k % 4) (by omega) (by omega)).1 hw
  show SV.view _ (k / 4) (k % 4) (n::r)=_
  unfold SV.iM;rw[this];by_cases hr:inR p.c p.f p.n (k / 4) (k % 4)
  ·rw[if_pos hr,if_pos ((key k hk).1 hr)];exact hch k hk hr
  ·rw[if_neg hr,if_neg (fun e=>hr ((key k hk).2 e))];rfl
 ·rcases(wU h1 hm hp.c hz hp.n4 (c2:=k / 4) (j:=k % 4) (by omega) (by omega)).2 with h5|⟨h5,h6⟩
  ·exact .inl h5
  ·exact .inr ⟨(key k hk).1 h5,h6.trans (hch k hk h5)⟩
theorem vU{n i:Nat}(h:i<n):chunk (eH (n*16)) i=noughts:=by
 rw[mX];show((List.replicate (n*16) (0:UInt8)).drop (i*16)).take 16=List.replicate 16 0
 rw[List.drop_replicate,List.take_replicate,show min 16 (n*16-i*16)=16 by omega]
theorem AP{s:SV}{C m:Nat}{n:Int}{r:List Int}(h:fA s C m n r)(hm:m+10≤1000000000){fr N:Nat}{p:Pt}(hp:p.fits fr N C) :
  Laid s (SV.bK (n::r) s p).1 C (n::r) (fr+p.a) (fr+p.a+p.n) (fun _=>noughts) ((SV.bK (n::r) s p).2=0)∧fA (SV.bK (n::r) s p).1 C (m+10) n r:=by
 have h0:=h;obtain⟨v,U,h1,h2⟩:=h;have hat:=hp.at_;have h4:=hp.n4;have hn1:=hp.n1
 have key:∀ k,k<4*C→(inR p.c p.f p.n (k / 4) (k % 4)↔(fr+p.a≤k∧k<fr+p.a+p.n)):=fun k _=>by
  unfold inR;omega
 have hW:SV.bK (n::r) s p=if p.n=4 then (s.upd n.toNat (v.clear p.c),v.dU p.c) else if (v.bH p.c).1=1 then (s,0) else s.lay (n::r) p.c p.f (eH (p.n*16)):=by
  unfold SV.bK;simp only
  rw[h1.file]
 rw[hW];split
 ·next e4 =>
  refine⟨⟨fun hw k hk=>?_,fun k hk=>?_⟩,.clear h1 h2 hm _⟩
  ·have:=(BL h1 (c:=p.c) (c2:=k / 4) (j:=k % 4) (by omega)).1 hw
   show SV.view _ (k / 4) (k % 4) (n::r)=_
   rw[this];by_cases e:p.c=k / 4
   ·rw[if_pos e,if_pos (by omega)]
   ·rw[if_neg e,if_neg (by omega)];rfl
  ·have hcv:=BL h1 (c:=p.c) (c2:=k / 4) (j:=k % 4) (by omega)
   show SV.view _ (k / 4) (k % 4) (n::r)=_∨_∧SV.view _ (k / 4) (k % 4) (n::r)=_
   by_cases hF:v.dU (p.c:Int)=0
   ·have:=hcv.1 hF
    by_cases e:p.c=k / 4
    ·rw[if_pos e] at this
     exact .inr ⟨by omega,this⟩
    ·rw[if_neg e] at this
     exact .inl this
   ·exact .inl (hcv.2 hF)
 ·split
  ·next e4 e1 =>
   refine⟨⟨fun _ k hk=>?_,fun k hk=>.inl rfl⟩,h0.more (by omega)⟩
   split
   ·next hr =>
    have hc:=((key k hk).2 hr).1;show s.view (k / 4) (k % 4) (n::r)=noughts
    rw[jW,hc] at e1;rw[jO h1.file,if_neg (by omega)]
    unfold IV.shE;rw[if_neg (by omega),if_pos e1]
   ·rfl
  ·have hz:(eH (p.n*16)).size=p.n*16:=by
    show(List.replicate (p.n*16) (0:UInt8)).toArray.size=_
    simp
   have hch:∀ k,k<4*C→inR p.c p.f p.n (k / 4) (k % 4)→chunk (eH (p.n*16)) (k % 4-p.f)=noughts:=fun k _ hr=>by
    obtain⟨e1,e2,e3⟩:=hr;exact vU (by omega)
   refine⟨⟨fun hw k hk=>?_,fun k hk=>?_⟩,h0.lay hm _ _ _⟩
   ·have:=(wU h1 hm hp.c hz hp.n4 (c2:=k / 4) (j:=k % 4) (by omega) (by omega)).1 hw
    show SV.view _ (k / 4) (k % 4) (n::r)=_
    rw[this];by_cases hr:inR p.c p.f p.n (k / 4) (k % 4)
    ·rw[if_pos hr,if_pos ((key k hk).1 hr)];exact hch k hk hr
    ·rw[if_neg hr,if_neg (fun e=>hr ((key k hk).2 e))];rfl
   ·rcases(wU h1 hm hp.c hz hp.n4 (c2:=k / 4) (j:=k % 4) (by omega) (by omega)).2 with h5|⟨h5,h6⟩
    ·exact .inl h5
    ·exact .inr ⟨(key k hk).1 h5,h6.trans (hch k hk h5)⟩
theorem Dt{op:SV→Pt→SV × Int}{C:Nat}{n:Int}{r:List Int}{fr N:Nat}{x:Nat→List UInt8}(hN:fr+N≤4*C)
  (hop:∀(s:SV) (m:Nat) (p:Pt),fA s C m n r→m+10≤1000000000→p.fits fr N C→Laid s (op s p).1 C (n::r) (fr+p.a) (fr+p.a+p.n) x ((op s p).2=0)∧fA (op s p).1 C (m+10) n r) :
  ∀(k a:Nat) (s:SV) (m:Nat),N-a≤k→fA s C m n r→m+10*k≤1000000000 →
   Laid s (dY op s (aO fr N a)).1 C (n::r) (fr+a) (fr+N) x ((dY op s (aO fr N a)).2=0)∧fA (dY op s (aO fr N a)).1 C (m+10*k) n r:=by
 intro k
 induction k with
 | zero =>
  intro a s m ha hs _;rw[mM (by omega)]
  refine⟨⟨fun _ i _=>?_,fun i _=>.inl rfl⟩,hs⟩
  rw[if_neg (by omega)];rfl
 | succ k ih =>
  intro a s m ha hs hm;by_cases h:a<N
  ·have h1:=oJ (fr:=fr) h
   have hf:=wW (C:=C) h hN;rw[oM h,nP];generalize ep:eG fr N a=p at h1 hf ⊢;have ea:p.a=a:=by rw[← ep];rfl
   obtain⟨l1,s1⟩:=hop s m p hs (by omega) hf
   rw[ea] at l1;by_cases hw:(op s p).2=0
   ·rw[if_pos hw]
    obtain⟨l2,s2⟩:=ih (a+p.n) (op s p).1 (m+10) (by omega) s1 (by omega)
    refine⟨⟨fun hw2 i hi=>?_,fun i hi=>?_⟩,by rw[show m+10*(k+1)=m+10+10*k by omega];exact s2⟩
    ·rw[l2.yes hw2 i hi,l1.yes hw i hi]
     by_cases c1:fr+(a+p.n)≤i∧i<fr+N
     ·rw[if_pos c1,if_pos (by omega)]
     ·rw[if_neg c1]
      by_cases c2:fr+a≤i∧i<fr+a+p.n
      ·rw[if_pos c2,if_pos (by omega)]
      ·rw[if_neg c2,if_neg (by omega)]
    ·rcases l2.any i hi with h2|⟨h2,h3⟩
     ·rcases l1.any i hi with h4|⟨h4,h5⟩
      ·exact .inl (h2.trans h4)
      ·exact .inr ⟨by omega,h2.trans h5⟩
     ·exact .inr ⟨by omega,h3⟩
   ·rw[if_neg hw]
    refine⟨⟨fun hw2=>absurd hw2 hw,fun i hi=>?_⟩,s1.more (by omega)⟩
    rcases l1.any i hi with h4|⟨h4,h5⟩
    ·exact .inl h4
    ·exact .inr ⟨by omega,h5⟩
  ·rw[mM h]
   refine⟨⟨fun _ i _=>?_,fun i _=>.inl rfl⟩,hs.more (by omega)⟩
   rw[if_neg (by omega)];rfl
theorem PN{s:SV}{C m:Nat}{n:Int}{r:List Int}(h:fA s C m n r){fr:Nat}{t:ByteArray}(ht:t.size % 16=0)(hf:s.bP (n::r) (fr:Int) ((t.size / 16:Nat):Int)=0)(hm:m+10*(t.size / 16)≤1000000000) :
  Laid s (s.put (n::r) (fr:Int) t).1 C (n::r) fr (fr+t.size / 16) (fun k=>chunk t (k-fr)) ((s.put (n::r) (fr:Int) t).2=0)∧fA (s.put (n::r) (fr:Int) t).1 C (m+10*(t.size / 16)) n r:=by
 have hg:s.good (C:Int) (n::r):=by obtain⟨v,U,h1,_⟩:=h;exact h1.good
 obtain⟨_,_,_,hr⟩:=SV.jr hg hf;unfold SV.put;rw[if_pos ht,if_pos hf,show((fr:Int)).toNat=fr by omega]
 have:=Dt (op:=SV.iM (n::r) t) (C:=C) (n:=n) (r:=r) (fr:=fr) (N:=t.size / 16) (x:=fun k=>chunk t (k-fr)) (by omega)
  (fun s m p hs hm hp=>⟨EI hs hm (by omega) hp,hs.lay hm _ _ _⟩) (t.size / 16) 0 s m (by omega) h hm
 exact this
theorem TS{s:SV}{C m:Nat}{n:Int}{r:List Int}(h:fA s C m n r){fr N:Nat}(hf:s.bP (n::r) (fr:Int) (N:Int)=0)(hm:m+10*N≤1000000000) :
  Laid s (s.wipe (n::r) (fr:Int) (N:Int)).1 C (n::r) fr (fr+N) (fun _=>noughts) ((s.wipe (n::r) (fr:Int) (N:Int)).2=0)∧fA (s.wipe (n::r) (fr:Int) (N:Int)).1 C (m+10*N) n r:=by
 have hg:s.good (C:Int) (n::r):=by obtain⟨v,U,h1,_⟩:=h;exact h1.good
 obtain⟨_,_,_,hr⟩:=SV.jr hg hf;unfold SV.wipe;rw[if_pos hf,show((fr:Int)).toNat=fr by omega,show((N:Int)).toNat=N by omega]
 have:=Dt (op:=SV.bK (n::r)) (C:=C) (n:=n) (r:=r) (fr:=fr) (N:=N) (x:=fun _=>noughts) (by omega)
  (fun s m p hs hm hp=>AP hs hm hp) N 0 s m (by omega) h hm
 exact this
def IV.mv(v:IV)(c:Int)(t:ByteArray):IV × Int:=if t=eH 64 then (v.clear c,v.dU c) else if (v.bH c).1=2 then (v.write c 0 t,v.dB c 0 t) else (v.fill c t,v.dL c t)
theorem qJ{s:SV}{n c:Int}{t:ByteArray}{v:IV}(h:s.file n=some v):s.move n c t=(s.upd n.toNat (v.mv c t).1,(v.mv c t).2):=by
 unfold SV.move IV.mv;rw[h];simp only
 split
 ·rfl
 ·split<;>rfl
theorem AU{v:IV}{c:Nat}{t:ByteArray}(hc:c<v.t.length)(ht:t.size=64):kK v (c:Int) ((0:Nat):Int) t=true:=by
 unfold kK;rw[Bool.and_eq_true];exact⟨decide_eq_true ⟨by omega,by omega⟩,decide_eq_true ⟨by omega,by omega,by omega,by omega⟩⟩
theorem zG{v:IV}{m:Nat}(hok:v.ok m)(hg:gI v.h v.t)(hm:m+10≤1000000000){c:Nat}(hc:c<v.t.length){t:ByteArray}(ht:t.size=64){c2 j:Nat}(hne:c≠c2)(hc2:c2<v.t.length)(hj:j<4) :
  ((v.mv (c:Int) t).1.t.getD c2 (0,0)).1=(v.t.getD c2 (0,0)).1∧(v.mv (c:Int) t).1.sh (4*c2+j)=v.sh (4*c2+j):=by
 unfold IV.mv;split
 ·by_cases hF:v.dU (c:Int)=0
  ·have h1:=(tK hF c2).1
   have h2:=vV hok hF (c2:=c2) hj;rw[if_neg hne] at h1 h2;exact⟨h1,h2⟩
  ·exact⟨by show((v.clear (c:Int)).t.getD c2 (0,0)).1=_;rw[tJ hF],tH hF _⟩
 ·split
  ·next h2 =>
   rw[jW] at h2;refine⟨by show((v.write (c:Int) 0 t).t.getD c2 (0,0)).1=_;rw[qx],?_⟩
   exact(vG hok hg hm (AU hc ht) h2 hc2 hj).1 (fun e=>hne e.1)
  ·by_cases hF:v.dL (c:Int) t=0
   ·obtain⟨_,q,hq⟩:=rE hF
    have h2:=wO hok hm hF hc2 hj;rw[if_neg hne] at h2;exact⟨by show((v.fill (c:Int) t).t.getD c2 (0,0)).1=_;rw[hq,lD _ hc,if_neg hne],h2⟩
   ·exact⟨by show((v.fill (c:Int) t).t.getD c2 (0,0)).1=_;rw[rD hF],wL hok hF hc2 hj⟩
theorem wX{v:IV}{m:Nat}(hok:v.ok m)(hg:gI v.h v.t)(hm:m+10≤1000000000){c:Nat}(hc:c<v.t.length){t:ByteArray}(ht:t.size=64)(hF:(v.mv (c:Int) t).2=0){j:Nat}(hj:j<4) :
  ((v.mv (c:Int) t).1.t.getD c (0,0)).1≠0∧(v.mv (c:Int) t).1.sh (4*c+j)=chunk t j:=by
 unfold IV.mv at hF ⊢;split
 ·next e =>
  rw[if_pos e] at hF;have h1:=(tK hF c).1;have h2:=vV hok hF (c2:=c) hj;rw[if_pos rfl] at h1 h2;refine⟨by show((v.clear (c:Int)).t.getD c (0,0)).1≠0;rw[h1];decide,?_⟩
  rw[e];exact h2.trans (vU (n:=4) hj).symm
 ·next e =>
  rw[if_neg e] at hF;split
  ·next h2 =>
   rw[if_pos h2] at hF;rw[jW] at h2;refine⟨by show((v.write (c:Int) 0 t).t.getD c (0,0)).1≠0;rw[qx];omega,?_⟩
   have:=((vG hok hg hm (AU hc ht) h2 hc hj).2 rfl (by omega) (by omega)).1 hF
   rw[Nat.sub_zero] at this;exact this
  ·next h2 =>
   rw[if_neg h2] at hF;obtain⟨_,q,hq⟩:=rE hF;have h3:=wO hok hm hF hc hj;rw[if_pos rfl] at h3;refine⟨?_,h3⟩;show((v.fill (c:Int) t).t.getD c (0,0)).1≠0
   rw[hq,lD _ hc,if_pos rfl];show(2:Int)≠0
   decide
theorem Eh{v:IV}{m:Nat}(hok:v.ok m){c:Nat}{t:ByteArray}(hF:(v.mv (c:Int) t).2≠0)(h0:(v.t.getD c (0,0)).1≠2){c2 j:Nat}(hc2:c2<v.t.length)(hj:j<4) :
  (v.mv (c:Int) t).1.t=v.t∧(v.mv (c:Int) t).1.sh (4*c2+j)=v.sh (4*c2+j):=by
 unfold IV.mv at hF ⊢;split
 ·next e =>
  rw[if_pos e] at hF;exact⟨tJ hF,tH hF _⟩
 ·next e =>
  rw[if_neg e] at hF;split
  ·next h2=>rw[jW] at h2;exact absurd h2 h0
  ·next h2 =>
   rw[if_neg h2] at hF;exact⟨rD hF,wL hok hF hc2 hj⟩
theorem sD{s z:SV}{c j:Nat}(hj:j<4):∀ {l:List Int},(∀ n∈l,∃ v u,s.file n=some v∧z.file n=some u∧(u.t.getD c (0,0)).1=(v.t.getD c (0,0)).1∧((v.t.getD c (0,0)).1≠0→u.sh (4*c+j)=v.sh (4*c+j)))→z.view c j l=s.view c j l:=by
 intro l
 induction l with
 | nil=>intro _;rfl
 | cons n r ih =>
  intro h;obtain⟨v,u,h1,h2,h3,h4⟩:=h n List.mem_cons_self;rw[jO h1,jO h2,h3,ih fun k hk=>h k (List.mem_cons_of_mem _ hk)]
  by_cases g:(v.t.getD c (0,0)).1=0
  ·rw[if_pos g,if_pos g]
  ·rw[if_neg g,if_neg g,← iy _ _ _ hj,← iy _ _ _ hj,h4 g]
theorem Ef{s:SV}{C m:Nat}{l:List Int}(hg:s.good (C:Int) l)(hok:s.ok m)(hm:m+10≤1000000000){f:Int}{v:IV}(hf:s.file f=some v)(hv:gI v.h v.t){c:Nat}(hc:c<v.t.length){t:ByteArray}(ht:t.size=64){c2 j:Nat}(hne:c≠c2)(hc2:c2<C)(hj:j<4) :
  (s.move f (c:Int) t).1.view c2 j l=s.view c2 j l:=by
 rw[qJ hf];refine sD hj fun n hn=>?_
 obtain⟨u,h1,h2⟩:=hg n hn;by_cases e:n=f
 ·subst e
  rw[hf] at h1;cases h1
  have hvo:=hok _ _ (SV.dJ hf).2.2;have hl:=hvo.len;obtain⟨k1,k2⟩:=zG hvo hv hm hc ht hne (by omega) hj
  exact⟨v,_,hf,by show(s.upd n.toNat _).file n=_;rw[SV.fM hf,if_pos rfl],k1,fun _=>k2⟩
 ·exact⟨u,u,h1,by show(s.upd f.toNat _).file n=_;rw[SV.fM hf,if_neg e];exact h1,rfl,fun _=>rfl⟩
theorem Ol{s:SV}{l:List Int}{f c:Int}{t:ByteArray}(hn:f ∉ l)(c2 j:Nat):(s.move f c t).1.view c2 j l=s.view c2 j l:=by
 cases hf:s.file f with
 | none=>unfold SV.move;rw[hf]
 | some v =>
  rw[qJ hf]
  exact sF fun n hm=>by
   show(s.upd f.toNat _).file n=_
   rw[SV.fM hf,if_neg (fun (e:n=f)=>hn (e▸hm))]
theorem TB{s z:SV}{c j:Nat}:∀ {p:List Int} (q:List Int),(∀ n∈p,z.file n=s.file n)→(∃ n∈p,∃ v,s.file n=some v∧(v.t.getD c (0,0)).1≠0)→z.view c j (p++q)=s.view c j (p++q):=by
 intro p
 induction p with
 | nil=>intro q _ h;obtain⟨n,hn,_⟩:=h;cases hn
 | cons n r ih =>
  intro q h ⟨k,hk,v,h1,h2⟩;rcases List.mem_cons.1 hk with e|e
  ·subst e
   show z.view c j (k::(r++q))=s.view c j (k::(r++q))
   rw[jO h1,jO ((h k List.mem_cons_self).trans h1),if_neg h2,if_neg h2]
  ·have:=ih q (fun x hx=>h x (List.mem_cons_of_mem _ hx)) ⟨k,e,v,h1,h2⟩
   show z.view c j (n::(r++q))=s.view c j (n::(r++q))
   unfold SV.view;rw[h n List.mem_cons_self]
   cases s.file n with
   | none=>exact this
   | some w=>simp only;rw[this]
theorem Oj{s:SV}{p q:List Int}{f c:Int}{t:ByteArray}(hn:f ∉ p){c2 j:Nat}(h:∃ n∈p,∃ v,s.file n=some v∧(v.t.getD c2 (0,0)).1≠0):(s.move f c t).1.view c2 j (p++q)=s.view c2 j (p++q):=by
 cases hf:s.file f with
 | none=>unfold SV.move;rw[hf]
 | some v =>
  rw[qJ hf]
  exact TB q (fun n hm=>by
   show(s.upd f.toNat _).file n=_
   rw[SV.fM hf,if_neg (fun (e:n=f)=>hn (e▸hm))]) h
theorem Oo{s:SV}{C m:Nat}{n:Int}{r:List Int}{v:IV}(h:Top s C m n r v)(hm:m+10≤1000000000){c:Nat}(hc:c<C)(h0:(v.t.getD c (0,0)).1=0){j:Nat}(hj:j<4) :
  (s.move n (c:Int) (s.read (n::r) (c:Int)).1).1.view c j (n::r)=s.view c j (n::r):=by
 have hv:=h.vok;have hl:=h.len;obtain⟨_,r2⟩:=SV.kF h.good h.ok (List.cons_ne_nil _ _) (c:=(c:Int)) ⟨by omega,by omega⟩
 have hrv:=uH h.good h.ok (List.cons_ne_nil _ _) hc hj;rw[qJ h.file];show(s.upd n.toNat _).view c j (n::r)=_
 by_cases hF:(v.mv (c:Int) (s.read (n::r) (c:Int)).1).2=0
 ·obtain⟨k1,k2⟩:=wX hv h.tab hm (by omega) r2 hF hj
  rw[qO h.file h.apart,if_neg k1,← iy _ _ _ hj,k2];exact hrv
 ·obtain⟨k1,k2⟩:=Eh hv hF (by omega) (c2:=c) (by omega) hj
  exact yh h.file h.apart k1 hj k2
def bV(j:JV):List Int:=if j.kind=1 then [j.file] else if j.kind=2 then j.l.headD 0::j.l.drop j.deep else j.l.drop j.deep
def Same(s:SV)(C:Nat)(j:JV):Prop:=∀ c,c<C→j.x.testBit c=false→∀ i,i<4→s.view c i (bV j)=s.view c i j.l
theorem Same.done{s:SV}{C:Nat}{j:JV}(h:Same s C j)(h0:S4.cnt j.x 64=0)(hC:C≤64){c i:Nat}(hc:c<C)(hi:i<4):s.view c i (bV j)=s.view c i j.l:=by
 refine h c hc ?_ i hi
 cases hb:j.x.testBit c with
 | false=>rfl
 | true =>
  have hm:c∈S4.jh j.x 64:=(S4.yS j.x 64 c).2 ⟨by omega,hb⟩
  have hl:=S4.yR j.x 64;rw[h0] at hl;rw[List.eq_nil_of_length_eq_zero hl] at hm;cases hm
theorem Gz(s:SV)(j:JV):∀ k,k≤j.n→∀ c,c<k→(kJ s j k).testBit c=j.eY s (c:Int):=by
 intro k
 induction k with
 | zero=>intro _ c hc;exact absurd hc (Nat.not_lt_zero _)
 | succ k ih =>
  intro hk c hc;show(S4.eP j.n (kJ s j k) (k:Int) (j.eY s (k:Int))).testBit c=_
  rw[S4.pV];by_cases e:c=k
  ·subst e
   rw[if_pos ⟨decide_eq_true ⟨by omega,by omega⟩,rfl⟩]
  ·rw[if_neg (fun h=>e (by have:=h.2;omega))]
   exact ih (by omega) c (by omega)
theorem Gy{s:SV}{c i:Nat}:∀(p:List Int) (q:List Int) (k:Nat),s.fC (c:Int) p k = -1→s.view c i (p++q)=s.view c i q:=by
 intro p
 induction p with
 | nil=>intro q k _;rfl
 | cons n r ih =>
  intro q k h;unfold SV.fC at h;split at h
  ·next h0 =>
   have h1:=ih q (k+1) h;show s.view c i (n::(r++q))=_
   cases hf:s.file n with
   | none =>
    have e:s.view c i (n::(r++q))=s.view c i (r++q):=by
     rw[SV.view,hf]
    rw[e];exact h1
   | some v =>
    rw[hf] at h0;have h0':(v.bH (c:Int)).1=0:=h0;rw[jW] at h0';rw[jO hf,if_pos h0'];exact h1
  ·omega
theorem LJ{s:SV}{c:Nat}{n:Int}{p:List Int}(h:s.fC (c:Int) (n::p) 0=0):∃ v,s.file n=some v∧(v.t.getD c (0,0)).1≠0:=by
 unfold SV.fC at h;split at h
 ·rcases SV.rF s (c:Int) p (0+1) with⟨h1,_⟩|⟨j,_,_,_,h2,_⟩
  ·rw[h1] at h;cases h
  ·rw[h2] at h;omega
 ·next h0 =>
  cases hf:s.file n with
  | none=>rw[hf] at h0;exact absurd rfl h0
  | some v =>
   rw[hf] at h0;have h0':(v.bH (c:Int)).1≠0:=h0;rw[jW] at h0';exact⟨v,rfl,h0'⟩
theorem LG{s:SV}{c:Nat}{n:Int}{p:List Int}(h:s.fC (c:Int) (n::p) 0 = -1):iF (s.file n) (c:Int)=0:=by
 unfold SV.fC at h;split at h
 ·next h0=>exact h0
 ·cases h
theorem EY{s:SV}{C:Nat}{j:JV}(h:JOk s C j)(hd:j.kind=2→1≤j.deep){c i:Nat}(hw:j.eY s (c:Int)=false):s.view c i (bV j)=s.view c i j.l:=by
 unfold JV.eY at hw;have hsplit:j.l.take j.deep++j.l.drop j.deep=j.l:=List.take_append_drop _ _;rcases h.kind with e|e|e
 ·rw[if_pos e] at hw;cases hw
 ·rw[if_neg (by omega),if_pos e] at hw
  have hle:¬0<s.found j.above (c:Int):=of_decide_eq_false hw;unfold bV;rw[if_neg (by omega),if_pos e]
  obtain⟨n,r,v,hl,hf,_⟩:=h.root;have hdp:=hd e
  have hab:j.above=n::r.take (j.deep-1):=by
   unfold JV.above;rw[hl];obtain⟨k,hk⟩:∃ k,j.deep=k+1:=⟨j.deep-1,by omega⟩
   rw[hk];rfl
  have hhd:j.l.headD 0=n:=by rw[hl];rfl
  rw[hhd];unfold SV.found at hle;rcases SV.rF s (c:Int) j.above 0 with⟨h1,_⟩|⟨k,_,_,_,h2,_⟩
  ·have hv:=Gy (i:=i) j.above (j.l.drop j.deep) 0 h1
   unfold JV.above at hv;rw[hsplit] at hv;rw[hab] at h1;have h0:=LG h1;rw[hf] at h0;have h0':(v.bH (c:Int)).1=0:=h0;rw[jW] at h0';rw[hv,jO hf,if_pos h0']
  ·have hk0:s.fC (c:Int) j.above 0=0:=by rw[h2] at hle ⊢;omega
   rw[hab] at hk0;obtain⟨u,hu,hu0⟩:=LJ hk0;rw[hl,jO hu,jO hu,if_neg hu0,if_neg hu0]
 ·rw[if_neg (by omega),if_neg (by omega)] at hw
  have hle:¬0≤s.found j.above (c:Int):=of_decide_eq_false hw;unfold bV;rw[if_neg (by omega),if_neg (by omega)]
  have h1:s.fC (c:Int) j.above 0 = -1:=by
   unfold SV.found at hle;rcases SV.rF s (c:Int) j.above 0 with⟨h1,_⟩|⟨k,_,_,_,h2,_⟩
   ·exact h1
   ·rw[h2] at hle;omega
  have hv:=Gy (i:=i) j.above (j.l.drop j.deep) 0 h1;unfold JV.above at hv;rw[hsplit] at hv;exact hv.symm
theorem OB{s:SV}{d:aS}{C:Nat}(h:JOk s C (dW s d))(hd:d.kind=2→1≤(dW s d).deep):Same s C (iL s d):=by
 intro c hc hb i hi;have hn:=h.n
 have hw:(dW s d).eY s (c:Int)=false:=by
  rw[← Gz s (dW s d) (dW s d).n (Nat.le_refl _) c (by omega)]
  exact hb
 exact EY (j:=dW s d) h hd hw
end Go.Proofs.YtonhoahnieoebabGreatDoor
