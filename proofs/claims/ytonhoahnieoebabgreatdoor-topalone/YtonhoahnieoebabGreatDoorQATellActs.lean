/- A stream: what is not left is not wanted (H2), behind each act: its root has the cluster, or no file above the one that it goes to. -/
import Derived.Test.YtonhoahnieoebabGreatDoorQATellPlain
namespace Go.Proofs.YtonhoahnieoebabGreatDoor
open Go.RowKit
def jd(s:SV)(C:Nat)(j:JV):Prop:=j.kind=2→∀ c,c<C→j.x.testBit c=false→¬0<s.found j.above (c:Int)
structure Up(s z:SV)(n:Int):Prop where
 other:∀ k,k≠n→z.file k=s.file k
 up:∀ v,s.file n=some v→∃ u,z.file n=some u∧∀ c,(u.t.getD c (0,0)).1=0→(v.t.getD c (0,0)).1=0
theorem Up.refl(s:SV)(n:Int):Up s s n:=⟨fun _ _=>rfl,fun v hv=>⟨v,hv,fun _ h=>h⟩⟩
theorem Up.trans{s z w:SV}{n:Int}(h:Up s z n)(k:Up z w n):Up s w n :=
 ⟨fun i hi=>(k.other i hi).trans (h.other i hi),fun v hv=>by
  obtain⟨u,h1,h2⟩:=h.up v hv;obtain⟨t,h3,h4⟩:=k.up u h1
  exact⟨t,h3,fun c e=>h2 c (h4 c e)⟩⟩
theorem Up.set{s:SV}{n:Int}{v u:IV}(hf:s.file n=some v)(h0:∀ c,(u.t.getD c (0,0)).1=0→(v.t.getD c (0,0)).1=0):Up s (s.upd n.toNat u) n :=
 ⟨fun k hk=>by rw[SV.fM hf,if_neg hk],fun w hw=>by
  rw[hf] at hw;cases hw
  exact⟨u,by rw[SV.fM hf,if_pos rfl],h0⟩⟩
theorem Up.lay(s:SV)(n:Int)(r:List Int)(c f:Nat)(t:ByteArray):Up s (s.lay (n::r) c f t).1 n:=by
 unfold SV.lay;simp only
 split
 ·exact .refl _ _
 ·next v hf =>
  split
  ·exact .set hf fun _=>GR
  ·exact .set hf fun _=>CZ
theorem Up.bK(s:SV)(n:Int)(r:List Int)(p:Pt):Up s (SV.bK (n::r) s p).1 n:=by
 unfold SV.bK;simp only
 split
 ·exact .refl _ _
 ·next v hf =>
  split
  ·exact .set hf fun _=>BJ
  ·split
   ·exact .refl _ _
   ·exact .lay _ _ _ _ _ _
theorem Up.dY{op:SV→Pt→SV × Int}{n:Int}(hop:∀(s:SV) p,Up s (op s p).1 n):∀(P:List Pt) (s:SV),Up s (dY op s P).1 n:=by
 intro P
 induction P with
 | nil=>intro s;exact .refl _ _
 | cons p r ih =>
  intro s;rw[nP];split
  ·exact(hop s p).trans (ih _)
  ·exact hop s p
theorem Up.put(s:SV)(n:Int)(r:List Int)(fr:Int)(t:ByteArray):Up s (s.put (n::r) fr t).1 n:=by
 unfold SV.put;split
 ·split
  ·exact Up.dY (fun s p=>.lay _ _ _ _ _ _) _ _
  ·exact .refl _ _
 ·exact .refl _ _
theorem Up.wipe(s:SV)(n:Int)(r:List Int)(fr N:Int):Up s (s.wipe (n::r) fr N).1 n:=by
 unfold SV.wipe;split
 ·exact Up.dY (fun s p=>.bK _ _ _ _) _ _
 ·exact .refl _ _
theorem qI(v:IV)(c:Nat):iF (some v) (c:Int)=(v.t.getD c (0,0)).1:=by
 show(v.bH (c:Int)).1=_
 rw[jW]
theorem y9{s z:SV}{c:Int}:∀(l:List Int) (k:Nat),(∀ n∈l,iF (z.file n) c=iF (s.file n) c)→z.fC c l k=s.fC c l k:=by
 intro l
 induction l with
 | nil=>intro k _;rfl
 | cons n r ih =>
  intro k h;show(if iF (z.file n) c=0 then z.fC c r (k+1) else (k:Int))=(if iF (s.file n) c=0 then s.fC c r (k+1) else (k:Int))
  rw[h n List.mem_cons_self,ih (k+1) fun i hi=>h i (List.mem_cons_of_mem _ hi)]
theorem LH{s z:SV}{n:Int}{r:List Int}{v:IV}(h:Up s z n)(hf:s.file n=some v)(hn:n ∉ r)(c:Nat):0<z.found (n::r) (c:Int)→0<s.found (n::r) (c:Int):=by
 obtain⟨u,h1,h2⟩:=h.up v hf;unfold SV.found SV.fC;rw[h1,hf,qI,qI];have e:z.fC (c:Int) r 1=s.fC (c:Int) r 1:=y9 r 1 fun i hi=>by rw[h.other i (fun e=>hn (e▸hi))]
 by_cases e0:(u.t.getD c (0,0)).1=0
 ·rw[if_pos e0,if_pos (h2 c e0),e];exact id
 ·rw[if_neg e0];intro h3;exact absurd h3 (by omega)
theorem yB{s:SV}{C m:Nat}{j:JV}(h:JGo s C m j)(h2:j.kind=2):∃ n r v,j.l=n::r∧j.above=n::r.take (j.deep-1)∧s.file n=some v∧v.t.length=C∧n ∉ r∧j.into=n∧j.l.drop j.deep=r.drop (j.deep-1):=by
 obtain⟨n,r,v,hl,hf,hc⟩:=h.ok.root;obtain⟨k,hk⟩:∃ k,j.deep=k+1:=⟨j.deep-1,by have:=h.str h2;omega⟩
 have hnd:=h.nodup;rw[hl] at hnd;refine⟨n,r,v,hl,?_,hf,?_,(List.nodup_cons.1 hnd).1,?_,?_⟩
 ·unfold JV.above
  rw[hk,hl];rfl
 ·have:=(h.sok _ _ (SV.dJ hf).2.2).len
  omega
 ·unfold JV.into
  rw[if_pos h2,hl];rfl
 ·rw[hk,hl];rfl
theorem jd.up{s z:SV}{C m:Nat}{j:JV}(h:jd s C j)(hg:JGo s C m j){n:Int}{r:List Int}(hl:j.l=n::r)(hu:Up s z n):jd z C j:=fun h2 c hc hb=>by
 obtain⟨n',r',v,e1,e2,e3,e4,e5,_⟩:=yB hg h2;rw[hl] at e1;cases e1
 have h0:=h h2 c hc hb;rw[e2] at h0 ⊢;exact fun h3=>h0 (LH hu e3 (fun e=>e5 (List.mem_of_mem_take e)) c h3)
theorem jd.yJ{s z:SV}{C:Nat}{j:JV}(h:jd s C j)(hz:∀ n∈j.l,∀ c,c<C→iF (z.file n) (c:Int)=iF (s.file n) (c:Int)):jd z C j:=fun h2 c hc hb=>by
 have h0:=h h2 c hc hb;unfold SV.found at h0 ⊢;have e:z.fC (c:Int) j.above 0=s.fC (c:Int) j.above 0:=y9 _ _ fun n hn=>hz n (List.mem_of_mem_take (i:=j.deep) hn) c hc
 rw[e];exact h0
theorem jd.as{s:SV}{C:Nat}{j a:JV}(h:jd s C j)(hk:a.kind=j.kind)(hx:a.x=j.x)(hl:a.l=j.l)(hd:a.deep=j.deep):jd s C a:=fun h2 c hc hb=>by
 have:=h (hk▸h2) c hc (hx▸hb)
 unfold JV.above at this ⊢;rw[hl,hd];exact this
theorem jd.uy{s:SV}{C:Nat}{j:JV}(h:j.kind≠2):jd s C j:=fun e=>absurd e h
theorem jd.new{s:SV}{d:aS}{C:Nat}(h:JOk s C (dW s d)):jd s C (iL s d):=fun h2 c hc hb=>by
 have hn:(dW s d).n=C:=h.n;have h1:=Gz s (dW s d) (dW s d).n (Nat.le_refl _) c (by rw[hn];exact hc)
 have hb':(kJ s (dW s d) (dW s d).n).testBit c=false:=hb;rw[h1] at hb';have h2':(dW s d).kind=2:=h2;unfold JV.eY at hb';rw[if_neg (by omega),if_pos h2'] at hb'
 exact of_decide_eq_false hb'
theorem Cm{j:JV}(h:j.kind=2)(fr:Nat):∀ k,dh j fr k=j:=by
 intro k
 induction k with
 | zero=>rfl
 | succ k ih =>
  show dD (dh j fr k) _=j
  rw[ih];unfold dD;rw[if_pos (.inl h)]
theorem jd.step{s:SV}{C m:Nat}{j:JV}(h:jd s C j)(hg:JGo s C m j)(hm:m+10≤1000000000)(hst:(stepJ s j).stage<4):jd (stepS s j) C (stepJ s j):=by
 by_cases h2:j.kind=2
 ·obtain⟨n,r,v,el,ea,hf,hvl,hn,ei,_⟩:=yB hg h2
  unfold stepJ at hst ⊢;unfold stepS;by_cases h1:j.stage=1∧j.some=true∧S4.inB 4 j.lv=true
  ·rw[if_pos h1] at hst ⊢
   by_cases hw:j.eY s j.pick=true
   ·rw[if_pos ⟨h1.1,h1.2.1,h1.2.2,hw⟩]
    by_cases hF:(j.moved s j.pick).2≠0
    ·rw[if_pos ⟨hw,hF⟩] at hst
     exact absurd hst (by show ¬(5:Int)<4;decide)
    ·rw[if_neg (fun e=>hF e.2)]
     have hF0:(j.moved s j.pick).2=0:=Classical.byContradiction hF;obtain⟨p,hp,hpC,_⟩:=hg.ok.pick h1.2.1;rw[hp] at hF0 ⊢;intro _ c hc hb;have hab:(j.went (p:Int)).above=n::r.take (j.deep-1):=ea;rw[hab];obtain⟨_,hrd⟩:=hg.ok.read hg.sok hpC;have hvo:=hg.sok _ _ (SV.dJ hf).2.2;have hgt:=hg.tab _ _ hf;unfold JV.moved at hF0 ⊢;rw[ei,qJ hf] at hF0 ⊢;by_cases e:c=p
     ·subst e
      have h0:=(wX hvo hgt hm (by rw[hvl];exact hpC) hrd hF0 (j:=0) (by omega)).1
      unfold SV.found SV.fC;rw[show(s.upd n.toNat (v.mv (c:Int) (s.read j.l (c:Int)).1).1).file n=some (v.mv (c:Int) (s.read j.l (c:Int)).1).1 by rw[SV.fM hf,if_pos rfl],qI,if_neg h0]
      omega
     ·have hb':(S4.eP j.n j.x (p:Int) false).testBit c=false:=hb
      rw[S4.pV,if_neg (fun x=>e (by have:=x.2;omega))] at hb'
      have h0:=h h2 c hc hb';rw[ea] at h0;unfold SV.found at h0 ⊢;rw[y9 _ _ fun i hi=>?_]
      ·exact h0
      ·by_cases ein:i=n
       ·rw[ein,SV.fM hf,if_pos rfl,hf,qI,qI]
        exact(zG hvo hgt hm (by rw[hvl];exact hpC) hrd (fun e2=>e e2.symm) (by rw[hvl];exact hc) (j:=0) (by omega)).1
       ·rw[SV.fM hf,if_neg ein]
   ·rw[if_neg (fun e=>hw e.2.2.2),if_neg (fun e=>hw e.1)]
    obtain⟨p,hp,hpC,_⟩:=hg.ok.pick h1.2.1;rw[hp] at hw ⊢;intro _ c hc hb;by_cases e:c=p
    ·subst e
     unfold JV.eY at hw;rw[if_neg (by omega),if_pos h2] at hw
     intro h3;exact hw (decide_eq_true h3)
    ·have hb':(S4.eP j.n j.x (p:Int) false).testBit c=false:=hb
     rw[S4.pV,if_neg (fun x=>e (by have:=x.2;omega))] at hb'
     exact h h2 c hc hb'
  ·rw[if_neg h1] at hst ⊢
   rw[if_neg (fun e=>h1 ⟨e.1,e.2.1,e.2.2.1⟩)]
   exact h
 ·refine .uy fun e=>h2 ?_
  have:=congrArg aS.kind (iO s j).2
  rw[← e];exact this.symm
def DV.flat(d:DV):Prop:=∀ i s,d.ver i s→s=d.seen.getD i []
theorem Safe.same{v:IV}{U:List (Int × Int)}{m:Nat}(hs:Safe v U)(hok:v.ok m):fO v.d=0∧bU v.d=v.h∧(jB v.d).t=v.t:=by
 obtain⟨h1,h2,h3,h4⟩:=hs.opens hok rfl (AO hok.d.sn);have hlen:(jB v.d).t.length=v.t.length:=by rw[h3.1];exact hs.sub.1.symm
 have hl:((jB v.d).t.length:Int)=v.h.c:=by rw[hlen];exact hok.len
 refine⟨h1,h2,List.ext_getElem hlen fun c q1 q2=>?_⟩
 have e:dG (jB v.d).t ((c / 8:Nat):Int)=dG v.t ((c / 8:Nat):Int):=by
  have:=(h4 (c / 8) (kV q2)).symm.trans (hs.seen (c / 8) (kV q2))
  cases hA:dG (jB v.d).t ((c / 8:Nat):Int) with
  | mk a =>
   cases hB:dG v.t ((c / 8:Nat):Int) with
   | mk b =>
    rw[hA,hB] at this
    congr 1
    exact Array.toList_inj.1 this
 have e1:=uK hok.h hl (fun k=>h3.bM hs.good k) (kV q1) (i:=c % 8) (by omega)
 have e2:=uK hok.h hok.len (fun k=>hs.sub.bM hs.good k) (kV q2) (i:=c % 8) (by omega)
 rw[e] at e1;have e3:=e1.symm.trans e2;rw[show c / 8*8+c % 8=c by omega,List.getD_eq_getElem?_getD,List.getD_eq_getElem?_getD,List.getElem?_eq_getElem q1,List.getElem?_eq_getElem q2] at e3
 exact e3
def mP(s:SV)(n:Int):Prop:=∃ w U m,s.file n=some (IV.flush w)∧Safe w U∧w.ok m
theorem mP.cZ{s:SV}{n:Int}(h:mP s n)(k:Int):mP (s.cZ k) n:=by
 obtain⟨w,U,m,h1,h2,h3⟩:=h;unfold SV.cZ;split
 ·exact⟨w,U,m,h1,h2,h3⟩
 ·next v hf =>
  by_cases e:n=k
  ·subst e
   rw[h1] at hf;cases hf
   exact⟨w.flush,w.t,m,by rw[SV.fM h1,if_pos rfl],h2.flush h3.d.sn,h3.flush⟩
  ·exact⟨w,U,m,by rw[SV.fM hf,if_neg e];exact h1,h2,h3⟩
theorem Lj{s:SV}{m:Nat}(hok:s.ok m)(hS:aZ s){n:Int}{v:IV}(hf:s.file n=some v):mP (s.cZ n) n:=by
 obtain⟨U,hs⟩:=hS.file hf;unfold SV.cZ;rw[hf];exact⟨v,U,m,by show(s.upd n.toNat v.flush).file n=_;rw[SV.fM hf,if_pos rfl],hs,hok.file hf⟩
theorem mP.bQ{n:Int}:∀(q:List Int) {s:SV},mP s n→mP (s.bQ q) n:=by
 intro q
 induction q with
 | nil=>intro s h;exact h
 | cons k q ih=>intro s h;exact ih (h.cZ k)
theorem Lm{C m:Nat}:∀(l:List Int) {s:SV},s.good (C:Int) l→s.ok m→aZ s→∀ n∈l,mP (s.bQ l) n:=by
 intro l
 induction l with
 | nil=>intro s _ _ _ n hn;cases hn
 | cons k r ih =>
  intro s hg hok hS n hn;show mP ((s.cZ k).bQ r) n
  rcases List.mem_cons.1 hn with e|e
  ·subst e
   obtain⟨v,hf,_⟩:=hg n List.mem_cons_self;exact(Lj hok hS hf).bQ r
  ·exact ih (s:=s.cZ k) ((bF.cZ r s k).good fun i hi=>hg i (List.mem_cons_of_mem _ hi)) (hok.cZ k) (hS.cZ hok k) n e
theorem aW.flat{z:SV}{C m:Nat}{l:List Int}{cr:Nat→List (List UInt8)}(hg:z.good (C:Int) l)(hok:z.ok m)(hT:∀ n∈l,∀ v,z.file n=some v→Told v (fun k=>[v.sh k]))(hs:∀ k,k<4*C→z.sec l k∈cr k):aW z C l cr:=by
 refine⟨fun n k=>match z.file n with|none=>[] | some v=>[v.sh k],fun n hn v hv=>?_,fun k hk=>KL (fun n hn=>?_) (hs k hk)⟩
 ·simp only[hv];exact hT n hn v hv
 ·obtain⟨v,hf,_⟩:=hg n hn
  have hl:=pI hg hok hn hf;exact⟨v,hf,by simp only[hf],xR (hok.file hf) (by omega)⟩
theorem mP.told{s:SV}{n:Int}(h:mP s n):∀ v,s.file n=some v→Told v (fun k=>[v.sh k]):=fun v hv=>by
 obtain⟨w,U,m,h1,h2,h3⟩:=h;rw[h1] at hv;cases hv
 exact Told.flat h2 h3
theorem aW.flushed{s:SV}{C m:Nat}{l:List Int}{cr:Nat→List (List UInt8)}(hg:s.good (C:Int) l)(hok:s.ok m)(hS:aZ s)(hs:∀ k,k<4*C→s.sec l k∈cr k):aW (s.bQ l) C l cr:=by
 refine .flat ((bF.bQ l l s).good hg) (SV.ok.bQ l hok) (fun n hn=>(Lm l hg hok hS n hn).told) fun k hk=>?_
 have:(s.bQ l).sec l k=s.sec l k:=ug (k / 4) (k % 4) (by omega) l s hg
 rw[this];exact hs k hk
theorem DU{v:IV}{U:List (Int × Int)}{m:Nat}(hs:Safe v U)(hok:v.ok m)(hm:m+10≤1000000000){b:Int}(hb:(v.lV b).ok=true):Told (v.link b) (fun k=>[(v.link b).sh k]):=by
 obtain⟨U',hs'⟩:=hs.link hok b;have hok':=hok.link b hm;refine yc hs' hok' ?_ ?_ fun k _=>List.mem_singleton.2 rfl
 ·unfold IV.link
  rw[if_pos hb];unfold IV.gJ;split
  ·intro i s h
   rcases h with h|⟨x,hx,_⟩
   ·exact h
   ·cases hx
  ·next hp =>
   intro i s h;have e:v.flush.d.put 0 (aU (v.lV b).bytes).data.toList=v.flush.d.failing (-1):=pW _ _ hp;have h':(v.flush.d.put 0 (aU (v.lV b).bytes).data.toList).ver i s:=h;show s=(v.flush.d.put 0 (aU (v.lV b).bytes).data.toList).seen.getD i []
   rw[e] at h' ⊢;rcases h' with h|⟨x,hx,_⟩
   ·exact h
   ·cases hx
 ·unfold IV.link
  rw[if_pos hb];unfold IV.gJ;split<;>rfl
theorem uj(v:IV)(b:Int):(v.link b).t=v.t:=by
 unfold IV.link;split
 ·unfold IV.gJ
  split<;>rfl
 ·rfl
theorem kY.link{v:IV}{U:List (Int × Int)}{m:Nat}(hs:Safe v U)(hok:v.ok m)(hm:m+10≤1000000000)(b:Int):kY v (v.link b):=fun may may' h hmay hn=>by
 by_cases hb:(v.lV b).ok=true
 ·have h1:=DU hs hok hm hb
  refine⟨fun c hc s hv=>?_,fun k hk=>hn k (by rw[← uj v b];exact hk),h1.held⟩
  have h2:=h1.vers c hc s hv;rw[uj] at hc;intro j hj;have h3:=hn (4*c+j) (by omega)
  obtain⟨a0,a1,a2⟩:=h2 j hj;exact⟨fun e=>by rw[List.mem_singleton.1 (a0 e)];exact h3,fun e=>by rw[List.mem_singleton.1 (a1 e)];exact h3,fun e=>⟨(a2 e).1,fun x hx=>by rw[List.mem_singleton.1 ((a2 e).2 x hx)];exact h3⟩⟩
 ·have e:v.link b=v:=by unfold IV.link;rw[if_neg hb]
  rw[e];exact h.mono hmay
theorem aW.link{s:SV}{C m:Nat}{l:List Int}{cr:Nat→List (List UInt8)}(h:aW s C l cr)(hg:s.good (C:Int) l)(hok:s.ok m)(hS:aZ s)(hm:m+10≤1000000000)(n b:Int):aW (bI s n b).1 C l cr:=by
 unfold bI;split
 ·exact h
 ·next v hf =>
  obtain⟨U,hs⟩:=hS.file hf;refine h.act hf (fun hn=>pI hg hok hn hf) (fun _=>.link hs (hok.file hf) hm b) (fun _ _ e=>e) fun hn k hk=>.inl ?_
  have:=DW v b (c:=k / 4) (j:=k % 4) (by omega)
  rw[show 4*(k / 4)+k % 4=k by omega] at this
  exact this
theorem Falls.skip{s:SV}{M:Int→Nat→List (List UInt8)}{cr:Nat→List (List UInt8)}{k:Nat}{q:List Int}:∀(p:List Int),(∀ n∈p,∃ v,s.file n=some v∧v.sh k∈M n k∧(v.t.getD (k / 4) (0,0)).1=0)→Falls M cr k (p++q)→Falls M cr k q:=by
 intro p
 induction p with
 | nil=>intro _ h;exact h
 | cons n r ih =>
  intro hp h;obtain⟨v,_,h2,h3⟩:=hp n List.mem_cons_self;rw[uV h3] at h2;exact ih (fun i hi=>hp i (List.mem_cons_of_mem _ hi)) (h.2 h2)
theorem LD{s:SV}{c:Int}:∀(l:List Int) (k:Nat),¬0<s.fC c l (k+1)→∀ n∈l,iF (s.file n) c=0:=by
 intro l
 induction l with
 | nil=>intro k _ n hn;cases hn
 | cons i r ih =>
  intro k h n hn;unfold SV.fC at h;by_cases e:iF (s.file i) c=0
  ·rw[if_pos e] at h
   rcases List.mem_cons.1 hn with e2|e2
   ·rw[e2];exact e
   ·exact ih (k+1) h n e2
  ·rw[if_neg e] at h
   omega
theorem aW.streamed{s:SV}{C m:Nat}{j:JV}{cr:Nat→List (List UInt8)}{b:Int}(h:aW s C j.l cr)(hg:JGo s C m j)(hS:aZ s)(hm:m+10≤1000000000)(h2:j.kind=2)(hw:jd s C j)(hx:S4.cnt j.x 64=0)(hC:C≤64)(hb:(bI s j.into b).2=0):aW (bI s j.into b).1 C (bV j) cr:=by
 obtain⟨n,r,v,el,ea,hf,hvl,hn,ei,ed⟩:=yB hg h2;have h1:=h.link hg.ok.good hg.sok hS hm n b;rw[ei] at hb ⊢;obtain⟨U,hs⟩:=hS.file hf;have hlk:bI s n b=(s.upd n.toNat (v.link b),v.kC b):=by unfold bI;rw[hf]
 rw[hlk] at hb h1 ⊢
 have hok:(v.lV b).ok=true:=by
  have hb':v.kC b=0:=hb;unfold IV.kC at hb';split at hb'
  ·next e=>exact e
  ·cases hb'
 have hflat:=DU hs (hg.sok.file hf) hm hok
 have et:bV j=n::r.drop (j.deep-1):=by
  unfold bV;rw[if_neg (by omega),if_pos h2,ed,el];rfl
 obtain⟨M,m1,m2⟩:=h1.ex;have hfile:∀ i,(s.upd n.toNat (v.link b)).file i=if i=n then some (v.link b) else s.file i:=fun i=>SV.fM hf i
 have hnow:∀ i∈j.l,∀ k,k<4*C→∃ w,(s.upd n.toNat (v.link b)).file i=some w∧w.sh k∈M i k∧∀ c:Nat,iF (s.file i) (c:Int)=(w.t.getD c (0,0)).1:=fun i hi k hk=>by
  rw[hfile];by_cases e:i=n
  ·rw[if_pos e]
   refine⟨v.link b,rfl,?_,fun c=>?_⟩
   ·have:=m1 i hi (v.link b) (by rw[hfile,if_pos e])
    exact this.now k (by rw[uj,hvl];exact hk)
   ·rw[e,hf,qI,uj]
  ·rw[if_neg e]
   obtain⟨w,hw1,_⟩:=hg.ok.good i hi;refine⟨w,hw1,?_,fun c=>by rw[hw1,qI]⟩
   have:=m1 i hi w (by rw[hfile,if_neg e];exact hw1)
   exact this.now k (by rw[pI hg.ok.good hg.sok hi hw1];exact hk)
 rw[et];refine⟨fun i=>if i=n then fun k=>[(v.link b).sh k] else M i,fun i hi w hw1=>?_,fun k hk=>?_⟩
 ·by_cases e:i=n
  ·simp only[if_pos e]
   rw[hfile,if_pos e] at hw1;cases hw1
   exact hflat
  ·simp only[if_neg e]
   refine m1 i ?_ w hw1;rw[el];rcases List.mem_cons.1 hi with e2|e2
   ·exact absurd e2 e
   ·exact List.mem_cons_of_mem _ (List.mem_of_mem_drop e2)
 ·have hF:=m2 k hk
  rw[el] at hF hnow;obtain⟨w,w1,w2,w3⟩:=hnow n List.mem_cons_self k hk;rw[hfile,if_pos rfl] at w1;cases w1
  refine⟨fun x hx1 h45=>?_,fun h45=>?_⟩
  ·simp only[if_true] at hx1
   rw[List.mem_singleton.1 hx1] at h45 ⊢;exact hF.1 _ w2 h45
  ·simp only[if_true] at h45
   have h45':(v.link b).sh k=[45]:=(List.mem_singleton.1 h45).symm;have hk0:((v.link b).t.getD (k / 4) (0,0)).1=0:=xR ((hg.sok.file hf).link b hm) (by rw[uj,hvl];exact hk) h45'
   have hbit:j.x.testBit (k / 4)=false:=by
    cases hbt:j.x.testBit (k / 4) with
    | false=>rfl
    | true =>
     have hm1:k / 4∈S4.jh j.x 64:=(S4.yS j.x 64 (k / 4)).2 ⟨by omega,hbt⟩
     have hl:=S4.yR j.x 64;rw[hx] at hl;rw[List.eq_nil_of_length_eq_zero hl] at hm1;cases hm1
   have hnw:=hw h2 (k / 4) (by omega) hbit
   rw[ea] at hnw;unfold SV.found SV.fC at hnw;rw[w3,if_pos hk0] at hnw;have habs:=LD _ _ hnw;rw[h45'] at w2;have hrest:=hF.2 w2;have hsplit:r=r.take (j.deep-1)++r.drop (j.deep-1):=(List.take_append_drop _ _).symm;rw[hsplit] at hrest
   have hlow:=hrest.skip (s:=s.upd n.toNat (v.link b)) _ fun i hi=>by
    obtain⟨u,u1,u2,u3⟩:=hnow i (List.mem_cons_of_mem _ (List.mem_of_mem_take hi)) k hk;exact⟨u,u1,u2,by rw[← u3];exact habs i hi⟩
   refine hlow.re (fun _ e=>e) fun i hi x hx1=>.inl ?_
   have hne:i≠n:=fun e=>hn (e▸List.mem_of_mem_drop hi)
   simp only[if_neg hne] at hx1;exact hx1
structure jD(t:DV)(r:Int):Prop where
 pend:t.pend=[]
 ok:bJ (bytesOf (t.seen.getD 0 []))=0
 root:(aG t).root=r
theorem jD.fail{t:DV}{r:Int}(h:jD t r)(n:Int):jD (t.failing n) r:=⟨h.pend,h.ok,h.root⟩
theorem Ce{y:YV}{m:Nat}(ht:y.top.fine y.top.fl.length m){d:aS}(hd:d.kv.fault=0)(hp:y.top.aQ=0):jD (y.aj d).top d.root:=by
 unfold YV.aj;rw[if_pos hp];have hs:(y.top.put 0 (YV.kQ d)).flushed.seen.getD 0 []=YV.kQ d:=qM y.top _ hp (by rw[ht.ok.same];exact ht.ok.n1)
 have hb:bytesOf ((y.top.put 0 (YV.kQ d)).flushed.seen.getD 0 [])=aU d.kv.bytes:=by rw[hs];exact qB _
 obtain⟨e1,e2⟩:=Jr d.kv hd;refine⟨rfl,by rw[hb];exact e2,?_⟩
 show(aG (y.top.put 0 (YV.kQ d)).flushed).root=d.root
 unfold aG;rw[hb,e1];rfl
theorem jD.aj{y:YV}{m:Nat}(h:jD y.top y.kd.root)(ht:y.top.fine y.top.fl.length m){d:aS}(hd:d.kv.fault=0):jD (y.aj d).top (y.aj d).kd.root:=by
 by_cases hp:y.top.aQ=0
 ·rw[sN hp]
  exact Ce ht hd hp
 ·rw[vH hp]
  unfold YV.aj;rw[if_neg hp];show jD (y.top.put 0 (YV.kQ d)) y.kd.root
  rw[pW _ _ hp];exact h.fail _
structure YT(y:YV)(C m:Nat)(cr:Nat→List (List UInt8)):Prop where
 yg:YG y C m
 tells:aW y.s C y.l cr
 want:∀ j,y.j=some j→j.stage<4→jd y.s C j
 aj:jD y.top y.kd.root
theorem YT.as{y z:YV}{C m m':Nat}{cr:Nat→List (List UInt8)}(h:YT y C m cr)(hz:YG z C m')(hs:z.s=y.s)(hl:z.l=y.l)(hw:∀ j,z.j=some j→j.stage<4→jd z.s C j)(hd:jD z.top z.kd.root):YT z C m' cr :=
 ⟨hz,by rw[hs,hl];exact h.tells,hw,hd⟩
theorem NG(s:SV)(n k:Int)(c:Int):iF ((s.cZ n).file k) c=iF (s.file k) c:=by
 unfold SV.cZ;split
 ·rfl
 ·next v hf =>
  rw[SV.fM hf];by_cases e:k=n
  ·rw[if_pos e,e,hf];rfl
  ·rw[if_neg e]
theorem NH(k:Int)(c:Int):∀(l:List Int) (s:SV),iF ((s.bQ l).file k) c=iF (s.file k) c:=by
 intro l
 induction l with
 | nil=>intro s;rfl
 | cons n r ih=>intro s;exact(ih (s.cZ n)).trans (NG s n k c)
theorem YT.write{y:YV}{C m:Nat}{cr cr':Nat→List (List UInt8)}(h:YT y C m cr){fr:Nat}{t:ByteArray}(ht:t.size % 16=0)(hf:y.s.bP y.l (fr:Int) ((t.size / 16:Nat):Int)=0)(hm:m+10*(t.size / 16)<1000000000)
  (hc:∀ k x,x∈cr k→x∈cr' k) (hx:∀ k,fr≤k→k<fr+t.size / 16→chunk t (k-fr)∈cr' k):YT (y.write (fr:Int) t) C (m+10*(t.size / 16)) cr':=by
 obtain⟨r,el,hT⟩:=h.yg.top;obtain⟨_,q2,q3⟩:=h.yg.write ht hf (by omega)
 have e1:y.write (fr:Int) t=({ y with s:=(y.s.put y.l (fr:Int) t).1 }:YV).mark fr (t.size / 16):=by
  unfold YV.write;rw[if_pos ⟨ht,hf⟩];rfl
 have es:(y.write (fr:Int) t).s=(y.s.put y.l (fr:Int) t).1:=by rw[e1];rfl
 have ej:(y.write (fr:Int) t).j=y.j.map fun j=>dh j fr (t.size / 16):=by rw[e1];rfl
 have ed:(y.write (fr:Int) t).top=y.top∧(y.write (fr:Int) t).kd=y.kd:=by rw[e1];exact⟨rfl,rfl⟩
 have hf':=hf;rw[el] at hf';refine⟨q2,?_,fun a ha hg=>?_,by rw[ed.1,ed.2];exact h.aj⟩
 ·rw[q3,es,el]
  have h1:=h.tells;rw[el] at h1;exact h1.put hT ht hf' hm hc hx
 ·rw[ej] at ha
  cases hj:y.j with
  | none=>rw[hj] at ha;cases ha
  | some j =>
   rw[hj] at ha;have e:dh j fr (t.size / 16)=a:=Option.some.inj ha;obtain⟨d1,d2,d3,_⟩:=oD j fr (t.size / 16);have hgj:j.stage<4:=by rw[← d3,e];exact hg
   have hin:=h.yg.ok.job j hj hgj;by_cases h2:j.kind=2
   ·rw[Cm h2] at e
    rw[← e,es,el];exact(h.want j hj hgj).up (h.yg.go hj hgj) (by rw[hin.lst,el]) (.put _ _ _ _ _)
   ·refine .uy fun e2=>h2 ?_
    have:=congrArg aS.kind d2
    rw[← e] at e2;exact this.symm.trans e2
theorem YT.wipe{y:YV}{C m:Nat}{cr cr':Nat→List (List UInt8)}(h:YT y C m cr){fr N:Nat}(hf:y.s.bP y.l (fr:Int) (N:Int)=0)(hm:m+10*N<1000000000)
  (hc:∀ k x,x∈cr k→x∈cr' k) (hx:∀ k,fr≤k→k<fr+N→noughts∈cr' k):YT (y.wipe (fr:Int) (N:Int)) C (m+10*N) cr':=by
 obtain⟨r,el,hT⟩:=h.yg.top;obtain⟨_,q2,q3⟩:=h.yg.wipe hf (by omega)
 have hN:((N:Int)).toNat=N:=by omega
 have e1:y.wipe (fr:Int) (N:Int)=({ y with s:=(y.s.wipe y.l (fr:Int) (N:Int)).1 }:YV).mark fr N:=by
  unfold YV.wipe;rw[if_pos hf];rfl
 have es:(y.wipe (fr:Int) (N:Int)).s=(y.s.wipe y.l (fr:Int) (N:Int)).1:=by rw[e1];rfl
 have ej:(y.wipe (fr:Int) (N:Int)).j=y.j.map fun j=>dh j fr N:=by rw[e1];rfl
 have ed:(y.wipe (fr:Int) (N:Int)).top=y.top∧(y.wipe (fr:Int) (N:Int)).kd=y.kd:=by rw[e1];exact⟨rfl,rfl⟩
 have hf':=hf;rw[el] at hf';refine⟨q2,?_,fun a ha hg=>?_,by rw[ed.1,ed.2];exact h.aj⟩
 ·rw[q3,es,el]
  have h1:=h.tells;rw[el] at h1;exact h1.wipe hT hf' hm hc hx
 ·rw[ej] at ha
  cases hj:y.j with
  | none=>rw[hj] at ha;cases ha
  | some j =>
   rw[hj] at ha;have e:dh j fr N=a:=Option.some.inj ha;obtain⟨d1,d2,d3,_⟩:=oD j fr N;have hgj:j.stage<4:=by rw[← d3,e];exact hg
   have hin:=h.yg.ok.job j hj hgj;by_cases h2:j.kind=2
   ·rw[Cm h2] at e
    rw[← e,es,el];exact(h.want j hj hgj).up (h.yg.go hj hgj) (by rw[hin.lst,el]) (.wipe _ _ _ _ _)
   ·refine .uy fun e2=>h2 ?_
    have:=congrArg aS.kind d2
    rw[← e] at e2;exact this.symm.trans e2
theorem YT.flush{y:YV}{C m:Nat}{cr cr':Nat→List (List UInt8)}(h:YT y C m cr)(hs:∀ k,k<4*C→y.s.sec y.l k∈cr' k):YT y.flush C m cr' :=
 ⟨h.yg.flush.1,aW.flushed h.yg.ok.ch.good h.yg.ok.s h.yg.safe hs,fun j hj hg=>(h.want j hj hg).yJ fun n _ c _=>NH n c y.l y.s,h.aj⟩
theorem Bg(y:YV)(f back:Int):∀ n∈y.l,(y.blank f back).s.file n=y.s.file n:=fun n hm=>by
 unfold YV.blank;split
 ·next hx =>
  split
  ·rfl
  ·next hu =>
   obtain⟨hn,_⟩:=rZ hu;split
   ·show(y.s.upd f.toNat _).file n=_
    rw[pq _ hx.1 hx.2,if_neg (fun (e:n=f)=>hn (e▸hm))]
   ·show(y.s.gone f.toNat).file n=_
    rw[wG _ hx.1 hx.2,if_neg (fun (e:n=f)=>hn (e▸hm))]
 ·rfl
theorem YT.blank{y:YV}{C m:Nat}{cr:Nat→List (List UInt8)}(h:YT y C m cr)(f back:Int)(hm:m+20<1000000000):YT (y.blank f back) C (m+15) cr:=by
 obtain⟨b1,b2,b3,b4⟩:=oV y f back;refine⟨(h.yg.blank f back hm).1,by rw[b3];exact h.tells.other (Bg y f back),fun j hj hg=>?_,by rw[b4,b2];exact h.aj⟩
 rw[b1] at hj;have hin:=h.yg.ok.job j hj hg;exact(h.want j hj hg).yJ fun n hn c _=>by rw[Bg y f back n (by rw[← hin.lst];exact hn)]
theorem YT.snap{y:YV}{C m:Nat}{cr:Nat→List (List UInt8)}(h:YT y C m cr)(f:Int)(hm:m+20<1000000000):YT (y.snap f) C (m+16) cr:=by
  obtain⟨hg,_⟩:=h.yg.snap f hm;have hb:=h.blank f y.kd.root hm;unfold YV.snap at hg ⊢;split
  · next hx=>rw[if_pos hx] at hg;exact⟨hg,h.tells,h.want,h.aj⟩
  · next hx =>
    rw[if_neg hx] at hg;rw[not_or] at hx;have hbn:=nO hx.1;obtain⟨b1,b2,b3,b4⟩:=oV y f y.kd.root;obtain⟨d1,_,d3,d4⟩:=fP (y.blank f y.kd.root) (ak f);split
    · next hbf =>
      rw[if_pos hbf] at hg;obtain⟨h0,h5,hu,hc,eb⟩:=vP hbf;have hdk:=hb.aj.aj hb.yg.ok.top (jH h0 (by omega))
      split
      · next hdf =>
        rw[if_pos hdf] at hg;have hgo:=hg.ok.ch.good;have hso:=hg.ok.s;refine⟨hg,?_,fun j hj hgj=>?_,hdk⟩
        · show aW (YV.aj _ _).s C (f::y.l) cr
          rw[d1];obtain⟨M,m1,m2⟩:=hb.tells.ex;rw[b3] at m1 m2
          have hff:(y.blank f y.kd.root).s.file f=some (crV (y.dev f.toNat) (y.head f y.kd.root)):=by
            rw[eb];show(y.s.upd f.toNat _).file f=_
            rw[pq _ h0 h5,if_pos rfl]
          obtain⟨hn,_⟩:=rZ hu
          have hcr:Told (crV (y.dev f.toNat) (y.head f y.kd.root)) (fun _=>[[45]]):=by
            have hh:=hc;unfold crF at hh;by_cases k1:(y.head f y.kd.root).ok=true
            · rw[if_pos k1] at hh
              by_cases k2:(y.dev f.toNat).fl.length<aJ (y.head f y.kd.root)
              · rw[if_pos k2] at hh;cases hh
              · exact BR (h.yg.ok.dev _) k1 (by omega) hm hc
            · rw[if_neg k1] at hh;cases hh
          refine⟨fun i=>if i=f then fun _=>[[45]] else M i,fun i hi v hv=>?_,fun k hk=>⟨fun x hx h45=>?_,fun _=>?_⟩⟩
          · by_cases e:i=f
            · simp only[if_pos e]
              rw[e,hff] at hv;cases hv
              exact hcr
            · simp only[if_neg e]
              rcases List.mem_cons.1 hi with e2|e2
              · exact absurd e2 e
              · exact m1 i e2 v hv
          · simp only[if_true] at hx
            exact absurd (List.mem_singleton.1 hx) h45
          · refine(m2 k hk).re (fun _ e=>e) fun i hi x hx1=>.inl ?_
            have hne:i≠f:=fun e=>hn (e▸hi)
            simp only[if_neg hne] at hx1;exact hx1
        · have hj':(YV.aj _ _).j=some j:=hj
          rw[d4,b1] at hj';exact absurd (hbn j hj') (by omega)
      · next hdf =>
        rw[if_neg hdf] at hg;refine⟨hg,by rw[d1,d3];exact hb.tells,fun j hj hgj=>?_,hdk⟩
        rw[d4,b1] at hj;exact absurd (hbn j hj) (by omega)
    · next hbf =>
      rw[if_neg hbf] at hg;exact⟨hg,hb.tells,hb.want,hb.aj⟩
theorem YT.start{y:YV}{C m:Nat}{cr:Nat→List (List UInt8)}(h:YT y C m cr){d:aS}(hr:d.root=y.kd.root)(hm:m<1000000000):YT (y.start d) C (m+1) cr:=by
 obtain⟨hg,_⟩:=h.yg.start hr hm;unfold YV.start at hg ⊢;split
 ·next h0 =>
  rw[if_pos h0] at hg
  obtain⟨hn,hfl⟩:newF y.s d=0∧d.kv.fault=0:=by
   unfold YV.mO at h0;split at h0
   ·cases h0
   ·split at h0
    ·cases h0
    ·split at h0
     ·next hf=>exact⟨h0,hf⟩
     ·next hf=>exact absurd h0 hf
  obtain⟨d1,_,d3,d4⟩:=fP y d;have hdk:=h.aj.aj h.yg.ok.top hfl;split
  ·next hd =>
   rw[if_pos hd] at hg;refine h.as hg d1 d3 (fun b hb _=>?_) hdk
   have hb':some ((iL y.s d).at 1)=some b:=hb;cases hb'
   show jd (y.aj d).s C _
   rw[d1];have hk:=wZ h.yg.ok.s hn;obtain⟨C',k1,k2,_⟩:=hk.jok
   have hC:C'=C:=by
    have hl:(y.s.walk d.root).1=y.l:=by rw[hr,h.yg.ok.ch.walk]
    rw[hl,h.yg.ok.ch.good.fV h.yg.ok.ch.ne] at k2;omega
   subst hC;exact(jd.new k1).as rfl rfl rfl rfl
  ·next hd =>
   rw[if_neg hd] at hg;exact h.as hg d1 d3 (fun j hj hgj=>by rw[d1];exact h.want j (by rw[← d4];exact hj) hgj) hdk
 ·next h0 =>
  rw[if_neg h0] at hg;exact⟨hg,h.tells,h.want,h.aj⟩
theorem YT.cancel{y:YV}{C m:Nat}{cr:Nat→List (List UInt8)}(h:YT y C m cr)(hm:m<1000000000):YT y.cancel C (m+1) cr:=by
 obtain⟨hg,_⟩:=h.yg.cancel hm;obtain⟨r0,r4⟩:=h.yg.ok.root;unfold YV.cancel at hg ⊢;split
 ·next hb =>
  rw[if_pos hb] at hg;unfold YV.over at hg ⊢;obtain⟨d1,_,d3,d4⟩:=fP y (ak y.kd.root);have hdk:=h.aj.aj h.yg.ok.top (jH r0 r4);split
  ·next hd =>
   rw[if_pos hd] at hg;refine h.as hg d1 (by show(y.s.walk y.kd.root).1=_;rw[h.yg.ok.ch.walk]) (fun b hb' hgj=>?_) hdk
   have hb2:(y.j.map fun j=>j.at 5)=some b:=hb'
   cases hj:y.j with
   | none=>rw[hj] at hb2;cases hb2
   | some j =>
    rw[hj] at hb2;have e:j.at 5=b:=Option.some.inj hb2;rw[← e] at hgj;exact absurd hgj (by show ¬(5:Int)<4;decide)
  ·next hd =>
   rw[if_neg hd] at hg;exact h.as hg d1 d3 (fun j hj hgj=>by rw[d1];exact h.want j (by rw[← d4];exact hj) hgj) hdk
 ·next hb =>
  rw[if_neg hb] at hg;exact⟨hg,h.tells,h.want,h.aj⟩
theorem YT.pause{y:YV}{C m:Nat}{cr:Nat→List (List UInt8)}(h:YT y C m cr)(on:Bool):YT (y.pause on) C m cr:=by
 obtain⟨hg,_⟩:=h.yg.pause on;unfold YV.pause at hg ⊢;split
 ·next hb =>
  rw[if_pos hb] at hg;refine⟨hg,h.tells,fun a ha hga=>?_,h.aj⟩
  cases hj:y.j with
  | none =>
   have ha':(y.j.map fun j=>gQ j on)=some a:=ha
   rw[hj] at ha';cases ha'
  | some j =>
   have ha':(y.j.map fun j=>gQ j on)=some a:=ha
   rw[hj] at ha';have e:gQ j on=a:=Option.some.inj ha'
   have hgj:j.stage<4:=by
    unfold YV.busy at hb;rw[hj] at hb;exact of_decide_eq_true hb
   have hp:(gQ j on).kind=j.kind∧(gQ j on).x=j.x∧(gQ j on).l=j.l∧(gQ j on).deep=j.deep:=by
    unfold gQ;split<;>split<;>exact⟨rfl,rfl,rfl,rfl⟩
   rw[← e];exact(h.want j hj hgj).as hp.1 hp.2.1 hp.2.2.1 hp.2.2.2
 ·next hb=>rw[if_neg hb] at hg;exact h
theorem YT.tick{y:YV}{C m:Nat}{cr:Nat→List (List UInt8)}(h:YT y C m cr)(n:Int):YT (y.tick n) C m cr:=by
 obtain⟨hg,_⟩:=h.yg.tick n;unfold YV.tick at hg ⊢;split
 ·next hb =>
  rw[if_pos hb] at hg;refine⟨hg,h.tells,fun a ha hga=>?_,h.aj⟩
  cases hj:y.j with
  | none =>
   have ha':(y.j.map fun j=>gG j n)=some a:=ha
   rw[hj] at ha';cases ha'
  | some j =>
   have ha':(y.j.map fun j=>gG j n)=some a:=ha
   rw[hj] at ha';have e:gG j n=a:=Option.some.inj ha'
   have hgj:j.stage<4:=by
    unfold YV.busy at hb;rw[hj] at hb;exact of_decide_eq_true hb
   have hp:(gG j n).kind=j.kind∧(gG j n).x=j.x∧(gG j n).l=j.l∧(gG j n).deep=j.deep:=by
    unfold gG
    first
     | exact⟨rfl,rfl,rfl,rfl⟩
     | (split<;>exact⟨rfl,rfl,rfl,rfl⟩)
   rw[← e];exact(h.want j hj hgj).as hp.1 hp.2.1 hp.2.2.1 hp.2.2.2
 ·next hb=>rw[if_neg hb] at hg;exact h
theorem YT.arm{y:YV}{C m:Nat}{cr:Nat→List (List UInt8)}(h:YT y C m cr)(f n:Int)(hn:n≤9223372036854775807):YT (y.arm f n) C m cr:=by
 obtain⟨hg,_⟩:=h.yg.arm f n hn;unfold YV.arm at hg ⊢;split
 ·next hx =>
  rw[if_pos hx] at hg;split
  ·next e=>rw[if_pos e] at hg;exact⟨hg,h.tells,h.want,h.aj.fail n⟩
  ·next e =>
   rw[if_neg e] at hg
   cases hs:y.s f.toNat with
   | none=>rw[hs] at hg;exact⟨hg,h.tells,h.want,h.aj⟩
   | some v =>
    rw[hs] at hg;simp only at hg ⊢
    have hfile:y.s.file f=some v:=by
     unfold SV.file;rw[if_pos ⟨by omega,hx.2.1⟩];exact hs
    refine⟨hg,h.tells.act hfile (fun hm=>pI h.yg.ok.ch.good h.yg.ok.s hm hfile) (fun _=>.fail v n) (fun _ _ e=>e) (fun _ k _=>.inl rfl),fun j hj hgj=>(h.want j hj hgj).yJ fun i _ c _=>?_,h.aj⟩
    show iF ((y.s.upd f.toNat _).file i) (c:Int)=_
    rw[SV.fM hfile];by_cases e2:i=f
    ·rw[if_pos e2,e2,hfile];rfl
    ·rw[if_neg e2]
 ·exact h
theorem IQ{t:ByteArray}(h:t.size=64){j:Nat}(hj:j<4):chunk t j≠[45]:=fun e=>by
 have h1:(chunk t j).length=16:=by
  rw[mX,List.length_take,List.length_drop];have:t.data.toList.length=64:=by rw[Array.length_toList];exact h
  omega
 rw[e] at h1;cases h1
theorem YT.moved{y:YV}{C m:Nat}{cr:Nat→List (List UInt8)}(h:YT y C m cr)(hm:m+10<1000000000){j:JV}(hj:y.j=some j)(hg:j.stage<4):aW (stepS y.s j) C y.l cr:=by
 have hgo:=h.yg.go hj hg;have hin:=h.yg.ok.job j hj hg;unfold stepS;split
 ·next hx =>
  obtain⟨k,e,hk,_⟩:=hgo.ok.pick hx.2.1;obtain⟨_,r2⟩:=hgo.ok.read hgo.sok hk;rw[e];unfold JV.moved;refine h.tells.move h.yg.ok.ch.good h.yg.ok.s h.yg.safe hm _ hk r2 fun i hi=>⟨IQ r2 hi,?_⟩
  rw[uH hgo.ok.good hgo.sok hgo.ok.ne hk hi,hin.lst];have:=h.tells.sec h.yg.ok.ch.good h.yg.ok.s (k:=4*k+i) (by omega)
  unfold SV.sec at this;rw[show(4*k+i) / 4=k by omega,show(4*k+i) % 4=i by omega] at this
  exact this
 ·exact h.tells
theorem YT.step{y:YV}{C m:Nat}{cr:Nat→List (List UInt8)}(h:YT y C m cr)(hm:m+30<1000000000):YT y.step C (m+21) cr:=by
 obtain⟨hg,_⟩:=h.yg.step hm;obtain⟨r0,r4⟩:=h.yg.ok.root
 cases hj:y.j with
 | none =>
  have e:y.step=y:=by unfold YV.step;rw[hj]
  rw[e] at hg ⊢;exact⟨hg,h.tells,h.want,h.aj⟩
 | some j =>
  by_cases hx:4≤j.stage
  ·have e:y.step=y:=by unfold YV.step;rw[hj];simp only;rw[if_pos hx]
   rw[e] at hg ⊢;exact⟨hg,h.tells,h.want,h.aj⟩
  ·have hgj:j.stage<4:=by omega
   have hgo:=h.yg.go hj hgj;have hin:=h.yg.ok.job j hj hgj;have hz:=h.yg.safe.step h.yg.ok.s (show m+10≤1000000000 by omega) j
   have hzok:=h.yg.ok.s.step j (show m+10≤1000000000 by omega)
   have ht:=h.moved (by omega) hj hgj
   have hnw:=fun hst=>(h.want j hj hgj).step hgo (by omega) hst
   have est:y.step=(if eU y.s j≠0 then (if (stepJ y.s j).stage=5 then ({ y with s:=stepS y.s j,j:=some (stepJ y.s j) }:YV).aj (ak y.kd.root) else { y with s:=stepS y.s j,j:=some (stepJ y.s j) })
     else if y.kd.kind≠2∨(stepJ y.s j).state≠3 then { y with s:=stepS y.s j,j:=some (stepJ y.s j) }
     else if dH (stepS y.s j) (stepJ y.s j)≠0 then ({ y with s:=aF (stepS y.s j) (stepJ y.s j),j:=some (aK (stepS y.s j) (stepJ y.s j)) }:YV).aj (ak y.kd.root)
     else { ({ y with s:=aF (stepS y.s j) (stepJ y.s j),l:=((aF (stepS y.s j) (stepJ y.s j)).walk y.kd.root).1,j:=some ((aK (stepS y.s j) (stepJ y.s j)).at 4) }:YV).aj (ak y.kd.root) with kd:=ak y.kd.root }):=by
    unfold YV.step;rw[hj];simp only
    rw[if_neg hx]
   have plain:∀(Y:YV),Y.s=stepS y.s j→Y.l=y.l→Y.j=some (stepJ y.s j)→jD Y.top Y.kd.root→YG Y C (m+21)→YT Y C (m+21) cr:=fun Y e1 e2 e3 hd hY=>by
    refine⟨hY,by rw[e1,e2];exact ht,fun b hb hgb=>?_,hd⟩
    rw[e3] at hb;cases hb
    rw[e1];exact hnw hgb
   rw[est] at hg ⊢;clear est;split
   ·next c1 =>
    rw[if_pos c1] at hg;split
    ·next c2 =>
     rw[if_pos c2] at hg;obtain⟨d1,_,d3,d4⟩:=fP { y with s:=stepS y.s j,j:=some (stepJ y.s j) } (ak y.kd.root)
     exact plain _ d1 d3 d4 (jD.aj (y:={ y with s:=stepS y.s j,j:=some (stepJ y.s j) }) h.aj h.yg.ok.top (jH r0 r4)) hg
    ·next c2=>rw[if_neg c2] at hg;exact plain _ rfl rfl rfl h.aj hg
   ·next c1 =>
    rw[if_neg c1] at hg;split
    ·next c2=>rw[if_pos c2] at hg;exact plain _ rfl rfl rfl h.aj hg
    ·next c2 =>
     rw[if_neg c2] at hg;rw[not_or] at c2;have hk2:y.kd.kind=2:=Classical.byContradiction c2.1;have hs3:(stepJ y.s j).state=3:=Classical.byContradiction c2.2
     have hst:(stepJ y.s j).stage<4:=by
      unfold JV.state at hs3;split at hs3
      ·next e=>omega
      ·omega
     have hla:(stepJ y.s j).l=y.l:=(iO y.s j).1.trans hin.lst;have hka:iq (stepJ y.s j)=y.kd:=(iO y.s j).2.trans hin.dsk;have hcz:Chain (stepS y.s j) C y.kd.root y.l:=h.yg.ok.ch.over (.step _ _ _);have hcnt:S4.cnt (stepJ y.s j).x 64=0:=Ap hs3 (hin.ok.step).stage
     have hmid:YG { y with s:=stepS y.s j,j:=some (stepJ y.s j) } C (m+21):=by
      have hh:=h.yg.job j hj hgj;refine⟨h.yg.ok.over (hzok.more (by omega)) (fun l=>.step l _ _) (by omega) (fun a ha _=>?_) (fun a ha=>?_),hz,fun a ha hga=>?_⟩
      ·cases ha;exact hin.as (fun l=>.step l _ _) hin.ok.step (iO _ _).1 (iO _ _).2
      ·cases ha;exact hin.ok.step.qm
      ·cases ha
       exact hh.as (Aq hgo (by omega) hh.same hga) (iO _ _).1 (iO _ _).2 (xX _ _)
     have hgo2:=hmid.go rfl hst;have hw2:=hnw hst;generalize ea:stepJ y.s j=a at hg hs3 hla hka hst hcnt hgo2 hw2 ⊢;generalize ez:stepS y.s j=z at hg hcz hz hzok ht hgo2 hw2 ⊢;have ha2:a.kind=2:=by rw[← hk2,← hka];rfl
     have hhd:a.l.headD 0=y.kd.root:=by
      obtain⟨r,e⟩:=hcz.head;rw[hla,e];rfl
     have hinto:a.into=y.kd.root:=by unfold JV.into;rw[if_pos ha2];exact hhd
     obtain⟨es,ef⟩:=uU (s:=z) hs3 ha2;rw[hhd] at es ef;rw[ef,es] at hg ⊢;split
     ·next hf =>
      rw[if_pos hf] at hg;have hJ:=uT (s:=z) hs3 ha2 (by rw[hhd];exact hf)
      rw[hJ] at hg ⊢;obtain⟨d1,_,d3,d4⟩:=fP { y with s:=(bI z y.kd.root a.file).1,j:=some (a.at 5) } (ak y.kd.root)
      refine⟨hg,by rw[d1,d3];exact ht.link hcz.good hzok hz (by omega) _ _,fun b hb hgb=>?_,jD.aj (y:={ y with s:=(bI z y.kd.root a.file).1,j:=some (a.at 5) }) h.aj h.yg.ok.top (jH r0 r4)⟩
      rw[d4] at hb;cases hb
      exact absurd hgb (by show ¬(5:Int)<4;decide)
     ·next hf =>
      rw[if_neg hf] at hg;have hf0:(bI z y.kd.root a.file).2=0:=Classical.byContradiction hf;have hJ:=xP (s:=z) (j:=a) (by rw[hhd];exact hf0)
      rw[hJ] at hg ⊢
      have hwq:((bI z y.kd.root a.file).1.walk y.kd.root).1=bV a:=by
       have hhm:=hmid.job _ rfl (by rw[ea];exact hst)
       rw[ea,ez] at hhm;have hcl:Chain z C y.kd.root a.l:=by rw[hla];exact hcz
       rw[(Ar hcl ha2 (hhm.str ha2) (hhm.str2 ha2) hf0).walk]
      rw[hwq] at hg ⊢;obtain⟨d1,_,d3,d4⟩:=fP { y with s:=(bI z y.kd.root a.file).1,l:=bV a,j:=some (a.at 4) } (ak y.kd.root)
      have hdk:=jD.aj (y:={ y with s:=(bI z y.kd.root a.file).1,l:=bV a,j:=some (a.at 4) }) h.aj h.yg.ok.top (jH r0 r4)
      refine⟨hg,?_,fun b hb hgb=>?_,?_⟩
      ·show aW (YV.aj _ _).s C (YV.aj _ _).l cr
       rw[d1,d3];have hsm:=aW.streamed (b:=a.file) (show aW z C a.l cr by rw[hla];exact ht) hgo2 hz (by omega) ha2 hw2 hcnt (by have:=hin.ok.c40;omega) (by rw[hinto];exact hf0)
       rw[hinto] at hsm;exact hsm
      ·have hb':(YV.aj _ _).j=some b:=hb
       rw[d4] at hb';cases hb'
       exact absurd hgb (by show ¬(4:Int)<4;decide)
      ·show jD (YV.aj _ _).top y.kd.root
       have e:(({ y with s:=(bI z y.kd.root a.file).1,l:=bV a,j:=some (a.at 4) }:YV).aj (ak y.kd.root)).kd.root=y.kd.root:=by
        unfold YV.aj;split<;>rfl
       rw[e] at hdk;exact hdk
theorem YT.pivot{y:YV}{C m:Nat}{cr:Nat→List (List UInt8)}(h:YT y C m cr)(hm:m+20<1000000000):YT y.pivot C (m+11) cr:=by
 obtain⟨hg,hv⟩:=h.yg.pivot hm
 cases hj:y.j with
 | none =>
  have e:y.pivot=y:=by unfold YV.pivot;rw[hj]
  rw[e] at hg ⊢;exact⟨hg,h.tells,h.want,h.aj⟩
 | some j =>
  by_cases hx:4≤j.stage∨y.kd.kind=2
  ·have e:y.pivot=y:=by unfold YV.pivot;rw[hj];simp only;rw[if_pos hx]
   rw[e] at hg ⊢;exact⟨hg,h.tells,h.want,h.aj⟩
  ·have est:y.pivot=(if dH y.s j≠0 then { y with s:=aF y.s j,j:=some (aK y.s j) } else ({ y with s:=aF y.s j,j:=some (aK y.s j) }:YV).over y.kd.file 4):=by
    unfold YV.pivot;rw[hj];simp only
    rw[if_neg hx]
   rw[not_or] at hx;have hgj:j.stage<4:=by omega
   have hgo:=h.yg.go hj hgj;have hin:=h.yg.ok.job j hj hgj;have hk:j.kind=y.kd.kind:=by rw[← hin.dsk];rfl
   have hkf:y.kd.file=j.file:=by rw[← hin.dsk];rfl
   have hj2:j.kind≠2:=by rw[hk];exact hx.2
   have hJ:aK y.s j=j:=by
    unfold aK;rw[if_neg (fun e=>hj2 e.2.1)]
   have hts:aW (aF y.s j) C y.l cr:=by
    unfold aF;split
    ·exact aW.bQ _ h.tells h.yg.ok.ch.good h.yg.ok.s h.yg.safe
    ·exact h.tells
   rw[est,hJ] at hg hv ⊢;clear est;split
   ·next hf =>
    rw[if_pos hf] at hg;refine⟨hg,hts,fun b hb _=>?_,h.aj⟩
    cases hb;exact .uy hj2
   ·next hf =>
    rw[if_neg hf] at hg hv;have hf0:dH y.s j=0:=Classical.byContradiction hf
    have hs3:j.state=3:=by
     unfold dH at hf0;split at hf0
     ·next e=>exact e
     ·cases hf0
    unfold YV.over at hg hv ⊢;obtain⟨d1,_,d3,d4⟩:=fP { y with s:=aF y.s j,j:=some j } (ak y.kd.file)
    have hff:0≤y.kd.file∧y.kd.file≤4:=by
     obtain⟨v,hv1⟩:=hin.ok.file hj2;have:=SV.dJ hv1
     rw[hkf];omega
    have hdk:=jD.aj (y:={ y with s:=aF y.s j,j:=some j }) h.aj h.yg.ok.top (jH hff.1 hff.2)
    split
    ·next hd =>
     rw[if_pos hd] at hg hv;refine⟨hg,?_,fun b hb hgb=>?_,hdk⟩
     ·have hch:=hg.ok.ch
      have hso:=hg.ok.s;have hes:({ ({ y with s:=aF y.s j,j:=some j }:YV).aj (ak y.kd.file) with j:=(some j).map fun j=>j.at 4,l:=((aF y.s j).walk y.kd.file).1 }:YV).s=aF y.s j:=d1
      have hset:aF y.s j=y.s.bQ (y.s.walk j.file).1:=by
       unfold aF;rw[if_pos hs3,if_neg hj2]
      have hbk:j.kind=1→∀ v,y.s.file j.file=some v→v.h.b = -1:=fun e v hv1=>by
       obtain⟨u,h1,h3,_⟩:=hin.tgt.mir (by rw[← hk];exact e)
       rw[hkf,hv1] at h1;cases h1;exact h3
      have hcj:Chain y.s C y.kd.root j.l:=by rw[hin.lst];exact h.yg.ok.ch
      have hp0:=hgo.pivots hcj hj2 hbk
      have hp:Chain (aF y.s j) C j.file (bV j):=by
       rw[hset];exact hp0.over (.bQ _ _ _)
      have hw:((aF y.s j).walk y.kd.file).1=bV j:=by rw[hkf,hp.walk]
      show aW (YV.aj _ _).s C ((aF y.s j).walk y.kd.file).1 cr
      rw[d1,hw];show aW (aF y.s j) C (bV j) cr
      rw[hset,hp0.walk];refine aW.flushed hp0.good h.yg.ok.s h.yg.safe fun k hk1=>?_
      have h1:=(h.yg.job j hj hgj).same.done (Ap hs3 hin.ok.stage) (by have:=hin.ok.c40;omega) (c:=k / 4) (i:=k % 4) (by omega) (by omega)
      show y.s.view (k / 4) (k % 4) (bV j)∈cr k
      rw[h1,hin.lst];exact h.tells.sec h.yg.ok.ch.good h.yg.ok.s hk1
     ·have hb':some (j.at 4)=some b:=hb
      cases hb'
      exact absurd hgb (by show ¬(4:Int)<4;decide)
    ·next hd =>
     rw[if_neg hd] at hg hv;refine⟨hg,by rw[d1,d3];exact hts,fun b hb _=>?_,hdk⟩
     rw[d4] at hb;cases hb
     exact .uy hj2
end Go.Proofs.YtonhoahnieoebabGreatDoor
