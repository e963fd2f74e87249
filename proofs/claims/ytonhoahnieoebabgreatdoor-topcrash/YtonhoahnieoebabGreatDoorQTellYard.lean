/- A stream: what is not left is not wanted (H2), behind each act: its root has the cluster, or no file above the one that it goes to. -/
import Derived.Test.YtonhoahnieoebabGreatDoorQTellPlain
namespace Go.Proofs.YtonhoahnieoebabGreatDoor
open Go.RowKit
def iP(s:SV)(C:Nat)(j:JV):Prop:=j.kind=2→∀ c,c<C→j.x.testBit c=false→¬0<s.found j.above (c:Int)
structure Up(s z:SV)(n:Int):Prop where
 other:∀ k,k≠n→z.file k=s.file k
 up:∀ v,s.file n=some v→∃ u,z.file n=some u∧∀ c,(u.t.getD c (0,0)).1=0→(v.t.getD c (0,0)).1=0
theorem Up.refl(s:SV)(n:Int):Up s s n:=⟨fun _ _=>rfl,fun v hv=>⟨v,hv,fun _ h=>h⟩⟩
theorem Up.trans{s z w:SV}{n:Int}(h:Up s z n)(k:Up z w n):Up s w n :=
 ⟨fun i hi=>(k.other i hi).trans (h.other i hi),fun v hv=>by
  obtain⟨u,h1,h2⟩:=h.up v hv
  obtain⟨t,h3,h4⟩:=k.up u h1
  exact⟨t,h3,fun c e=>h2 c (h4 c e)⟩⟩
theorem Up.set{s:SV}{n:Int}{v u:IV}(hf:s.file n=some v)(h0:∀ c,(u.t.getD c (0,0)).1=0→(v.t.getD c (0,0)).1=0):Up s (s.upd n.toNat u) n :=
 ⟨fun k hk=>by rw[SV.fJ hf,if_neg hk],fun w hw=>by
  rw[hf] at hw
  cases hw
  exact⟨u,by rw[SV.fJ hf,if_pos rfl],h0⟩⟩
theorem Up.lay(s:SV)(n:Int)(r:List Int)(c f:Nat)(t:ByteArray):Up s (s.lay (n::r) c f t).1 n:=by
 unfold SV.lay
 simp only
 split
 ·exact .refl _ _
 ·next v hf =>
  split
  ·exact .set hf fun _=>Ew
  ·exact .set hf fun _=>FD
theorem Up.bM(s:SV)(n:Int)(r:List Int)(p:Pt):Up s (SV.bM (n::r) s p).1 n:=by
 unfold SV.bM
 simp only
 split
 ·exact .refl _ _
 ·next v hf =>
  split
  ·exact .set hf fun _=>DU
  ·split
   ·exact .refl _ _
   ·exact .lay _ _ _ _ _ _
theorem Up.dY{op:SV→Pt→SV × Int}{n:Int}(hop:∀(s:SV) p,Up s (op s p).1 n):∀(P:List Pt) (s:SV),Up s (dY op s P).1 n:=by
 intro P
 induction P with
 | nil=>intro s;exact .refl _ _
 | cons p r ih =>
  intro s
  rw[nM]
  split
  ·exact(hop s p).trans (ih _)
  ·exact hop s p
theorem Up.put(s:SV)(n:Int)(r:List Int)(fr:Int)(t:ByteArray):Up s (s.put (n::r) fr t).1 n:=by
 unfold SV.put
 split
 ·split
  ·exact Up.dY (fun s p=>.lay _ _ _ _ _ _) _ _
  ·exact .refl _ _
 ·exact .refl _ _
theorem Up.wipe(s:SV)(n:Int)(r:List Int)(fr N:Int):Up s (s.wipe (n::r) fr N).1 n:=by
 unfold SV.wipe
 split
 ·exact Up.dY (fun s p=>.bM _ _ _ _) _ _
 ·exact .refl _ _
theorem qx(v:IV)(c:Nat):iE (some v) (c:Int)=(v.t.getD c (0,0)).1:=by
 show(v.bH (c:Int)).1=_
 rw[kJ]
theorem Aj{s z:SV}{c:Int}:∀(l:List Int) (k:Nat),(∀ n∈l,iE (z.file n) c=iE (s.file n) c)→z.fF c l k=s.fF c l k:=by
 intro l
 induction l with
 | nil=>intro k _;rfl
 | cons n r ih =>
  intro k h
  show(if iE (z.file n) c=0 then z.fF c r (k+1) else (k:Int))=(if iE (s.file n) c=0 then s.fF c r (k+1) else (k:Int))
  rw[h n List.mem_cons_self,ih (k+1) fun i hi=>h i (List.mem_cons_of_mem _ hi)]
theorem Iz{s z:SV}{n:Int}{r:List Int}{v:IV}(h:Up s z n)(hf:s.file n=some v)(hn:n ∉ r)(c:Nat):0<z.found (n::r) (c:Int)→0<s.found (n::r) (c:Int):=by
 obtain⟨u,h1,h2⟩:=h.up v hf
 unfold SV.found SV.fF
 rw[h1,hf,qx,qx]
 have e:z.fF (c:Int) r 1=s.fF (c:Int) r 1:=Aj r 1 fun i hi=>by rw[h.other i (fun e=>hn (e▸hi))]
 by_cases e0:(u.t.getD c (0,0)).1=0
 ·rw[if_pos e0,if_pos (h2 c e0),e];exact id
 ·rw[if_neg e0];intro h3;exact absurd h3 (by omega)
theorem Az{s:SV}{C m:Nat}{j:JV}(h:JGo s C m j)(h2:j.kind=2):∃ n r v,j.l=n::r∧j.above=n::r.take (j.deep-1)∧s.file n=some v∧v.t.length=C∧n ∉ r∧j.into=n∧j.l.drop j.deep=r.drop (j.deep-1):=by
 obtain⟨n,r,v,hl,hf,hc⟩:=h.ok.root
 obtain⟨k,hk⟩:∃ k,j.deep=k+1:=⟨j.deep-1,by have:=h.str h2;omega⟩
 have hnd:=h.nodup
 rw[hl] at hnd
 refine⟨n,r,v,hl,?_,hf,?_,(List.nodup_cons.1 hnd).1,?_,?_⟩
 ·unfold JV.above
  rw[hk,hl];rfl
 ·have:=(h.sok _ _ (SV.dK hf).2.2).len
  omega
 ·unfold JV.into
  rw[if_pos h2,hl];rfl
 ·rw[hk,hl];rfl
theorem iP.up{s z:SV}{C m:Nat}{j:JV}(h:iP s C j)(hg:JGo s C m j){n:Int}{r:List Int}(hl:j.l=n::r)(hu:Up s z n):iP z C j:=fun h2 c hc hb=>by
 obtain⟨n',r',v,e1,e2,e3,e4,e5,_⟩:=Az hg h2
 rw[hl] at e1
 cases e1
 have h0:=h h2 c hc hb
 rw[e2] at h0 ⊢
 exact fun h3=>h0 (Iz hu e3 (fun e=>e5 (List.mem_of_mem_take e)) c h3)
theorem iP.yG{s z:SV}{C:Nat}{j:JV}(h:iP s C j)(hz:∀ n∈j.l,∀ c,c<C→iE (z.file n) (c:Int)=iE (s.file n) (c:Int)):iP z C j:=fun h2 c hc hb=>by
 have h0:=h h2 c hc hb
 unfold SV.found at h0 ⊢
 have e:z.fF (c:Int) j.above 0=s.fF (c:Int) j.above 0:=Aj _ _ fun n hn=>hz n (List.mem_of_mem_take (i:=j.deep) hn) c hc
 rw[e]
 exact h0
theorem iP.as{s:SV}{C:Nat}{j a:JV}(h:iP s C j)(hk:a.kind=j.kind)(hx:a.x=j.x)(hl:a.l=j.l)(hd:a.deep=j.deep):iP s C a:=fun h2 c hc hb=>by
 have:=h (hk▸h2) c hc (hx▸hb)
 unfold JV.above at this ⊢
 rw[hl,hd]
 exact this
theorem iP.sS{s:SV}{C:Nat}{j:JV}(h:j.kind≠2):iP s C j:=fun e=>absurd e h
theorem iP.new{s:SV}{d:aT}{C:Nat}(h:JOk s C (dW s d)):iP s C (iI s d):=fun h2 c hc hb=>by
 have hn:(dW s d).n=C:=h.n
 have h1:=Gu s (dW s d) (dW s d).n (Nat.le_refl _) c (by rw[hn];exact hc)
 have hb':(jY s (dW s d) (dW s d).n).testBit c=false:=hb
 rw[h1] at hb'
 have h2':(dW s d).kind=2:=h2
 unfold JV.fA at hb'
 rw[if_neg (by omega),if_pos h2'] at hb'
 exact of_decide_eq_false hb'
theorem DI{j:JV}(h:j.kind=2)(fr:Nat):∀ k,dF j fr k=j:=by
 intro k
 induction k with
 | zero=>rfl
 | succ k ih =>
  show dA (dF j fr k) _=j
  rw[ih]
  unfold dA
  rw[if_pos (.inl h)]
theorem iP.step{s:SV}{C m:Nat}{j:JV}(h:iP s C j)(hg:JGo s C m j)(hm:m+10≤1000000000)(hst:(stepJ s j).stage<4):iP (stepS s j) C (stepJ s j):=by
 by_cases h2:j.kind=2
 ·obtain⟨n,r,v,el,ea,hf,hvl,hn,ei,_⟩:=Az hg h2
  unfold stepJ at hst ⊢
  unfold stepS
  by_cases h1:j.stage=1∧j.some=true∧S4.inB 4 j.lv=true
  ·rw[if_pos h1] at hst ⊢
   by_cases hw:j.fA s j.pick=true
   ·rw[if_pos ⟨h1.1,h1.2.1,h1.2.2,hw⟩]
    by_cases hF:(j.moved s j.pick).2≠0
    ·rw[if_pos ⟨hw,hF⟩] at hst
     exact absurd hst (by show ¬(5:Int)<4;decide)
    ·rw[if_neg (fun e=>hF e.2)]
     have hF0:(j.moved s j.pick).2=0:=Classical.byContradiction hF
     obtain⟨p,hp,hpC,_⟩:=hg.ok.pick h1.2.1
     rw[hp] at hF0 ⊢
     intro _ c hc hb
     have hab:(j.went (p:Int)).above=n::r.take (j.deep-1):=ea
     rw[hab]
     obtain⟨_,hrd⟩:=hg.ok.read hg.sok hpC
     have hvo:=hg.sok _ _ (SV.dK hf).2.2
     have hgt:=hg.tab _ _ hf
     unfold JV.moved at hF0 ⊢
     rw[ei,qI hf] at hF0 ⊢
     by_cases e:c=p
     ·subst e
      have h0:=(wV hvo hgt hm (by rw[hvl];exact hpC) hrd hF0 (j:=0) (by omega)).1
      unfold SV.found SV.fF
      rw[show(s.upd n.toNat (v.mv (c:Int) (s.read j.l (c:Int)).1).1).file n=some (v.mv (c:Int) (s.read j.l (c:Int)).1).1 by rw[SV.fJ hf,if_pos rfl],qx,if_neg h0]
      omega
     ·have hb':(S4.eY j.n j.x (p:Int) false).testBit c=false:=hb
      rw[S4.oQ,if_neg (fun x=>e (by have:=x.2;omega))] at hb'
      have h0:=h h2 c hc hb'
      rw[ea] at h0
      unfold SV.found at h0 ⊢
      rw[Aj _ _ fun i hi=>?_]
      ·exact h0
      ·by_cases ein:i=n
       ·rw[ein,SV.fJ hf,if_pos rfl,hf,qx,qx]
        exact(zl hvo hgt hm (by rw[hvl];exact hpC) hrd (fun e2=>e e2.symm) (by rw[hvl];exact hc) (j:=0) (by omega)).1
       ·rw[SV.fJ hf,if_neg ein]
   ·rw[if_neg (fun e=>hw e.2.2.2),if_neg (fun e=>hw e.1)]
    obtain⟨p,hp,hpC,_⟩:=hg.ok.pick h1.2.1
    rw[hp] at hw ⊢
    intro _ c hc hb
    by_cases e:c=p
    ·subst e
     unfold JV.fA at hw
     rw[if_neg (by omega),if_pos h2] at hw
     intro h3
     exact hw (decide_eq_true h3)
    ·have hb':(S4.eY j.n j.x (p:Int) false).testBit c=false:=hb
     rw[S4.oQ,if_neg (fun x=>e (by have:=x.2;omega))] at hb'
     exact h h2 c hc hb'
  ·rw[if_neg h1] at hst ⊢
   rw[if_neg (fun e=>h1 ⟨e.1,e.2.1,e.2.2.1⟩)]
   exact h
 ·refine .sS fun e=>h2 ?_
  have:=congrArg aT.kind (jT s j).2
  rw[← e]
  exact this.symm
theorem Lj{h:HV}{acc:List (Int × Int)}{s:ByteArray}(hl:(acc.length:Int)≤h.c):∀(i:Nat) (a:List (Int × Int)),gI h acc s i=some a→(∃ q,a=acc++q)∧(a.length:Int)=min h.c (acc.length+i)∧∀ k,k<i→gV s k=a.getD (acc.length+k) (0,0):=by
 intro i
 induction i with
 | zero=>intro a e;cases e;exact⟨⟨[],by simp⟩,by omega,fun k hk=>by omega⟩
 | succ i ih =>
  intro a e
  cases e2:gI h acc s i with
  | none=>rw[yD e2 (i+1) (by omega)] at e;cases e
  | some x =>
   rw[uO e2] at e
   obtain⟨⟨q,hq⟩,h2,h3⟩:=ih x e2
   unfold stepT at e
   split at e
   ·next hx =>
    split at e
    ·next h0 =>
     cases e
     refine⟨⟨q,hq⟩,by omega,fun k hk=>?_⟩
     by_cases ek:k=i
     ·subst ek
      rw[h0,List.getD_eq_getElem?_getD,List.getElem?_eq_none (by omega)];rfl
     ·exact h3 k (by omega)
    ·cases e
   ·next hx =>
    split at e
    ·cases e
     refine⟨⟨q++[gV s i],by rw[hq,List.append_assoc]⟩,by rw[List.length_append];simp;omega,fun k hk=>?_⟩
     have hxl:x.length=acc.length+i:=by omega
     by_cases ek:k=i
     ·subst ek
      rw[← hxl,List.getD_eq_getElem?_getD,List.getElem?_append_right (Nat.le_refl _)];simp
     ·rw[h3 k (by omega),List.getD_eq_getElem?_getD,List.getD_eq_getElem?_getD,List.getElem?_append_left (by omega)]
    ·cases e
theorem Kz{h:HV}{rows:List ByteArray}(h0:0≤h.c):∀ j,(bW h rows j).2=0→∀ r,r<j→(rows.getD r ByteArray.empty).size=16∧∀ k,k<8→gV (rows.getD r ByteArray.empty) k=(bW h rows j).1.getD (8*r+k) (0,0):=by
 intro j
 induction j with
 | zero=>intro _ r hr;omega
 | succ j ih =>
  intro e r hr
  by_cases e0:(bW h rows j).2=0
  ·obtain⟨_,h2⟩:=F7 h0 j e0
   by_cases hs:(rows.getD j ByteArray.empty).size=16
   ·cases hrw:gI h (bW h rows j).1 (rows.getD j ByteArray.empty) 8 with
    | none=>rw[Ad e0 hs hrw] at e;cases e
    | some a =>
     obtain⟨⟨q,hq⟩,h4,h5⟩:=Lj (by omega) 8 a hrw
     rw[xW e0 hs hrw]
     by_cases er:r=j
     ·subst er
      refine⟨hs,fun k hk=>?_⟩
      rw[h5 k hk]
      show a.getD ((bW h rows r).1.length+k) (0,0)=a.getD (8*r+k) (0,0)
      by_cases hfull:8*(r:Int)≤h.c
      ·rw[show(bW h rows r).1.length=8*r by omega]
      ·rw[List.getD_eq_getElem?_getD,List.getD_eq_getElem?_getD,List.getElem?_eq_none (by omega),List.getElem?_eq_none (by omega)]
     ·obtain⟨h6,h7⟩:=ih e0 r (by omega)
      refine⟨h6,fun k hk=>?_⟩
      rw[h7 k hk]
      show _=a.getD (8*r+k) (0,0)
      by_cases hin:8*r+k<(bW h rows j).1.length
      ·rw[hq,List.getD_eq_getElem?_getD,List.getD_eq_getElem?_getD,List.getElem?_append_left hin]
      ·rw[List.getD_eq_getElem?_getD,List.getD_eq_getElem?_getD,List.getElem?_eq_none (by omega),List.getElem?_eq_none (by omega)]
   ·rw[Ba e0 hs] at e;cases e
  ·have:bW h rows (j+1)=([],(bW h rows j).2):=by
    show(if (bW h rows j).2=0 then _ else _)=_
    rw[if_neg e0]
   rw[this] at e
   exact absurd e e0
theorem Qj{a b:ByteArray}(ha:a.size=16)(hb:b.size=16)(h:∀ i,i<8→gV a i=gV b i):a=b:=by
 have hA:a.data.toList.length=16:=by rw[Array.length_toList];exact ha
 have hB:b.data.toList.length=16:=by rw[Array.length_toList];exact hb
 have key:∀ i,i<16→a.data.toList.getD i 0=b.data.toList.getD i 0:=fun i hi=>by
  have h1:=h (i / 2) (by omega)
  unfold gV bAt at h1
  have h2:=congrArg Prod.fst h1
  have h3:=congrArg Prod.snd h1
  simp only at h2 h3
  apply UInt8.toNat_inj.1
  by_cases e:i % 2=0
  ·rw[show i / 2*2=i by omega] at h2;omega
  ·rw[show i / 2*2+1=i by omega] at h3;omega
 have hl:a.data.toList=b.data.toList:=by
  apply List.ext_getElem?
  intro i
  by_cases hi:i<16
  ·have h1:=key i hi
   rw[List.getD_eq_getElem?_getD,List.getD_eq_getElem?_getD,List.getElem?_eq_getElem (by omega),List.getElem?_eq_getElem (by omega)] at h1
   rw[List.getElem?_eq_getElem (by omega),List.getElem?_eq_getElem (by omega)]
   exact congrArg some h1
  ·rw[List.getElem?_eq_none (by omega),List.getElem?_eq_none (by omega)]
 cases a;cases b
 congr 1
 exact Array.toList_inj.1 hl
theorem Qd{d:DV}{m:Nat}(hd:d.fine d.fl.length m)(hf:fG d=0):d.seen.getD 0 []=(aU (aV d).bytes).data.toList∧∀ r,r<aA (fQ d).t.length→d.seen.getD (1+r) []=(dG (fQ d).t (r:Int)).data.toList:=by
 obtain⟨hok,hgood⟩:=Ar hd hf
 have hf2:=hf
 unfold fG at hf2
 split at hf2
 ·next h1 =>
  split at hf2
  ·cases hf2
  ·next h2 =>
   refine⟨?_,fun r hr=>?_⟩
   ·unfold gX at h1
    split at h1
    ·next hs =>
     split at h1
     ·next hg =>
      have e:aV d=kX (bytesOf (d.seen.getD 0 [])):=by unfold aV iT;rw[if_pos ⟨hs,hg⟩]
      unfold mG at hg
      rw[Bool.and_eq_true] at hg
      have h3:=eq_of_beq hg.2
      rw[ByteArray.toList_eq,ByteArray.toList_eq] at h3
      rw[e,h3]
      simp[bytesOf]
     ·cases h1
    ·next hs=>exact absurd h1 hs
   ·obtain⟨h3,h4,h5,h6⟩:=Bj hf2
    have hb:=HV.eH h3
    have htl:((fQ d).t.length:Int)=(aV d).c:=h6
    have hin:lI (aV d) (fV d)=true:=by
     unfold iC at hf2
     split at hf2
     ·next hi=>exact hi
     ·cases hf2
    have hf3:(bW (aV d) (fV d) (fV d).length).2=0:=by
     unfold iC at hf2;rw[if_pos hin] at hf2;exact hf2
    have ht:(fQ d).t=(bW (aV d) (fV d) (fV d).length).1:=by
     show dZ (aV d) (fV d)=_
     unfold dZ;rw[if_pos hin]
    have hrn:(aV d).c.toNat=(fQ d).t.length:=by omega
    have hr2:r<(fV d).length:=by rw[h4,hrn];exact hr
    obtain⟨s1,s2⟩:=Kz (by omega) _ hf3 r hr2
    have er:(fV d).getD r ByteArray.empty=lZ d r:=by
     unfold fV
     rw[List.getD_eq_getElem?_getD,List.getElem?_map,List.getElem?_range (by rw[hrn];exact hr)];rfl
    rw[er] at s1 s2
    have hent:∀ c,bP ((fQ d).t.getD c (0,0)).1 ((fQ d).t.getD c (0,0)).2 (aV d).p=true:=fun c=>hgood.at c
    have e2:lZ d r=dG (fQ d).t (r:Int):=Qj s1 (qQ h3 htl (fun e he=>hgood.ents e he) r hr).2 (fun i hi=>by
     rw[s2 i hi,tH h3 htl hent hr hi,ht,show r*8+i=8*r+i by omega])
    rw[← e2]
    unfold lZ
    simp[bytesOf]
 ·next h1=>exact absurd hf2 h1
def DV.flat(d:DV):Prop:=∀ i s,d.ver i s→s=d.seen.getD i []
theorem Sz(l:List (List UInt8))(wr:Nat):(DV.made l wr).flat:=fun i s h=>by
 rcases h with h|⟨x,hx,_⟩
 ·exact h
 ·cases hx
theorem Ce{d:DV}{m:Nat}(hd:d.fine d.fl.length m)(hf:fG d=0)(hp:d.flat):Safe (fQ d) (fQ d).t:=by
 obtain⟨hok,hgood⟩:=Ar hd hf
 obtain⟨h1,h2⟩:=Qd hd hf
 exact⟨hgood,Sub.refl _,fun s hs=>(hp 0 s hs).trans h1,fun r hr s hs=>⟨_,Sub.refl _,(hp (1+r) s hs).trans (h2 r hr)⟩,h2⟩
def mX(s:SV)(n:Int):Prop:=∃ w U m,s.file n=some (IV.flush w)∧Safe w U∧w.ok m
theorem mX.cZ{s:SV}{n:Int}(h:mX s n)(k:Int):mX (s.cZ k) n:=by
 obtain⟨w,U,m,h1,h2,h3⟩:=h
 unfold SV.cZ
 split
 ·exact⟨w,U,m,h1,h2,h3⟩
 ·next v hf =>
  by_cases e:n=k
  ·subst e
   rw[h1] at hf
   cases hf
   exact⟨w.flush,w.t,m,by rw[SV.fJ h1,if_pos rfl],h2.flush h3.d.sn,h3.flush⟩
  ·exact⟨w,U,m,by rw[SV.fJ hf,if_neg e];exact h1,h2,h3⟩
theorem Qr{s:SV}{m:Nat}(hok:s.ok m)(hS:aZ s){n:Int}{v:IV}(hf:s.file n=some v):mX (s.cZ n) n:=by
 obtain⟨U,hs⟩:=hS.file hf
 unfold SV.cZ
 rw[hf]
 exact⟨v,U,m,by show(s.upd n.toNat v.flush).file n=_;rw[SV.fJ hf,if_pos rfl],hs,hok.file hf⟩
theorem mX.bV{n:Int}:∀(q:List Int) {s:SV},mX s n→mX (s.bV q) n:=by
 intro q
 induction q with
 | nil=>intro s h;exact h
 | cons k q ih=>intro s h;exact ih (h.cZ k)
theorem KC{C m:Nat}:∀(l:List Int) {s:SV},s.good (C:Int) l→s.ok m→aZ s→∀ n∈l,mX (s.bV l) n:=by
 intro l
 induction l with
 | nil=>intro s _ _ _ n hn;cases hn
 | cons k r ih =>
  intro s hg hok hS n hn
  show mX ((s.cZ k).bV r) n
  rcases List.mem_cons.1 hn with e|e
  ·subst e
   obtain⟨v,hf,_⟩:=hg n List.mem_cons_self
   exact(Qr hok hS hf).bV r
  ·exact ih (s:=s.cZ k) ((bI.cZ r s k).good fun i hi=>hg i (List.mem_cons_of_mem _ hi)) (hok.cZ k) (hS.cZ hok k) n e
theorem aW.flat{z:SV}{C m:Nat}{l:List Int}{cr:Nat→List (List UInt8)}(hg:z.good (C:Int) l)(hok:z.ok m)(hT:∀ n∈l,∀ v,z.file n=some v→Told v (fun k=>[v.sh k]))(hs:∀ k,k<4*C→z.sec l k∈cr k):aW z C l cr:=by
 refine⟨fun n k=>match z.file n with|none=>[] | some v=>[v.sh k],fun n hn v hv=>?_,fun k hk=>Sr (fun n hn=>?_) (hs k hk)⟩
 ·simp only[hv];exact hT n hn v hv
 ·obtain⟨v,hf,_⟩:=hg n hn
  have hl:=nO hg hok hn hf
  exact⟨v,hf,by simp only[hf],uJ (hok.file hf) (by omega)⟩
theorem mX.told{s:SV}{n:Int}(h:mX s n):∀ v,s.file n=some v→Told v (fun k=>[v.sh k]):=fun v hv=>by
 obtain⟨w,U,m,h1,h2,h3⟩:=h
 rw[h1] at hv
 cases hv
 exact Told.flat h2 h3
theorem aW.flushed{s:SV}{C m:Nat}{l:List Int}{cr:Nat→List (List UInt8)}(hg:s.good (C:Int) l)(hok:s.ok m)(hS:aZ s)(hs:∀ k,k<4*C→s.sec l k∈cr k):aW (s.bV l) C l cr:=by
 refine .flat ((bI.bV l l s).good hg) (SV.ok.bV l hok) (fun n hn=>(KC l hg hok hS n hn).told) fun k hk=>?_
 have:(s.bV l).sec l k=s.sec l k:=uQ (k / 4) (k % 4) (by omega) l s hg
 rw[this]
 exact hs k hk
theorem F9{v:IV}{U:List (Int × Int)}{m:Nat}(hs:Safe v U)(hok:v.ok m)(hm:m+10≤1000000000){b:Int}(hb:(v.lU b).ok=true):Told (v.link b) (fun k=>[(v.link b).sh k]):=by
 obtain⟨U',hs'⟩:=hs.link hok b
 have hok':=hok.link b hm
 refine uI hs' hok' ?_ ?_ fun k _=>List.mem_singleton.2 rfl
 ·unfold IV.link
  rw[if_pos hb]
  unfold IV.gW
  split
  ·intro i s h
   rcases h with h|⟨x,hx,_⟩
   ·exact h
   ·cases hx
  ·next hp =>
   intro i s h
   have e:v.flush.d.put 0 (aU (v.lU b).bytes).data.toList=v.flush.d.failing (-1):=pI _ _ hp
   have h':(v.flush.d.put 0 (aU (v.lU b).bytes).data.toList).ver i s:=h
   show s=(v.flush.d.put 0 (aU (v.lU b).bytes).data.toList).seen.getD i []
   rw[e] at h' ⊢
   rcases h' with h|⟨x,hx,_⟩
   ·exact h
   ·cases hx
 ·unfold IV.link
  rw[if_pos hb]
  unfold IV.gW
  split<;>rfl
theorem tK(v:IV)(b:Int):(v.link b).t=v.t:=by
 unfold IV.link
 split
 ·unfold IV.gW
  split<;>rfl
 ·rfl
theorem lH.link{v:IV}{U:List (Int × Int)}{m:Nat}(hs:Safe v U)(hok:v.ok m)(hm:m+10≤1000000000)(b:Int):lH v (v.link b):=fun may may' h hmay hn=>by
 by_cases hb:(v.lU b).ok=true
 ·have h1:=F9 hs hok hm hb
  refine⟨fun c hc s hv=>?_,fun k hk=>hn k (by rw[← tK v b];exact hk),h1.held⟩
  have h2:=h1.vers c hc s hv
  rw[tK] at hc
  intro j hj
  have h3:=hn (4*c+j) (by omega)
  obtain⟨a0,a1,a2⟩:=h2 j hj
  exact⟨fun e=>by rw[List.mem_singleton.1 (a0 e)];exact h3,fun e=>by rw[List.mem_singleton.1 (a1 e)];exact h3,fun e=>⟨(a2 e).1,fun x hx=>by rw[List.mem_singleton.1 ((a2 e).2 x hx)];exact h3⟩⟩
 ·have e:v.link b=v:=by unfold IV.link;rw[if_neg hb]
  rw[e];exact h.mono hmay
theorem aW.link{s:SV}{C m:Nat}{l:List Int}{cr:Nat→List (List UInt8)}(h:aW s C l cr)(hg:s.good (C:Int) l)(hok:s.ok m)(hS:aZ s)(hm:m+10≤1000000000)(n b:Int):aW (bQ s n b).1 C l cr:=by
 unfold bQ
 split
 ·exact h
 ·next v hf =>
  obtain⟨U,hs⟩:=hS.file hf
  refine h.act hf (fun hn=>nO hg hok hn hf) (fun _=>.link hs (hok.file hf) hm b) (fun _ _ e=>e) fun hn k hk=>.inl ?_
  have:=DX v b (c:=k / 4) (j:=k % 4) (by omega)
  rw[show 4*(k / 4)+k % 4=k by omega] at this
  exact this
theorem Falls.skip{s:SV}{M:Int→Nat→List (List UInt8)}{cr:Nat→List (List UInt8)}{k:Nat}{q:List Int}:∀(p:List Int),(∀ n∈p,∃ v,s.file n=some v∧v.sh k∈M n k∧(v.t.getD (k / 4) (0,0)).1=0)→Falls M cr k (p++q)→Falls M cr k q:=by
 intro p
 induction p with
 | nil=>intro _ h;exact h
 | cons n r ih =>
  intro hp h
  obtain⟨v,_,h2,h3⟩:=hp n List.mem_cons_self
  rw[tu h3] at h2
  exact ih (fun i hi=>hp i (List.mem_cons_of_mem _ hi)) (h.2 h2)
theorem Oi{s:SV}{c:Int}:∀(l:List Int) (k:Nat),¬0<s.fF c l (k+1)→∀ n∈l,iE (s.file n) c=0:=by
 intro l
 induction l with
 | nil=>intro k _ n hn;cases hn
 | cons i r ih =>
  intro k h n hn
  unfold SV.fF at h
  by_cases e:iE (s.file i) c=0
  ·rw[if_pos e] at h
   rcases List.mem_cons.1 hn with e2|e2
   ·rw[e2];exact e
   ·exact ih (k+1) h n e2
  ·rw[if_neg e] at h
   omega
theorem aW.streamed{s:SV}{C m:Nat}{j:JV}{cr:Nat→List (List UInt8)}{b:Int}(h:aW s C j.l cr)(hg:JGo s C m j)(hS:aZ s)(hm:m+10≤1000000000)(h2:j.kind=2)(hw:iP s C j)(hx:S4.cnt j.x 64=0)(hC:C≤64)(hb:(bQ s j.into b).2=0):aW (bQ s j.into b).1 C (dn j) cr:=by
 obtain⟨n,r,v,el,ea,hf,hvl,hn,ei,ed⟩:=Az hg h2
 have h1:=h.link hg.ok.good hg.sok hS hm n b
 rw[ei] at hb ⊢
 obtain⟨U,hs⟩:=hS.file hf
 have hlk:bQ s n b=(s.upd n.toNat (v.link b),v.kE b):=by unfold bQ;rw[hf]
 rw[hlk] at hb h1 ⊢
 have hok:(v.lU b).ok=true:=by
  have hb':v.kE b=0:=hb
  unfold IV.kE at hb'
  split at hb'
  ·next e=>exact e
  ·cases hb'
 have hflat:=F9 hs (hg.sok.file hf) hm hok
 have et:dn j=n::r.drop (j.deep-1):=by
  unfold dn
  rw[if_neg (by omega),if_pos h2,ed,el];rfl
 obtain⟨M,m1,m2⟩:=h1.ex
 have hfile:∀ i,(s.upd n.toNat (v.link b)).file i=if i=n then some (v.link b) else s.file i:=fun i=>SV.fJ hf i
 have hnow:∀ i∈j.l,∀ k,k<4*C→∃ w,(s.upd n.toNat (v.link b)).file i=some w∧w.sh k∈M i k∧∀ c:Nat,iE (s.file i) (c:Int)=(w.t.getD c (0,0)).1:=fun i hi k hk=>by
  rw[hfile]
  by_cases e:i=n
  ·rw[if_pos e]
   refine⟨v.link b,rfl,?_,fun c=>?_⟩
   ·have:=m1 i hi (v.link b) (by rw[hfile,if_pos e])
    exact this.now k (by rw[tK,hvl];exact hk)
   ·rw[e,hf,qx,tK]
  ·rw[if_neg e]
   obtain⟨w,hw1,_⟩:=hg.ok.good i hi
   refine⟨w,hw1,?_,fun c=>by rw[hw1,qx]⟩
   have:=m1 i hi w (by rw[hfile,if_neg e];exact hw1)
   exact this.now k (by rw[nO hg.ok.good hg.sok hi hw1];exact hk)
 rw[et]
 refine⟨fun i=>if i=n then fun k=>[(v.link b).sh k] else M i,fun i hi w hw1=>?_,fun k hk=>?_⟩
 ·by_cases e:i=n
  ·simp only[if_pos e]
   rw[hfile,if_pos e] at hw1
   cases hw1
   exact hflat
  ·simp only[if_neg e]
   refine m1 i ?_ w hw1
   rw[el]
   rcases List.mem_cons.1 hi with e2|e2
   ·exact absurd e2 e
   ·exact List.mem_cons_of_mem _ (List.mem_of_mem_drop e2)
 ·have hF:=m2 k hk
  rw[el] at hF hnow
  obtain⟨w,w1,w2,w3⟩:=hnow n List.mem_cons_self k hk
  rw[hfile,if_pos rfl] at w1
  cases w1
  refine⟨fun x hx1 h45=>?_,fun h45=>?_⟩
  ·simp only[if_true] at hx1
   rw[List.mem_singleton.1 hx1] at h45 ⊢
   exact hF.1 _ w2 h45
  ·simp only[if_true] at h45
   have h45':(v.link b).sh k=[45]:=(List.mem_singleton.1 h45).symm
   have hk0:((v.link b).t.getD (k / 4) (0,0)).1=0:=uJ ((hg.sok.file hf).link b hm) (by rw[tK,hvl];exact hk) h45'
   have hbit:j.x.testBit (k / 4)=false:=by
    cases hbt:j.x.testBit (k / 4) with
    | false=>rfl
    | true =>
     have hm1:k / 4∈S4.jo j.x 64:=(S4.zW j.x 64 (k / 4)).2 ⟨by omega,hbt⟩
     have hl:=S4.y8 j.x 64
     rw[hx] at hl
     rw[List.eq_nil_of_length_eq_zero hl] at hm1
     cases hm1
   have hnw:=hw h2 (k / 4) (by omega) hbit
   rw[ea] at hnw
   unfold SV.found SV.fF at hnw
   rw[w3,if_pos hk0] at hnw
   have habs:=Oi _ _ hnw
   rw[h45'] at w2
   have hrest:=hF.2 w2
   have hsplit:r=r.take (j.deep-1)++r.drop (j.deep-1):=(List.take_append_drop _ _).symm
   rw[hsplit] at hrest
   have hlow:=hrest.skip (s:=s.upd n.toNat (v.link b)) _ fun i hi=>by
    obtain⟨u,u1,u2,u3⟩:=hnow i (List.mem_cons_of_mem _ (List.mem_of_mem_take hi)) k hk
    exact⟨u,u1,u2,by rw[← u3];exact habs i hi⟩
   refine hlow.re (fun _ e=>e) fun i hi x hx1=>.inl ?_
   have hne:i≠n:=fun e=>hn (e▸List.mem_of_mem_drop hi)
   simp only[if_neg hne] at hx1
   exact hx1
structure jG(t:DV)(r:Int):Prop where
 pend:t.pend=[]
 ok:bK (bytesOf (t.seen.getD 0 []))=0
 root:(aF t).root=r
theorem jG.fail{t:DV}{r:Int}(h:jG t r)(n:Int):jG (t.failing n) r:=⟨h.pend,h.ok,h.root⟩
theorem E5{y:YV}{m:Nat}(ht:y.top.fine y.top.fl.length m){d:aT}(hd:d.kv.fault=0)(hp:y.top.aQ=0):jG (y.aj d).top d.root:=by
 unfold YV.aj
 rw[if_pos hp]
 have hs:(y.top.put 0 (YV.kT d)).flushed.seen.getD 0 []=YV.kT d:=qE y.top _ hp (by rw[ht.ok.same];exact ht.ok.n1)
 have hb:bytesOf ((y.top.put 0 (YV.kT d)).flushed.seen.getD 0 [])=aU d.kv.bytes:=by rw[hs];exact pY _
 obtain⟨e1,e2⟩:=MK d.kv hd
 refine⟨rfl,by rw[hb];exact e2,?_⟩
 show(aF (y.top.put 0 (YV.kT d)).flushed).root=d.root
 unfold aF
 rw[hb,e1];rfl
theorem jG.aj{y:YV}{m:Nat}(h:jG y.top y.kd.root)(ht:y.top.fine y.top.fl.length m){d:aT}(hd:d.kv.fault=0):jG (y.aj d).top (y.aj d).kd.root:=by
 by_cases hp:y.top.aQ=0
 ·rw[sH hp]
  exact E5 ht hd hp
 ·rw[uw hp]
  unfold YV.aj
  rw[if_neg hp]
  show jG (y.top.put 0 (YV.kT d)) y.kd.root
  rw[pI _ _ hp]
  exact h.fail _
end Go.Proofs.YtonhoahnieoebabGreatDoor
