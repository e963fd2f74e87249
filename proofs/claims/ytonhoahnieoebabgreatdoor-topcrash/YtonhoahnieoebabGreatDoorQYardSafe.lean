/- A step of a job: what is seen through its list stays, and of what is not left the same is seen through the list that it is to leave (W1). -/
import Derived.Test.YtonhoahnieoebabGreatDoorQYardSame
namespace Go.Proofs.YtonhoahnieoebabGreatDoor
open Go.RowKit
structure JGo(s:SV)(C m:Nat)(j:JV):Prop where
 ok:JOk s C j
 sok:s.ok m
 nodup:j.l.Nodup
 tab:∀ n v,s.file n=some v→gQ v.h v.t
 mir:j.kind=1→j.file ∉ j.l∧∃ v,s.file j.file=some v∧v.h.c=C
 str:j.kind=2→1≤j.deep
 com:j.kind=3→∃ q,j.l.drop j.deep=j.file::q
theorem Bl{l:List Int}(h:l.Nodup){d:Nat}{x:Int}(h1:x∈l.take d)(h2:x∈l.drop d):False:=by
 rw[← List.take_append_drop d l,List.nodup_append] at h
 exact h.2.2 x h1 x h2 rfl
theorem JGo.form{s:SV}{C m:Nat}{j:JV}(h:JGo s C m j):∃ r v,dn j=j.into::r∧j.into ∉ r∧s.file j.into=some v∧v.t.length=C∧s.good (C:Int) (j.into::r):=by
 have len:∀ {n v},s.file n=some v→v.h.c=C→v.t.length=C:=fun hf hc=>by
  have:=(h.sok _ _ (SV.dK hf).2.2).len
  omega
 unfold dn JV.into
 rcases h.ok.kind with e|e|e
 ·obtain⟨h1,v,h2,h3⟩:=h.mir e
  refine⟨[],v,by rw[if_pos e,if_neg (by omega)],by simp,by rw[if_neg (by omega)];exact h2,len h2 h3,fun n hn=>?_⟩
  rw[if_neg (by omega),List.mem_singleton] at hn
  exact⟨v,by rw[hn];exact h2,h3⟩
 ·obtain⟨n,r,v,hl,hf,hc⟩:=h.ok.root
  have hhd:j.l.headD 0=n:=by rw[hl];rfl
  have hd:=h.str e
  rw[if_neg (by omega),if_pos e,if_pos e,hhd]
  refine⟨j.l.drop j.deep,v,rfl,fun hm=>?_,hf,len hf hc,fun k hk=>?_⟩
  ·refine Bl h.nodup ?_ hm
   obtain⟨k,hk⟩:∃ k,j.deep=k+1:=⟨j.deep-1,by omega⟩
   rw[hk,hl]
   exact List.mem_cons_self
  ·rcases List.mem_cons.1 hk with e2|e2
   ·exact⟨v,by rw[e2];exact hf,hc⟩
   ·exact h.ok.good k (List.mem_of_mem_drop e2)
 ·obtain⟨q,hq⟩:=h.com e
  rw[if_neg (by omega),if_neg (by omega),if_neg (by omega)]
  have hsub:∀ k∈j.file::q,k∈j.l:=fun k hk=>List.mem_of_mem_drop (by rw[hq];exact hk)
  obtain⟨v,h1,h2⟩:=h.ok.good j.file (hsub _ List.mem_cons_self)
  have hnd:(j.file::q).Nodup:=by
   have:=h.nodup
   rw[← List.take_append_drop j.deep j.l,List.nodup_append] at this
   rw[← hq];exact this.2.1
  exact⟨q,v,hq,(List.nodup_cons.1 hnd).1,h1,len h1 h2,fun k hk=>h.ok.good k (hsub k hk)⟩
theorem JGo.Uo{s:SV}{C m:Nat}{j:JV}(h:JGo s C m j)(hm:m+10≤1000000000){c:Nat}(hc:c<C)(hw:j.fA s (c:Int)=true){c2 i:Nat}(hc2:c2<C)(hi:i<4):(j.moved s (c:Int)).1.view c2 i j.l=s.view c2 i j.l:=by
 obtain⟨r,v,_,_,hf,hl,_⟩:=h.form
 obtain⟨_,r2⟩:=h.ok.read h.sok hc
 unfold JV.moved
 by_cases e:c=c2
 ·subst e
  unfold JV.fA at hw
  rcases h.ok.kind with k|k|k
  ·have:j.into=j.file:=by unfold JV.into;rw[if_neg (by omega)]
   rw[this]
   exact PK (h.mir k).1 c i
  ·rw[if_neg (by omega),if_pos k] at hw
   have hpos:0<s.found j.above (c:Int):=of_decide_eq_true hw
   obtain⟨n,r',v',hl',hf',hc'⟩:=h.ok.root
   have hin:j.into=n:=by unfold JV.into;rw[if_pos k,hl'];rfl
   have hd:=h.str k
   have hab:j.above=n::r'.take (j.deep-1):=by
    unfold JV.above
    rw[hl']
    obtain⟨k,hk⟩:∃ k,j.deep=k+1:=⟨j.deep-1,by omega⟩
    rw[hk]
    rfl
   have h0:(v'.t.getD c (0,0)).1=0:=by
    unfold SV.found at hpos
    rw[hab] at hpos
    unfold SV.fF at hpos
    split at hpos
    ·next h0 =>
     rw[hf'] at h0
     have h0':(v'.bH (c:Int)).1=0:=h0
     rw[kJ] at h0';exact h0'
    ·exact absurd hpos (by decide)
   have hnd:=h.nodup
   rw[hl'] at hnd
   have hg:=h.ok.good
   rw[hl'] at hg
   have ht:Top s C m n r' v':=⟨h.sok,hg,hf',(List.nodup_cons.1 hnd).1,h.tab _ _ hf'⟩
   rw[hin,hl']
   exact SE ht hm hc h0 hi
  ·rw[if_neg (by omega),if_neg (by omega)] at hw
   have hpos:0≤s.found j.above (c:Int):=of_decide_eq_true hw
   obtain⟨q,hq⟩:=h.com k
   have hin:j.into=j.file:=by unfold JV.into;rw[if_neg (by omega)]
   rw[hin]
   have hsplit:j.l.take j.deep++j.l.drop j.deep=j.l:=List.take_append_drop _ _
   rw[← hsplit]
   have hsame:∀ t,(s.move j.file (c:Int) t).1.view c i (j.l.take j.deep++j.l.drop j.deep)=s.view c i (j.l.take j.deep++j.l.drop j.deep):=fun t=>by
    refine Jz (fun hx=>Bl h.nodup hx (by rw[hq];exact List.mem_cons_self)) ?_
    unfold SV.found at hpos
    rcases SV.rJ s (c:Int) j.above 0 with⟨h1,_⟩|⟨_,n,u,_,_,_,h4,h5,h6,_⟩
    ·rw[h1] at hpos;omega
    ·rw[kJ] at h6
     exact⟨n,h4,u,h5,h6⟩
   exact hsame _
 ·exact EX h.ok.good h.sok hm hf (h.tab _ _ hf) (by omega) r2 e hc2 hi
theorem JGo.RI{s:SV}{C m:Nat}{j:JV}(h:JGo s C m j)(hm:m+10≤1000000000){c:Nat}(hc:c<C)(hF:(j.moved s (c:Int)).2=0){c2 i:Nat}(hc2:c2<C)(hi:i<4) :
  (j.moved s (c:Int)).1.view c2 i (dn j)=if c=c2 then s.view c2 i j.l else s.view c2 i (dn j):=by
 obtain⟨r,v,e,hn,hf,hl,hg⟩:=h.form
 obtain⟨_,r2⟩:=h.ok.read h.sok hc
 have hv:=h.sok _ _ (SV.dK hf).2.2
 rw[e]
 unfold JV.moved at hF ⊢
 by_cases ec:c=c2
 ·subst ec
  rw[if_pos rfl]
  rw[qI hf] at hF ⊢
  obtain⟨k1,k2⟩:=wV hv (h.tab _ _ hf) hm (by omega) r2 hF hi
  show(s.upd j.into.toNat _).view c i (j.into::r)=_
  rw[qC hf hn,if_neg k1,← iM _ _ _ hi,k2]
  exact sZ h.ok.good h.sok h.ok.ne hc hi
 ·rw[if_neg ec]
  exact EX hg h.sok hm hf (h.tab _ _ hf) (by omega) r2 ec hc2 hi
theorem Ef{s:SV}{C m:Nat}{j:JV}(h:JGo s C m j)(hm:m+10≤1000000000){c i:Nat}(hc:c<C)(hi:i<4):(stepS s j).view c i j.l=s.view c i j.l:=by
 unfold stepS
 split
 ·next hx =>
  obtain⟨k,e,hk,_⟩:=h.ok.pick hx.2.1
  rw[e] at hx ⊢
  exact h.Uo hm hk hx.2.2.2 hc hi
 ·rfl
theorem Dp{s:SV}{C m:Nat}{j:JV}(h:JGo s C m j)(hm:m+10≤1000000000)(hs:Same s C j)(hg:(stepJ s j).stage<4):Same (stepS s j) C (stepJ s j):=by
 have hl:=(jT s j).1
 have hk:=(jT s j).2
 have ht:(stepJ s j).deep=j.deep∧dn (stepJ s j)=dn j:=by
  have a:∀ c,(j.went c).deep=j.deep∧dn (j.went c)=dn j:=fun _=>⟨rfl,rfl⟩
  have b:j.fell.deep=j.deep∧dn j.fell=dn j:=⟨rfl,rfl⟩
  unfold stepJ
  by_cases h1:j.stage=1∧j.some=true∧S4.inB 4 j.lv=true
  ·rw[if_pos h1]
   by_cases g:j.fA s j.pick=true∧(j.moved s j.pick).2≠0
   ·rw[if_pos g];exact b
   ·rw[if_neg g];exact a _
  ·rw[if_neg h1];exact⟨rfl,rfl⟩
 intro c hc hb i hi
 rw[ht.2,hl,Ef h hm hc hi]
 by_cases h1:j.stage=1∧j.some=true∧S4.inB 4 j.lv=true
 ·obtain⟨k,e,hkC,_⟩:=h.ok.pick h1.2.1
  by_cases hw:j.fA s (k:Int)=true
  ·have eS:stepS s j=(j.moved s (k:Int)).1:=by
    unfold stepS
    rw[e,if_pos ⟨h1.1,h1.2.1,h1.2.2,hw⟩]
   by_cases hF:(j.moved s (k:Int)).2=0
   ·have eJ:stepJ s j=j.went (k:Int):=by
     unfold stepJ
     rw[if_pos h1,e,if_neg (fun x=>x.2 hF)]
    rw[eS,h.RI hm hkC hF hc hi]
    split
    ·rfl
    ·next hne =>
     refine hs c hc ?_ i hi
     rw[eJ] at hb
     have hb':(S4.eY j.n j.x (k:Int) false).testBit c=false:=hb
     rw[S4.oQ,if_neg (fun x=>hne (by have:=x.2;omega))] at hb'
     exact hb'
   ·have eJ:stepJ s j=j.fell:=by
     unfold stepJ
     rw[if_pos h1,e,if_pos ⟨hw,hF⟩]
    rw[eJ] at hg
    exact absurd hg (by show ¬(5:Int)<4;decide)
  ·have eS:stepS s j=s:=by
    unfold stepS
    rw[e,if_neg (fun x=>hw x.2.2.2)]
   have eJ:stepJ s j=j.went (k:Int):=by
    unfold stepJ
    rw[if_pos h1,e,if_neg (fun x=>hw x.1)]
   rw[eS]
   by_cases hne:k=c
   ·subst hne
    exact Eb h.ok h.str (by simpa using hw)
   ·refine hs c hc ?_ i hi
    rw[eJ] at hb
    have hb':(S4.eY j.n j.x (k:Int) false).testBit c=false:=hb
    rw[S4.oQ,if_neg (fun x=>hne (by have:=x.2;omega))] at hb'
    exact hb'
 ·have eS:stepS s j=s:=by
   unfold stepS
   rw[if_neg (fun x=>h1 ⟨x.1,x.2.1,x.2.2.1⟩)]
  have eJ:stepJ s j=j:=by
   unfold stepJ
   rw[if_neg h1]
  rw[eS]
  rw[eJ] at hb
  exact hs c hc hb i hi
def Root(s z:SV)(C:Nat)(n:Int)(D:Nat→Prop):Prop :=
 ∃ v u,s.file n=some v∧z.file n=some u∧(∀ k,k≠n→z.file k=s.file k)∧∀ c,c<C→∀ i,i<4→((u.t.getD c (0,0)).1=(v.t.getD c (0,0)).1∧u.sh (4*c+i)=v.sh (4*c+i))∨(D c∧(u.t.getD c (0,0)).1≠0)
theorem Root.refl{s:SV}{C:Nat}{n:Int}{D:Nat→Prop}{v:IV}(h:s.file n=some v):Root s s C n D:=⟨v,v,h,h,fun _ _=>rfl,fun _ _ _ _=>.inl ⟨rfl,rfl⟩⟩
theorem Root.trans{s z w:SV}{C:Nat}{n:Int}{D:Nat→Prop}(h:Root s z C n D)(k:Root z w C n D):Root s w C n D:=by
 obtain⟨v,u,h1,h2,h3,h4⟩:=h
 obtain⟨u',t,k1,k2,k3,k4⟩:=k
 rw[h2] at k1
 cases k1
 refine⟨v,t,h1,k2,fun x hx=>(k3 x hx).trans (h3 x hx),fun c hc i hi=>?_⟩
 rcases k4 c hc i hi with⟨a1,a2⟩|a
 ·rcases h4 c hc i hi with⟨b1,b2⟩|⟨b1,b2⟩
  ·exact .inl ⟨a1.trans b1,a2.trans b2⟩
  ·exact .inr ⟨b1,by rw[a1];exact b2⟩
 ·exact .inr a
theorem Root.lay{s:SV}{C m:Nat}{n:Int}{r:List Int}{v:IV}(h:Top s C m n r v)(hm:m+10≤1000000000){c f k:Nat}{t:ByteArray}(hc:c<C)(ht:t.size=k*16)(hk:f+k≤4){D:Nat→Prop}(hD:D c):Root s (s.lay (n::r) c f t).1 C n D:=by
 have hv:=h.vok
 have hl:=h.len
 have up:∀ u:IV,(∀ c2,c2<C→∀ i,i<4→((u.t.getD c2 (0,0)).1=(v.t.getD c2 (0,0)).1∧u.sh (4*c2+i)=v.sh (4*c2+i))∨(D c2∧(u.t.getD c2 (0,0)).1≠0))→Root s (s.upd n.toNat u) C n D:=fun u hu =>
  ⟨v,u,h.file,by rw[SV.fJ h.file,if_pos rfl],fun k hk=>by rw[SV.fJ h.file,if_neg hk],hu⟩
 unfold SV.lay
 simp only
 rw[h.file]
 simp only
 split
 ·next g =>
  rw[kJ] at g
  refine up _ fun c2 hc2 i hi=>?_
  have hw:kH v (c:Int) (f:Int) t=true:=by
   unfold kH
   rw[Bool.and_eq_true]
   exact⟨decide_eq_true ⟨by omega,by omega⟩,decide_eq_true ⟨by omega,by omega,by omega,by omega⟩⟩
  rw[oP]
  by_cases e:c=c2
  ·subst e
   exact .inr ⟨hD,by omega⟩
  ·exact .inl ⟨rfl,(sQ hv h.tab hm hw g (by omega) hi).1 (fun x=>e x.1)⟩
 ·refine up _ fun c2 hc2 i hi=>?_
  generalize ((s.read (n::r) c).1.extract 0 (f*16)++t++(s.read (n::r) c).1.extract (f*16+t.size) 64)=T
  by_cases hF:v.dJ (c:Int) T=0
  ·obtain⟨hct,q,hq⟩:=qO hF
   have h2:=yj hv hm hF (c2:=c2) (by omega) hi
   rw[hq,lD _ hct]
   by_cases e:c=c2
   ·subst e
    rw[if_pos rfl]
    exact .inr ⟨hD,by show(2:Int)≠0;decide⟩
   ·rw[if_neg e] at h2 ⊢
    exact .inl ⟨rfl,h2⟩
  ·rw[qW hF]
   exact .inl ⟨rfl,wG hv hF (by omega) hi⟩
theorem Root.clear{s:SV}{C m:Nat}{n:Int}{r:List Int}{v:IV}(h:Top s C m n r v){c:Nat}{D:Nat→Prop}(hD:D c):Root s (s.upd n.toNat (v.clear (c:Int))) C n D:=by
 refine⟨v,v.clear (c:Int),h.file,by rw[SV.fJ h.file,if_pos rfl],fun k hk=>by rw[SV.fJ h.file,if_neg hk],fun c2 hc2 i hi=>?_⟩
 by_cases hF:v.dX (c:Int)=0
 ·have h1:=(uK hF c2).1
  have h2:=wW h.vok hF (c2:=c2) hi
  by_cases e:c=c2
  ·subst e
   rw[if_pos rfl] at h1
   exact .inr ⟨hD,by rw[h1];decide⟩
  ·rw[if_neg e] at h1 h2
   exact .inl ⟨h1,h2⟩
 ·rw[uN hF]
  exact .inl ⟨rfl,um hF _⟩
theorem Root.bM{s:SV}{C m:Nat}{n:Int}{r:List Int}(h:fD s C m n r)(hm:m+10≤1000000000){fr N:Nat}{p:Pt}(hp:p.fits fr N C){D:Nat→Prop}(hD:D p.c):Root s (SV.bM (n::r) s p).1 C n D:=by
 obtain⟨v,U,h1,_⟩:=h
 unfold SV.bM
 simp only
 rw[h1.file]
 simp only
 split
 ·exact .clear h1 hD
 ·split
  ·exact .refl h1.file
  ·refine .lay h1 hm hp.c (k:=p.n) ?_ hp.n4 hD
   show(List.replicate (p.n*16) (0:UInt8)).toArray.size=_
   simp
def inC(fr N c:Nat):Prop:=∃ k,k<N∧(fr+k) / 4=c
theorem Pt.fits.inC{p:Pt}{fr N C:Nat}(h:p.fits fr N C):inC fr N p.c:=by
 have h1:=h.at_
 have h2:=h.n4
 have h3:=h.n1
 have h4:=h.an
 exact⟨p.a,by omega,by omega⟩
theorem Root.dY{op:SV→Pt→SV × Int}{C:Nat}{n:Int}{r:List Int}{fr N:Nat}{D:Nat→Prop}(hN:fr+N≤4*C)
  (hop:∀(s:SV) (m:Nat) (p:Pt),fD s C m n r→m+10≤1000000000→p.fits fr N C→Root s (op s p).1 C n D∧fD (op s p).1 C (m+10) n r) :
  ∀(k a:Nat) (s:SV) (m:Nat),N-a≤k→fD s C m n r→m+10*k≤1000000000→Root s (dY op s (aN fr N a)).1 C n D:=by
 intro k
 induction k with
 | zero =>
  intro a s m ha hs _
  rw[mQ (by omega)]
  obtain⟨v,U,h1,_⟩:=hs
  exact .refl h1.file
 | succ k ih =>
  intro a s m ha hs hm
  by_cases h:a<N
  ·have h1:=oJ (fr:=fr) h
   have hf:=vZ (C:=C) h hN
   rw[oD h,nM]
   generalize ep:eG fr N a=p at h1 hf ⊢
   obtain⟨l1,s1⟩:=hop s m p hs (by omega) hf
   split
   ·exact l1.trans (ih (a+p.n) (op s p).1 (m+10) (by omega) s1 (by omega))
   ·exact l1
  ·rw[mQ h]
   obtain⟨v,U,h1,_⟩:=hs
   exact .refl h1.file
theorem Sl{s:SV}{C m:Nat}{n:Int}{r:List Int}(h:fD s C m n r){fr:Nat}{t:ByteArray}(ht:t.size % 16=0)(hf:s.bT (n::r) (fr:Int) ((t.size / 16:Nat):Int)=0)(hm:m+10*(t.size / 16)≤1000000000):Root s (s.put (n::r) (fr:Int) t).1 C n (inC fr (t.size / 16)):=by
 have hg:s.good (C:Int) (n::r):=by obtain⟨v,U,h1,_⟩:=h;exact h1.good
 obtain⟨_,_,_,hr⟩:=SV.jw hg hf
 unfold SV.put
 rw[if_pos ht,if_pos hf,show((fr:Int)).toNat=fr by omega]
 refine Root.dY (op:=SV.iO (n::r) t) (r:=r) (fr:=fr) (N:=t.size / 16) (by omega) (fun s m p hs hm hp=>⟨?_,hs.lay hm _ _ _⟩) (t.size / 16) 0 s m (by omega) h hm
 obtain⟨v,U,h1,_⟩:=hs
 exact .lay h1 hm hp.c (k:=p.n) (qg (by have:=hp.an;omega)) hp.n4 hp.inC
theorem L8{s:SV}{C m:Nat}{n:Int}{r:List Int}(h:fD s C m n r){fr N:Nat}(hf:s.bT (n::r) (fr:Int) (N:Int)=0)(hm:m+10*N≤1000000000):Root s (s.wipe (n::r) (fr:Int) (N:Int)).1 C n (inC fr N):=by
 have hg:s.good (C:Int) (n::r):=by obtain⟨v,U,h1,_⟩:=h;exact h1.good
 obtain⟨_,_,_,hr⟩:=SV.jw hg hf
 unfold SV.wipe
 rw[if_pos hf,show((fr:Int)).toNat=fr by omega,show((N:Int)).toNat=N by omega]
 exact Root.dY (op:=SV.bM (n::r)) (r:=r) (fr:=fr) (N:=N) (by omega) (fun s m p hs hm hp=>⟨.bM hs hm hp hp.inC,(Aa hs hm hp).2⟩) N 0 s m (by omega) h hm
theorem MP{j:JV}(hk:j.kind≠2)(hg:j.stage<4)(fr:Nat):∀ N c,(dF j fr N).x.testBit c=false→j.x.testBit c=false∧(c<j.n→¬inC fr N c):=by
 intro N
 induction N with
 | zero=>intro c h;exact⟨h,fun _ ⟨k,hk,_⟩=>absurd hk (Nat.not_lt_zero _)⟩
 | succ N ih =>
  intro c h
  obtain⟨d1,d2,d3,d4⟩:=qJ j fr N
  have hkind:(dF j fr N).kind=j.kind:=by have:=congrArg aT.kind d2;exact this
  have h':(dA (dF j fr N) (((fr+N) / 4:Nat):Int)).x.testBit c=false:=h
  unfold dA at h'
  rw[if_neg (by rw[hkind,d3];omega)] at h'
  have h2:(S4.eY (dF j fr N).n (dF j fr N).x (((fr+N) / 4:Nat):Int) true).testBit c=false:=h'
  rw[S4.oQ] at h2
  split at h2
  ·cases h2
  ·next hx =>
   obtain⟨a1,a2⟩:=ih c h2
   refine⟨a1,fun hn x=>?_⟩
   have hne:c≠(fr+N) / 4:=fun e=>hx ⟨decide_eq_true ⟨by omega,by rw[d4];omega⟩,by rw[e]⟩
   obtain⟨k,hk2,e⟩:=x
   by_cases ek:k=N
   ·subst ek;exact hne e.symm
   ·exact a2 hn ⟨k,by omega,e⟩
theorem Root.same{s z:SV}{C m:Nat}{j:JV}(h:JGo s C m j)(hg:j.stage<4){n:Int}{r:List Int}(hl:j.l=n::r){fr N:Nat}(hr:Root s z C n (inC fr N))(hs:Same s C j):Same z C (dF j fr N):=by
 obtain⟨v,u,h1,h2,h3,h4⟩:=hr
 obtain⟨d1,d2,d3,d4⟩:=qJ j fr N
 have hkind:(dF j fr N).kind=j.kind:=by have:=congrArg aT.kind d2;exact this
 have hfile:(dF j fr N).file=j.file:=by have:=congrArg aT.file d2;exact this
 have hdeep:∀ k,(dF j fr k).deep=j.deep:=by
  intro k
  induction k with
  | zero=>rfl
  | succ k ih =>
   show(dA _ _).deep=_
   unfold dA
   split<;>exact ih
 have htl:dn (dF j fr N)=dn j:=by unfold dn;rw[hkind,hfile,d1,hdeep]
 have hn:=h.ok.n
 have hnr:n ∉ r:=by have:=h.nodup;rw[hl] at this;exact(List.nodup_cons.1 this).1
 have hgood:=h.ok.good
 rw[hl] at hgood
 have keep:∀ c,c<C→∀ i,i<4→((u.t.getD c (0,0)).1=(v.t.getD c (0,0)).1∧u.sh (4*c+i)=v.sh (4*c+i))→∀ l,s.good (C:Int) l→z.view c i l=s.view c i l:=fun c hc i hi hst l hgl=>by
  refine tZ hi fun k hk=>?_
  obtain⟨w,hw,_⟩:=hgl k hk
  by_cases e:k=n
  ·subst e
   exact⟨v,u,h1,h2,hst.1,fun _=>hst.2⟩
  ·exact⟨w,w,hw,by rw[h3 k e];exact hw,rfl,fun _=>rfl⟩
 obtain⟨q,w,etl,_,_,_,hgt⟩:=h.form
 intro c hc hb i hi
 rw[htl,d1]
 by_cases hk:j.kind=2
 ·have hx:(dF j fr N).x=j.x:=by
   have:∀ k,dF j fr k=j:=by
    intro k
    induction k with
    | zero=>rfl
    | succ k ih =>
     show dA (dF j fr k) _=j
     rw[ih]
     unfold dA
     rw[if_pos (.inl hk)]
   rw[this]
  rw[hx] at hb
  rcases h4 c hc i hi with hst|⟨_,hne⟩
  ·rw[keep c hc i hi hst _ (by rw[etl];exact hgt),keep c hc i hi hst _ h.ok.good]
   exact hs c hc hb i hi
  ·have e1:dn j=n::j.l.drop j.deep:=by
    unfold dn
    rw[if_neg (by omega),if_pos hk,hl];rfl
   rw[e1,jH h2,if_neg hne]
   rw[hl,jH h2,if_neg hne]
 ·obtain⟨hb1,hb2⟩:=MP hk hg fr N c hb
  have hno:=hb2 (by omega)
  rcases h4 c hc i hi with hst|⟨hin,_⟩
  ·rw[keep c hc i hi hst _ (by rw[etl];exact hgt),keep c hc i hi hst _ h.ok.good]
   exact hs c hc hb1 i hi
  ·exact absurd hin hno
theorem Told.fail{v:IV}{may:Nat→List (List UInt8)}(h:Told v may)(n:Int):Told { v with d:=v.d.failing n } may:=⟨h.vers,h.now,h.held⟩
theorem En{v:IV}{c:Nat}{e:Int × Int}(h:v.d.aQ≠0):v.set c e={ v with d:=v.d.failing (-1) }:=by
 unfold IV.set
 rw[if_neg h]
 unfold IV.dL
 rw[pI _ _ h]
theorem Told.O8{v:IV}{U:List (Int × Int)}{m:Nat}{may may':Nat→List (List UInt8)}(h:Told v may)(hs:Safe v U)(hok:v.ok m)(hm:m+10<1000000000)(c:Int)
  (hmay:∀ k x,x∈may k→x∈may' k) (hn:∀ k,k<4*v.t.length→(v.clear c).sh k∈may' k):Told (v.clear c) may':=by
 unfold IV.clear at hn ⊢
 split
 ·next hw =>
  rw[if_pos hw] at hn
  obtain⟨t0,t1⟩:=IV.kG hw.1
  by_cases hp:v.d.aQ=0
  ·exact h.set hs hok (by omega) hp (by omega) (BK _) hmay hn (fun g=>by cases g)
  ·rw[En hp];exact(h.mono hmay).fail _
 ·exact h.mono hmay
theorem KA{v:IV}{q:Nat}(hq:q∈v.fC):(∀ e∈v.t,e≠(2,(q:Int)))∧q ∉ v.held:=by
 have hop:=(IV.pq hq).2
 unfold IV.lT IV.uj IV.uh at hop
 simp only[Bool.and_eq_true,Bool.not_eq_true',List.any_eq_false,decide_eq_true_eq] at hop
 exact⟨hop.1,fun hm=>hop.2 q hm rfl⟩
theorem Told.dU{v:IV}{m:Nat}{may:Nat→List (List UInt8)}(h:Told v may)(hok:v.ok m)(hm:m+10<1000000000){q:Nat}(hq:q∈v.fC){s:ByteArray}(hs:s.size=64):Told { v with d:=(v.dU q s).1 } may:=by
 have hb2:=(kR hok.h hok.need).2 q (by have:=HV.eH hok.h;have:=(IV.pq hq).1;omega)
 have hl:=yB hok.d (a:=aK v.h q+0) (s:=s) (c:=4) (by omega) (by omega) (by omega)
 have hpv:=GK v.d (aK v.h q+0) s 4 hl (by rw[hok.d.ok.same];omega) 4 (Nat.le_refl _)
 have hlow:=wS v.d (aK v.h q+0) s 4
 obtain⟨f1,f2⟩:=KA hq
 refine⟨fun c2 hc2 x hv j hj=>?_,fun k hk=>?_,h.held⟩
 ·have hc2':c2<v.t.length:=hc2
  have hv':(v.d.puts (aK v.h q+0) s 4).1.ver (1+c2 / 8) x:=hv
  have hold:=h.vers c2 hc2' x ((hlow (1+c2 / 8) (by have:=qX hok q;have:=lM hc2';omega)).1 x hv') j hj
  refine⟨hold.1,hold.2.1,fun g=>⟨(hold.2.2 g).1,fun y hy=>?_⟩⟩
  have hy':(v.d.puts (aK v.h q+0) s 4).1.ver (aK v.h (gV (bytesOf x) (c2 % 8)).2.toNat+j) y:=hy
  rcases hpv _ y hy' with h1|⟨h1,h2,_⟩
  ·exact(hold.2.2 g).2 y h1
  ·exfalso
   have hq2:(gV (bytesOf x) (c2 % 8)).2.toNat=q:=by
    unfold aK at h1 h2
    omega
   rcases(hold.2.2 g).1 with g1|g1
   ·rw[hq2] at g1;exact f2 g1
   ·rw[g1] at g hq2
    have hb:=iG (hok.ents _ (getD_mem hc2'))
    refine f1 _ (getD_mem hc2') (Prod.ext g ?_)
    show(v.t.getD c2 (0,0)).2=(q:Int)
    omega
 ·have hk':k<4*v.t.length:=hk
  have:=wR hok hq s (c:=k / 4) (j:=k % 4) (by omega) (by omega)
  rw[show 4*(k / 4)+k % 4=k by omega] at this
  rw[this];exact h.now k hk'
theorem Told.fZ{v:IV}{U:List (Int × Int)}{m:Nat}{may:Nat→List (List UInt8)}(h:Told v may)(hs:Safe v U)(hok:v.ok m)(hm:m+10<1000000000){q:Nat}(hq:q∈v.fC){s:ByteArray}(h64:s.size=64):Told (v.fZ q s) may∧Safe (v.fZ q s) v.t:=by
 have hfd:=hok.dU hq h64 (by omega)
 have hs2:Safe { v with d:=(v.dU q s).1 } U:=by
  unfold IV.dU
  exact hs.puts (by have:=qX hok q;omega) s 4
 have hs3:Safe (v.fZ q s) v.t:=hs2.flush hfd.sn
 have hok2:=hok.dev hfd (m':=m+4) (by omega)
 exact⟨(h.dU hok hm hq h64).flush hs2 hok2 (fun k hk=>(h.dU hok hm hq h64).now k hk),hs3⟩
theorem Told.Pq{v:IV}{U:List (Int × Int)}{m:Nat}{may may':Nat→List (List UInt8)}(h:Told v may)(hs:Safe v U)(hok:v.ok m)(hm:m+10<1000000000)(c:Int)(s:ByteArray)
    (hmay:∀ k x,x∈may k→x∈may' k) (hn:∀ k,k<4*v.t.length→(v.fill c s).sh k∈may' k):Told (v.fill c s) may':=by
  unfold IV.fill at hn ⊢
  split
  · next h1 =>
    rw[if_pos h1] at hn
    split
    · exact h.mono hmay
    · next h2 =>
      rw[if_neg h2] at hn
      cases hq:v.fC with
      | nil=>exact h.mono hmay
      | cons q tl =>
        rw[hq] at hn
        have hqm:q∈v.fC:=by rw[hq];exact List.mem_cons_self
        obtain⟨t0,t1⟩:=IV.kG h1.1
        have hc:c.toNat<v.t.length:=by omega
        simp only at hn ⊢
        split
        · next hz =>
          obtain⟨hT,hs3⟩:=h.fZ hs hok hm hqm h1.2
          have hok3:=hok.fZ hqm h1.2 (show m+10≤1000000000 by omega)
          rw[if_pos hz] at hn
          by_cases hp:(v.fZ q s).d.aQ=0
          · refine hT.set (may':=may') hs3 hok3 (by omega) hp (c:=c.toNat) hc (e:=(2,(q:Int))) (xO hok hqm) hmay hn (fun _=>⟨fun j hj x hx=>?_,(fun hx=>by cases hx),h2⟩)
            have h4:=hn (4*c.toNat+j) (by omega)
            rw[yO hok3 hp hc _ hj,if_pos rfl] at h4
            have hx2:x=(v.fZ q s).d.seen.getD (aK v.h (q:Int).toNat+j) []:=by
              rcases hx with hx|⟨y,hy,_⟩
              · exact hx
              · cases hy
            rw[hx2]
            exact h4
          · rw[En hp];exact(hT.mono hmay).fail _
        · exact(h.dU hok hm hqm h1.2).mono hmay
  · exact h.mono hmay
def aZ(s:SV):Prop:=∀ i v,s i=some v→∃ U,Safe v U
theorem aZ.file{s:SV}(h:aZ s){n:Int}{v:IV}(hf:s.file n=some v):∃ U,Safe v U:=h _ _ (SV.dK hf).2.2
theorem aZ.tab{s:SV}(h:aZ s){n:Int}{v:IV}(hf:s.file n=some v):gQ v.h v.t:=by
 obtain⟨U,hs⟩:=h.file hf
 exact hs.sub.good hs.good
theorem aZ.upd{s:SV}(h:aZ s)(i:Nat){u:IV}(hu:∃ U,Safe u U):aZ (s.upd i u):=fun k v e=>by
 unfold SV.upd at e
 split at e
 ·cases e;exact hu
 ·exact h k v e
theorem aZ.gone{s:SV}(h:aZ s)(i:Nat):aZ (s.gone i):=fun k v e=>by
 unfold SV.gone at e
 split at e
 ·cases e
 ·exact h k v e
theorem aZ.lay{s:SV}{m:Nat}(h:aZ s)(hok:s.ok m)(hm:m+10≤1000000000)(l:List Int)(c f:Nat)(t:ByteArray):aZ (s.lay l c f t).1:=by
 unfold SV.lay
 split
 ·exact h
 ·split
  ·exact h
  ·next v hf =>
   obtain⟨U,hs⟩:=h.file hf
   split
   ·exact h.upd _ ⟨U,hs.write (hok.file hf) _ _ _⟩
   ·exact h.upd _ (hs.fill (hok.file hf) hm _ _)
theorem aZ.bM{s:SV}{m:Nat}(h:aZ s)(hok:s.ok m)(hm:m+10≤1000000000)(l:List Int)(p:Pt):aZ (SV.bM l s p).1:=by
 unfold SV.bM
 split
 ·exact h
 ·split
  ·exact h
  ·next v hf =>
   obtain⟨U,hs⟩:=h.file hf
   split
   ·exact h.upd _ ⟨U,hs.clear (hok.file hf) _⟩
   ·split
    ·exact h
    ·exact h.lay hok hm _ _ _ _
theorem aZ.dY{op:SV→Pt→SV × Int}(hop:∀(s:SV) (m:Nat) p,aZ s→s.ok m→m+10≤1000000000→aZ (op s p).1∧(op s p).1.ok (m+10)):∀(P:List Pt) (s:SV) (m:Nat),aZ s→s.ok m→m+10*P.length≤1000000000→aZ (dY op s P).1:=by
 intro P
 induction P with
 | nil=>intro s m h _ _;exact h
 | cons p r ih =>
  intro s m h hok hm
  simp only[List.length_cons] at hm
  rw[nM]
  obtain⟨h1,h2⟩:=hop s m p h hok (by omega)
  split
  ·exact ih _ _ h1 h2 (by omega)
  ·exact h1
theorem aZ.put{s:SV}{m:Nat}(h:aZ s)(hok:s.ok m)(l:List Int)(fr:Int)(t:ByteArray)(hm:m+10*(t.size / 16)≤1000000000):aZ (s.put l fr t).1:=by
 have hl:=nX fr.toNat (t.size / 16) _ 0 (Nat.le_refl _)
 unfold SV.put
 split
 ·split
  ·exact aZ.dY (fun s m p h hok hm=>⟨h.lay hok hm _ _ _ _,hok.lay _ _ _ _ hm⟩) _ _ m h hok (by omega)
  ·exact h
 ·exact h
theorem aZ.wipe{s:SV}{m:Nat}(h:aZ s)(hok:s.ok m)(l:List Int)(fr n:Int)(hm:m+10*n.toNat≤1000000000):aZ (s.wipe l fr n).1:=by
 have hl:=nX fr.toNat n.toNat _ 0 (Nat.le_refl _)
 unfold SV.wipe
 split
 ·exact aZ.dY (fun s m p h hok hm=>⟨h.bM hok hm _ _,hok.bM _ _ hm⟩) _ _ m h hok (by omega)
 ·exact h
theorem aZ.move{s:SV}{m:Nat}(h:aZ s)(hok:s.ok m)(hm:m+10≤1000000000)(n c:Int)(t:ByteArray):aZ (s.move n c t).1:=by
 unfold SV.move
 split
 ·exact h
 ·next v hf =>
  obtain⟨U,hs⟩:=h.file hf
  split
  ·exact h.upd _ ⟨U,hs.clear (hok.file hf) _⟩
  ·split
   ·exact h.upd _ ⟨U,hs.write (hok.file hf) _ _ _⟩
   ·exact h.upd _ (hs.fill (hok.file hf) hm _ _)
theorem aZ.cZ{s:SV}{m:Nat}(h:aZ s)(hok:s.ok m)(n:Int):aZ (s.cZ n):=by
 unfold SV.cZ
 split
 ·exact h
 ·next v hf =>
  obtain⟨U,hs⟩:=h.file hf
  exact h.upd _ ⟨v.t,hs.flush (hok.file hf).d.sn⟩
theorem aZ.bV:∀(l:List Int) {s:SV} {m:Nat},aZ s→s.ok m→aZ (s.bV l):=by
 intro l
 induction l with
 | nil=>intro s m h _;exact h
 | cons n r ih=>intro s m h hok;exact ih (h.cZ hok n) (hok.cZ n)
theorem aZ.link{s:SV}{m:Nat}(h:aZ s)(hok:s.ok m)(n b:Int):aZ (bQ s n b).1:=by
 unfold bQ
 split
 ·exact h
 ·next v hf =>
  obtain⟨U,hs⟩:=h.file hf
  exact h.upd _ (hs.link (hok.file hf) b)
theorem aZ.step{s:SV}{m:Nat}(h:aZ s)(hok:s.ok m)(hm:m+10≤1000000000)(j:JV):aZ (stepS s j):=by
 unfold stepS
 split
 ·exact h.move hok hm _ _ _
 ·exact h
theorem aZ.settle{s:SV}{m:Nat}(h:aZ s)(hok:s.ok m)(j:JV):aZ (aH s j):=by
 unfold aH
 split
 ·split
  ·exact h.link hok _ _
  ·exact aZ.bV _ h hok
 ·exact h
theorem Jd(s:SV)(n:Int)(c i:Nat)(hi:i<4){C:Int}{l:List Int}(hg:s.good C l):(s.cZ n).view c i l=s.view c i l:=by
 unfold SV.cZ
 split
 ·rfl
 ·next v hf =>
  refine tZ hi fun k hk=>?_
  obtain⟨w,hw,_⟩:=hg k hk
  rw[SV.fJ hf]
  by_cases e:k=n
  ·subst e
   rw[hf] at hw
   cases hw
   exact⟨v,v.flush,hf,by rw[if_pos rfl],rfl,fun _=>rfl⟩
  ·exact⟨w,w,hw,by rw[if_neg e];exact hw,rfl,fun _=>rfl⟩
theorem uQ(c i:Nat)(hi:i<4){C:Int}{l:List Int}:∀(r:List Int) (s:SV),s.good C l→(s.bV r).view c i l=s.view c i l:=by
 intro r
 induction r with
 | nil=>intro s _;rfl
 | cons n r ih =>
  intro s hg
  have:=ih (s.cZ n) ((bI.cZ l s n).good hg)
  exact this.trans (Jd s n c i hi hg)
theorem TN(s:SV)(n b:Int)(c i:Nat)(hi:i<4){C:Int}{l:List Int}(hg:s.good C l):(bQ s n b).1.view c i l=s.view c i l:=by
 unfold bQ
 split
 ·rfl
 ·next v hf =>
  have ht:(v.link b).t=v.t:=by
   unfold IV.link
   split
   ·unfold IV.gW
    split<;>rfl
   ·rfl
  refine tZ hi fun k hk=>?_
  obtain⟨w,hw,_⟩:=hg k hk
  show ∃ v' u,s.file k=some v'∧(s.upd n.toNat (v.link b)).file k=some u∧_
  rw[SV.fJ hf]
  by_cases e:k=n
  ·subst e
   rw[hf] at hw
   cases hw
   exact⟨v,v.link b,hf,by rw[if_pos rfl],by rw[ht],fun _=>DX v b hi⟩
  ·exact⟨w,w,hw,by rw[if_neg e];exact hw,rfl,fun _=>rfl⟩
end Go.Proofs.YtonhoahnieoebabGreatDoor
