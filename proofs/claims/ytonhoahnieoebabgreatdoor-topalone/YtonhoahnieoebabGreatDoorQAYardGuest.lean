/- A step of a job: what is seen through its list stays, and of what is not left the same is seen through the list that it is to leave (W1). -/
import Derived.Test.YtonhoahnieoebabGreatDoorQAYardSame
namespace Go.Proofs.YtonhoahnieoebabGreatDoor
open Go.RowKit
structure JGo(s:SV)(C m:Nat)(j:JV):Prop where
 ok:JOk s C j
 sok:s.ok m
 nodup:j.l.Nodup
 tab:∀ n v,s.file n=some v→gI v.h v.t
 mir:j.kind=1→j.file ∉ j.l∧∃ v,s.file j.file=some v∧v.h.c=C
 str:j.kind=2→1≤j.deep
 com:j.kind=3→∃ q,j.l.drop j.deep=j.file::q
theorem Ed{l:List Int}(h:l.Nodup){d:Nat}{x:Int}(h1:x∈l.take d)(h2:x∈l.drop d):False:=by
 rw[← List.take_append_drop d l,List.nodup_append] at h;exact h.2.2 x h1 x h2 rfl
theorem JGo.form{s:SV}{C m:Nat}{j:JV}(h:JGo s C m j):∃ r v,bV j=j.into::r∧j.into ∉ r∧s.file j.into=some v∧v.t.length=C∧s.good (C:Int) (j.into::r):=by
 have len:∀ {n v},s.file n=some v→v.h.c=C→v.t.length=C:=fun hf hc=>by
  have:=(h.sok _ _ (SV.dJ hf).2.2).len
  omega
 unfold bV JV.into;rcases h.ok.kind with e|e|e
 ·obtain⟨h1,v,h2,h3⟩:=h.mir e
  refine⟨[],v,by rw[if_pos e,if_neg (by omega)],by simp,by rw[if_neg (by omega)];exact h2,len h2 h3,fun n hn=>?_⟩
  rw[if_neg (by omega),List.mem_singleton] at hn
  exact⟨v,by rw[hn];exact h2,h3⟩
 ·obtain⟨n,r,v,hl,hf,hc⟩:=h.ok.root
  have hhd:j.l.headD 0=n:=by rw[hl];rfl
  have hd:=h.str e;rw[if_neg (by omega),if_pos e,if_pos e,hhd]
  refine⟨j.l.drop j.deep,v,rfl,fun hm=>?_,hf,len hf hc,fun k hk=>?_⟩
  ·refine Ed h.nodup ?_ hm
   obtain⟨k,hk⟩:∃ k,j.deep=k+1:=⟨j.deep-1,by omega⟩
   rw[hk,hl];exact List.mem_cons_self
  ·rcases List.mem_cons.1 hk with e2|e2
   ·exact⟨v,by rw[e2];exact hf,hc⟩
   ·exact h.ok.good k (List.mem_of_mem_drop e2)
 ·obtain⟨q,hq⟩:=h.com e
  rw[if_neg (by omega),if_neg (by omega),if_neg (by omega)]
  have hsub:∀ k∈j.file::q,k∈j.l:=fun k hk=>List.mem_of_mem_drop (by rw[hq];exact hk)
  obtain⟨v,h1,h2⟩:=h.ok.good j.file (hsub _ List.mem_cons_self)
  have hnd:(j.file::q).Nodup:=by
   have:=h.nodup
   rw[← List.take_append_drop j.deep j.l,List.nodup_append] at this;rw[← hq];exact this.2.1
  exact⟨q,v,hq,(List.nodup_cons.1 hnd).1,h1,len h1 h2,fun k hk=>h.ok.good k (hsub k hk)⟩
theorem JGo.Oq{s:SV}{C m:Nat}{j:JV}(h:JGo s C m j)(hm:m+10≤1000000000){c:Nat}(hc:c<C)(hw:j.eY s (c:Int)=true){c2 i:Nat}(hc2:c2<C)(hi:i<4):(j.moved s (c:Int)).1.view c2 i j.l=s.view c2 i j.l:=by
 obtain⟨r,v,_,_,hf,hl,_⟩:=h.form;obtain⟨_,r2⟩:=h.ok.read h.sok hc;unfold JV.moved;by_cases e:c=c2
 ·subst e
  unfold JV.eY at hw;rcases h.ok.kind with k|k|k
  ·have:j.into=j.file:=by unfold JV.into;rw[if_neg (by omega)]
   rw[this];exact Ol (h.mir k).1 c i
  ·rw[if_neg (by omega),if_pos k] at hw
   have hpos:0<s.found j.above (c:Int):=of_decide_eq_true hw;obtain⟨n,r',v',hl',hf',hc'⟩:=h.ok.root;have hin:j.into=n:=by unfold JV.into;rw[if_pos k,hl'];rfl
   have hd:=h.str k
   have hab:j.above=n::r'.take (j.deep-1):=by
    unfold JV.above;rw[hl'];obtain⟨k,hk⟩:∃ k,j.deep=k+1:=⟨j.deep-1,by omega⟩
    rw[hk];rfl
   have h0:(v'.t.getD c (0,0)).1=0:=by
    unfold SV.found at hpos;rw[hab] at hpos;unfold SV.fC at hpos;split at hpos
    ·next h0 =>
     rw[hf'] at h0;have h0':(v'.bH (c:Int)).1=0:=h0;rw[jW] at h0';exact h0'
    ·exact absurd hpos (by decide)
   have hnd:=h.nodup;rw[hl'] at hnd;have hg:=h.ok.good;rw[hl'] at hg;have ht:Top s C m n r' v':=⟨h.sok,hg,hf',(List.nodup_cons.1 hnd).1,h.tab _ _ hf'⟩;rw[hin,hl'];exact Oo ht hm hc h0 hi
  ·rw[if_neg (by omega),if_neg (by omega)] at hw
   have hpos:0≤s.found j.above (c:Int):=of_decide_eq_true hw;obtain⟨q,hq⟩:=h.com k;have hin:j.into=j.file:=by unfold JV.into;rw[if_neg (by omega)]
   rw[hin];have hsplit:j.l.take j.deep++j.l.drop j.deep=j.l:=List.take_append_drop _ _;rw[← hsplit]
   have hsame:∀ t,(s.move j.file (c:Int) t).1.view c i (j.l.take j.deep++j.l.drop j.deep)=s.view c i (j.l.take j.deep++j.l.drop j.deep):=fun t=>by
    refine Oj (fun hx=>Ed h.nodup hx (by rw[hq];exact List.mem_cons_self)) ?_
    unfold SV.found at hpos;rcases SV.rF s (c:Int) j.above 0 with⟨h1,_⟩|⟨_,n,u,_,_,_,h4,h5,h6,_⟩
    ·rw[h1] at hpos;omega
    ·rw[jW] at h6
     exact⟨n,h4,u,h5,h6⟩
   exact hsame _
 ·exact Ef h.ok.good h.sok hm hf (h.tab _ _ hf) (by omega) r2 e hc2 hi
theorem JGo.Om{s:SV}{C m:Nat}{j:JV}(h:JGo s C m j)(hm:m+10≤1000000000){c:Nat}(hc:c<C)(hF:(j.moved s (c:Int)).2=0){c2 i:Nat}(hc2:c2<C)(hi:i<4) :
  (j.moved s (c:Int)).1.view c2 i (bV j)=if c=c2 then s.view c2 i j.l else s.view c2 i (bV j):=by
 obtain⟨r,v,e,hn,hf,hl,hg⟩:=h.form;obtain⟨_,r2⟩:=h.ok.read h.sok hc;have hv:=h.sok _ _ (SV.dJ hf).2.2;rw[e];unfold JV.moved at hF ⊢;by_cases ec:c=c2
 ·subst ec
  rw[if_pos rfl];rw[qJ hf] at hF ⊢;obtain⟨k1,k2⟩:=wX hv (h.tab _ _ hf) hm (by omega) r2 hF hi
  show(s.upd j.into.toNat _).view c i (j.into::r)=_
  rw[qO hf hn,if_neg k1,← iy _ _ _ hi,k2];exact uH h.ok.good h.sok h.ok.ne hc hi
 ·rw[if_neg ec]
  exact Ef hg h.sok hm hf (h.tab _ _ hf) (by omega) r2 ec hc2 hi
theorem FY{s:SV}{C m:Nat}{j:JV}(h:JGo s C m j)(hm:m+10≤1000000000){c i:Nat}(hc:c<C)(hi:i<4):(stepS s j).view c i j.l=s.view c i j.l:=by
 unfold stepS;split
 ·next hx =>
  obtain⟨k,e,hk,_⟩:=h.ok.pick hx.2.1;rw[e] at hx ⊢;exact h.Oq hm hk hx.2.2.2 hc hi
 ·rfl
theorem Aq{s:SV}{C m:Nat}{j:JV}(h:JGo s C m j)(hm:m+10≤1000000000)(hs:Same s C j)(hg:(stepJ s j).stage<4):Same (stepS s j) C (stepJ s j):=by
 have hl:=(iO s j).1;have hk:=(iO s j).2
 have ht:(stepJ s j).deep=j.deep∧bV (stepJ s j)=bV j:=by
  have a:∀ c,(j.went c).deep=j.deep∧bV (j.went c)=bV j:=fun _=>⟨rfl,rfl⟩
  have b:j.fell.deep=j.deep∧bV j.fell=bV j:=⟨rfl,rfl⟩;unfold stepJ;by_cases h1:j.stage=1∧j.some=true∧S4.inB 4 j.lv=true
  ·rw[if_pos h1]
   by_cases g:j.eY s j.pick=true∧(j.moved s j.pick).2≠0
   ·rw[if_pos g];exact b
   ·rw[if_neg g];exact a _
  ·rw[if_neg h1];exact⟨rfl,rfl⟩
 intro c hc hb i hi;rw[ht.2,hl,FY h hm hc hi];by_cases h1:j.stage=1∧j.some=true∧S4.inB 4 j.lv=true
 ·obtain⟨k,e,hkC,_⟩:=h.ok.pick h1.2.1
  by_cases hw:j.eY s (k:Int)=true
  ·have eS:stepS s j=(j.moved s (k:Int)).1:=by
    unfold stepS;rw[e,if_pos ⟨h1.1,h1.2.1,h1.2.2,hw⟩]
   by_cases hF:(j.moved s (k:Int)).2=0
   ·have eJ:stepJ s j=j.went (k:Int):=by
     unfold stepJ;rw[if_pos h1,e,if_neg (fun x=>x.2 hF)]
    rw[eS,h.Om hm hkC hF hc hi];split
    ·rfl
    ·next hne =>
     refine hs c hc ?_ i hi;rw[eJ] at hb;have hb':(S4.eP j.n j.x (k:Int) false).testBit c=false:=hb;rw[S4.pV,if_neg (fun x=>hne (by have:=x.2;omega))] at hb'
     exact hb'
   ·have eJ:stepJ s j=j.fell:=by
     unfold stepJ;rw[if_pos h1,e,if_pos ⟨hw,hF⟩]
    rw[eJ] at hg;exact absurd hg (by show ¬(5:Int)<4;decide)
  ·have eS:stepS s j=s:=by
    unfold stepS;rw[e,if_neg (fun x=>hw x.2.2.2)]
   have eJ:stepJ s j=j.went (k:Int):=by
    unfold stepJ;rw[if_pos h1,e,if_neg (fun x=>hw x.1)]
   rw[eS];by_cases hne:k=c
   ·subst hne
    exact EY h.ok h.str (by simpa using hw)
   ·refine hs c hc ?_ i hi
    rw[eJ] at hb;have hb':(S4.eP j.n j.x (k:Int) false).testBit c=false:=hb;rw[S4.pV,if_neg (fun x=>hne (by have:=x.2;omega))] at hb'
    exact hb'
 ·have eS:stepS s j=s:=by
   unfold stepS;rw[if_neg (fun x=>h1 ⟨x.1,x.2.1,x.2.2.1⟩)]
  have eJ:stepJ s j=j:=by
   unfold stepJ;rw[if_neg h1]
  rw[eS];rw[eJ] at hb;exact hs c hc hb i hi
def Root(s z:SV)(C:Nat)(n:Int)(D:Nat→Prop):Prop :=
 ∃ v u,s.file n=some v∧z.file n=some u∧(∀ k,k≠n→z.file k=s.file k)∧∀ c,c<C→∀ i,i<4→((u.t.getD c (0,0)).1=(v.t.getD c (0,0)).1∧u.sh (4*c+i)=v.sh (4*c+i))∨(D c∧(u.t.getD c (0,0)).1≠0)
theorem Root.refl{s:SV}{C:Nat}{n:Int}{D:Nat→Prop}{v:IV}(h:s.file n=some v):Root s s C n D:=⟨v,v,h,h,fun _ _=>rfl,fun _ _ _ _=>.inl ⟨rfl,rfl⟩⟩
theorem Root.trans{s z w:SV}{C:Nat}{n:Int}{D:Nat→Prop}(h:Root s z C n D)(k:Root z w C n D):Root s w C n D:=by
 obtain⟨v,u,h1,h2,h3,h4⟩:=h;obtain⟨u',t,k1,k2,k3,k4⟩:=k;rw[h2] at k1;cases k1
 refine⟨v,t,h1,k2,fun x hx=>(k3 x hx).trans (h3 x hx),fun c hc i hi=>?_⟩
 rcases k4 c hc i hi with⟨a1,a2⟩|a
 ·rcases h4 c hc i hi with⟨b1,b2⟩|⟨b1,b2⟩
  ·exact .inl ⟨a1.trans b1,a2.trans b2⟩
  ·exact .inr ⟨b1,by rw[a1];exact b2⟩
 ·exact .inr a
theorem Root.lay{s:SV}{C m:Nat}{n:Int}{r:List Int}{v:IV}(h:Top s C m n r v)(hm:m+10≤1000000000){c f k:Nat}{t:ByteArray}(hc:c<C)(ht:t.size=k*16)(hk:f+k≤4){D:Nat→Prop}(hD:D c):Root s (s.lay (n::r) c f t).1 C n D:=by
 have hv:=h.vok;have hl:=h.len
 have up:∀ u:IV,(∀ c2,c2<C→∀ i,i<4→((u.t.getD c2 (0,0)).1=(v.t.getD c2 (0,0)).1∧u.sh (4*c2+i)=v.sh (4*c2+i))∨(D c2∧(u.t.getD c2 (0,0)).1≠0))→Root s (s.upd n.toNat u) C n D:=fun u hu =>
  ⟨v,u,h.file,by rw[SV.fM h.file,if_pos rfl],fun k hk=>by rw[SV.fM h.file,if_neg hk],hu⟩
 unfold SV.lay;simp only
 rw[h.file];simp only
 split
 ·next g =>
  rw[jW] at g;refine up _ fun c2 hc2 i hi=>?_
  have hw:kK v (c:Int) (f:Int) t=true:=by
   unfold kK;rw[Bool.and_eq_true];exact⟨decide_eq_true ⟨by omega,by omega⟩,decide_eq_true ⟨by omega,by omega,by omega,by omega⟩⟩
  rw[qx];by_cases e:c=c2
  ·subst e
   exact .inr ⟨hD,by omega⟩
  ·exact .inl ⟨rfl,(vG hv h.tab hm hw g (by omega) hi).1 (fun x=>e x.1)⟩
 ·refine up _ fun c2 hc2 i hi=>?_
  generalize ((s.read (n::r) c).1.extract 0 (f*16)++t++(s.read (n::r) c).1.extract (f*16+t.size) 64)=T;by_cases hF:v.dL (c:Int) T=0
  ·obtain⟨hct,q,hq⟩:=rE hF
   have h2:=wO hv hm hF (c2:=c2) (by omega) hi
   rw[hq,lD _ hct];by_cases e:c=c2
   ·subst e
    rw[if_pos rfl];exact .inr ⟨hD,by show(2:Int)≠0;decide⟩
   ·rw[if_neg e] at h2 ⊢
    exact .inl ⟨rfl,h2⟩
  ·rw[rD hF]
   exact .inl ⟨rfl,wL hv hF (by omega) hi⟩
theorem Root.clear{s:SV}{C m:Nat}{n:Int}{r:List Int}{v:IV}(h:Top s C m n r v){c:Nat}{D:Nat→Prop}(hD:D c):Root s (s.upd n.toNat (v.clear (c:Int))) C n D:=by
 refine⟨v,v.clear (c:Int),h.file,by rw[SV.fM h.file,if_pos rfl],fun k hk=>by rw[SV.fM h.file,if_neg hk],fun c2 hc2 i hi=>?_⟩
 by_cases hF:v.dU (c:Int)=0
 ·have h1:=(tK hF c2).1
  have h2:=vV h.vok hF (c2:=c2) hi;by_cases e:c=c2
  ·subst e
   rw[if_pos rfl] at h1;exact .inr ⟨hD,by rw[h1];decide⟩
  ·rw[if_neg e] at h1 h2
   exact .inl ⟨h1,h2⟩
 ·rw[tJ hF]
  exact .inl ⟨rfl,tH hF _⟩
theorem Root.bK{s:SV}{C m:Nat}{n:Int}{r:List Int}(h:fA s C m n r)(hm:m+10≤1000000000){fr N:Nat}{p:Pt}(hp:p.fits fr N C){D:Nat→Prop}(hD:D p.c):Root s (SV.bK (n::r) s p).1 C n D:=by
 obtain⟨v,U,h1,_⟩:=h;unfold SV.bK;simp only
 rw[h1.file];simp only
 split
 ·exact .clear h1 hD
 ·split
  ·exact .refl h1.file
  ·refine .lay h1 hm hp.c (k:=p.n) ?_ hp.n4 hD
   show(List.replicate (p.n*16) (0:UInt8)).toArray.size=_
   simp
def inC(fr N c:Nat):Prop:=∃ k,k<N∧(fr+k) / 4=c
theorem Pt.fits.inC{p:Pt}{fr N C:Nat}(h:p.fits fr N C):inC fr N p.c:=by
 have h1:=h.at_;have h2:=h.n4;have h3:=h.n1;have h4:=h.an;exact⟨p.a,by omega,by omega⟩
theorem Root.dY{op:SV→Pt→SV × Int}{C:Nat}{n:Int}{r:List Int}{fr N:Nat}{D:Nat→Prop}(hN:fr+N≤4*C)
  (hop:∀(s:SV) (m:Nat) (p:Pt),fA s C m n r→m+10≤1000000000→p.fits fr N C→Root s (op s p).1 C n D∧fA (op s p).1 C (m+10) n r) :
  ∀(k a:Nat) (s:SV) (m:Nat),N-a≤k→fA s C m n r→m+10*k≤1000000000→Root s (dY op s (aO fr N a)).1 C n D:=by
 intro k
 induction k with
 | zero =>
  intro a s m ha hs _;rw[mM (by omega)]
  obtain⟨v,U,h1,_⟩:=hs;exact .refl h1.file
 | succ k ih =>
  intro a s m ha hs hm;by_cases h:a<N
  ·have h1:=oJ (fr:=fr) h
   have hf:=wW (C:=C) h hN;rw[oM h,nP];generalize ep:eG fr N a=p at h1 hf ⊢;obtain⟨l1,s1⟩:=hop s m p hs (by omega) hf
   split
   ·exact l1.trans (ih (a+p.n) (op s p).1 (m+10) (by omega) s1 (by omega))
   ·exact l1
  ·rw[mM h]
   obtain⟨v,U,h1,_⟩:=hs;exact .refl h1.file
theorem PO{s:SV}{C m:Nat}{n:Int}{r:List Int}(h:fA s C m n r){fr:Nat}{t:ByteArray}(ht:t.size % 16=0)(hf:s.bP (n::r) (fr:Int) ((t.size / 16:Nat):Int)=0)(hm:m+10*(t.size / 16)≤1000000000):Root s (s.put (n::r) (fr:Int) t).1 C n (inC fr (t.size / 16)):=by
 have hg:s.good (C:Int) (n::r):=by obtain⟨v,U,h1,_⟩:=h;exact h1.good
 obtain⟨_,_,_,hr⟩:=SV.jr hg hf;unfold SV.put;rw[if_pos ht,if_pos hf,show((fr:Int)).toNat=fr by omega]
 refine Root.dY (op:=SV.iM (n::r) t) (r:=r) (fr:=fr) (N:=t.size / 16) (by omega) (fun s m p hs hm hp=>⟨?_,hs.lay hm _ _ _⟩) (t.size / 16) 0 s m (by omega) h hm
 obtain⟨v,U,h1,_⟩:=hs;exact .lay h1 hm hp.c (k:=p.n) (qj (by have:=hp.an;omega)) hp.n4 hp.inC
theorem TU{s:SV}{C m:Nat}{n:Int}{r:List Int}(h:fA s C m n r){fr N:Nat}(hf:s.bP (n::r) (fr:Int) (N:Int)=0)(hm:m+10*N≤1000000000):Root s (s.wipe (n::r) (fr:Int) (N:Int)).1 C n (inC fr N):=by
 have hg:s.good (C:Int) (n::r):=by obtain⟨v,U,h1,_⟩:=h;exact h1.good
 obtain⟨_,_,_,hr⟩:=SV.jr hg hf;unfold SV.wipe;rw[if_pos hf,show((fr:Int)).toNat=fr by omega,show((N:Int)).toNat=N by omega]
 exact Root.dY (op:=SV.bK (n::r)) (r:=r) (fr:=fr) (N:=N) (by omega) (fun s m p hs hm hp=>⟨.bK hs hm hp hp.inC,(AP hs hm hp).2⟩) N 0 s m (by omega) h hm
theorem JU{j:JV}(hk:j.kind≠2)(hg:j.stage<4)(fr:Nat):∀ N c,(dh j fr N).x.testBit c=false→j.x.testBit c=false∧(c<j.n→¬inC fr N c):=by
 intro N
 induction N with
 | zero=>intro c h;exact⟨h,fun _ ⟨k,hk,_⟩=>absurd hk (Nat.not_lt_zero _)⟩
 | succ N ih =>
  intro c h;obtain⟨d1,d2,d3,d4⟩:=oD j fr N;have hkind:(dh j fr N).kind=j.kind:=by have:=congrArg aS.kind d2;exact this
  have h':(dD (dh j fr N) (((fr+N) / 4:Nat):Int)).x.testBit c=false:=h;unfold dD at h';rw[if_neg (by rw[hkind,d3];omega)] at h'
  have h2:(S4.eP (dh j fr N).n (dh j fr N).x (((fr+N) / 4:Nat):Int) true).testBit c=false:=h';rw[S4.pV] at h2;split at h2
  ·cases h2
  ·next hx =>
   obtain⟨a1,a2⟩:=ih c h2;refine⟨a1,fun hn x=>?_⟩
   have hne:c≠(fr+N) / 4:=fun e=>hx ⟨decide_eq_true ⟨by omega,by rw[d4];omega⟩,by rw[e]⟩
   obtain⟨k,hk2,e⟩:=x;by_cases ek:k=N
   ·subst ek;exact hne e.symm
   ·exact a2 hn ⟨k,by omega,e⟩
theorem Root.same{s z:SV}{C m:Nat}{j:JV}(h:JGo s C m j)(hg:j.stage<4){n:Int}{r:List Int}(hl:j.l=n::r){fr N:Nat}(hr:Root s z C n (inC fr N))(hs:Same s C j):Same z C (dh j fr N):=by
 obtain⟨v,u,h1,h2,h3,h4⟩:=hr;obtain⟨d1,d2,d3,d4⟩:=oD j fr N;have hkind:(dh j fr N).kind=j.kind:=by have:=congrArg aS.kind d2;exact this
 have hfile:(dh j fr N).file=j.file:=by have:=congrArg aS.file d2;exact this
 have hdeep:∀ k,(dh j fr k).deep=j.deep:=by
  intro k
  induction k with
  | zero=>rfl
  | succ k ih =>
   show(dD _ _).deep=_
   unfold dD;split<;>exact ih
 have htl:bV (dh j fr N)=bV j:=by unfold bV;rw[hkind,hfile,d1,hdeep]
 have hn:=h.ok.n;have hnr:n ∉ r:=by have:=h.nodup;rw[hl] at this;exact(List.nodup_cons.1 this).1
 have hgood:=h.ok.good;rw[hl] at hgood
 have keep:∀ c,c<C→∀ i,i<4→((u.t.getD c (0,0)).1=(v.t.getD c (0,0)).1∧u.sh (4*c+i)=v.sh (4*c+i))→∀ l,s.good (C:Int) l→z.view c i l=s.view c i l:=fun c hc i hi hst l hgl=>by
  refine sD hi fun k hk=>?_
  obtain⟨w,hw,_⟩:=hgl k hk;by_cases e:k=n
  ·subst e
   exact⟨v,u,h1,h2,hst.1,fun _=>hst.2⟩
  ·exact⟨w,w,hw,by rw[h3 k e];exact hw,rfl,fun _=>rfl⟩
 obtain⟨q,w,etl,_,_,_,hgt⟩:=h.form;intro c hc hb i hi;rw[htl,d1];by_cases hk:j.kind=2
 ·have hx:(dh j fr N).x=j.x:=by
   have:∀ k,dh j fr k=j:=by
    intro k
    induction k with
    | zero=>rfl
    | succ k ih =>
     show dD (dh j fr k) _=j
     rw[ih];unfold dD;rw[if_pos (.inl hk)]
   rw[this]
  rw[hx] at hb;rcases h4 c hc i hi with hst|⟨_,hne⟩
  ·rw[keep c hc i hi hst _ (by rw[etl];exact hgt),keep c hc i hi hst _ h.ok.good]
   exact hs c hc hb i hi
  ·have e1:bV j=n::j.l.drop j.deep:=by
    unfold bV;rw[if_neg (by omega),if_pos hk,hl];rfl
   rw[e1,jO h2,if_neg hne];rw[hl,jO h2,if_neg hne]
 ·obtain⟨hb1,hb2⟩:=JU hk hg fr N c hb
  have hno:=hb2 (by omega)
  rcases h4 c hc i hi with hst|⟨hin,_⟩
  ·rw[keep c hc i hi hst _ (by rw[etl];exact hgt),keep c hc i hi hst _ h.ok.good]
   exact hs c hc hb1 i hi
  ·exact absurd hin hno
theorem Told.fail{v:IV}{may:Nat→List (List UInt8)}(h:Told v may)(n:Int):Told { v with d:=v.d.failing n } may:=⟨h.vers,h.now,h.held⟩
theorem FH{v:IV}{c:Nat}{e:Int × Int}(h:v.d.aQ≠0):v.set c e={ v with d:=v.d.failing (-1) }:=by
 unfold IV.set;rw[if_neg h];unfold IV.dO;rw[pW _ _ h]
theorem Told.I4{v:IV}{U:List (Int × Int)}{m:Nat}{may may':Nat→List (List UInt8)}(h:Told v may)(hs:Safe v U)(hok:v.ok m)(hm:m+10<1000000000)(c:Int)
  (hmay:∀ k x,x∈may k→x∈may' k) (hn:∀ k,k<4*v.t.length→(v.clear c).sh k∈may' k):Told (v.clear c) may':=by
 unfold IV.clear at hn ⊢;split
 ·next hw =>
  rw[if_pos hw] at hn;obtain⟨t0,t1⟩:=IV.kH hw.1;by_cases hp:v.d.aQ=0
  ·exact h.set hs hok (by omega) hp (by omega) (CP _) hmay hn (fun g=>by cases g)
  ·rw[FH hp];exact(h.mono hmay).fail _
 ·exact h.mono hmay
theorem LQ{v:IV}{q:Nat}(hq:q∈v.fD):(∀ e∈v.t,e≠(2,(q:Int)))∧q ∉ v.held:=by
 have hop:=(IV.pz hq).2;unfold IV.lX IV.vk IV.uh at hop;simp only[Bool.and_eq_true,Bool.not_eq_true',List.any_eq_false,decide_eq_true_eq] at hop;exact⟨hop.1,fun hm=>hop.2 q hm rfl⟩
theorem Told.dV{v:IV}{m:Nat}{may:Nat→List (List UInt8)}(h:Told v may)(hok:v.ok m)(hm:m+10<1000000000){q:Nat}(hq:q∈v.fD){s:ByteArray}(hs:s.size=64):Told { v with d:=(v.dV q s).1 } may:=by
 have hb2:=(kM hok.h hok.need).2 q (by have:=HV.fE hok.h;have:=(IV.pz hq).1;omega)
 have hl:=xw hok.d (a:=aI v.h q+0) (s:=s) (c:=4) (by omega) (by omega) (by omega)
 have hpv:=EK v.d (aI v.h q+0) s 4 hl (by rw[hok.d.ok.same];omega) 4 (Nat.le_refl _)
 have hlow:=xA v.d (aI v.h q+0) s 4;obtain⟨f1,f2⟩:=LQ hq;refine⟨fun c2 hc2 x hv j hj=>?_,fun k hk=>?_,h.held⟩
 ·have hc2':c2<v.t.length:=hc2
  have hv':(v.d.puts (aI v.h q+0) s 4).1.ver (1+c2 / 8) x:=hv;have hold:=h.vers c2 hc2' x ((hlow (1+c2 / 8) (by have:=qX hok q;have:=kV hc2';omega)).1 x hv') j hj
  refine⟨hold.1,hold.2.1,fun g=>⟨(hold.2.2 g).1,fun y hy=>?_⟩⟩
  have hy':(v.d.puts (aI v.h q+0) s 4).1.ver (aI v.h (jw (bytesOf x) (c2 % 8)).2.toNat+j) y:=hy;rcases hpv _ y hy' with h1|⟨h1,h2,_⟩
  ·exact(hold.2.2 g).2 y h1
  ·exfalso
   have hq2:(jw (bytesOf x) (c2 % 8)).2.toNat=q:=by
    unfold aI at h1 h2;omega
   rcases(hold.2.2 g).1 with g1|g1
   ·rw[hq2] at g1;exact f2 g1
   ·rw[g1] at g hq2
    have hb:=iK (hok.ents _ (getD_mem hc2'));refine f1 _ (getD_mem hc2') (Prod.ext g ?_);show(v.t.getD c2 (0,0)).2=(q:Int)
    omega
 ·have hk':k<4*v.t.length:=hk
  have:=wJ hok hq s (c:=k / 4) (j:=k % 4) (by omega) (by omega)
  rw[show 4*(k / 4)+k % 4=k by omega] at this
  rw[this];exact h.now k hk'
theorem Told.fZ{v:IV}{U:List (Int × Int)}{m:Nat}{may:Nat→List (List UInt8)}(h:Told v may)(hs:Safe v U)(hok:v.ok m)(hm:m+10<1000000000){q:Nat}(hq:q∈v.fD){s:ByteArray}(h64:s.size=64):Told (v.fZ q s) may∧Safe (v.fZ q s) v.t:=by
 have hfd:=hok.dV hq h64 (by omega)
 have hs2:Safe { v with d:=(v.dV q s).1 } U:=by
  unfold IV.dV;exact hs.puts (by have:=qX hok q;omega) s 4
 have hs3:Safe (v.fZ q s) v.t:=hs2.flush hfd.sn;have hok2:=hok.dev hfd (m':=m+4) (by omega)
 exact⟨(h.dV hok hm hq h64).flush hs2 hok2 (fun k hk=>(h.dV hok hm hq h64).now k hk),hs3⟩
theorem Told.KW{v:IV}{U:List (Int × Int)}{m:Nat}{may may':Nat→List (List UInt8)}(h:Told v may)(hs:Safe v U)(hok:v.ok m)(hm:m+10<1000000000)(c:Int)(s:ByteArray)
    (hmay:∀ k x,x∈may k→x∈may' k) (hn:∀ k,k<4*v.t.length→(v.fill c s).sh k∈may' k):Told (v.fill c s) may':=by
  unfold IV.fill at hn ⊢;split
  · next h1 =>
    rw[if_pos h1] at hn;split
    · exact h.mono hmay
    · next h2 =>
      rw[if_neg h2] at hn
      cases hq:v.fD with
      | nil=>exact h.mono hmay
      | cons q tl =>
        rw[hq] at hn;have hqm:q∈v.fD:=by rw[hq];exact List.mem_cons_self
        obtain⟨t0,t1⟩:=IV.kH h1.1;have hc:c.toNat<v.t.length:=by omega
        simp only at hn ⊢;split
        · next hz =>
          obtain⟨hT,hs3⟩:=h.fZ hs hok hm hqm h1.2;have hok3:=hok.fZ hqm h1.2 (show m+10≤1000000000 by omega)
          rw[if_pos hz] at hn;by_cases hp:(v.fZ q s).d.aQ=0
          · refine hT.set (may':=may') hs3 hok3 (by omega) hp (c:=c.toNat) hc (e:=(2,(q:Int))) (wQ hok hqm) hmay hn (fun _=>⟨fun j hj x hx=>?_,(fun hx=>by cases hx),h2⟩)
            have h4:=hn (4*c.toNat+j) (by omega)
            rw[Ak hok3 hp hc _ hj,if_pos rfl] at h4
            have hx2:x=(v.fZ q s).d.seen.getD (aI v.h (q:Int).toNat+j) []:=by
              rcases hx with hx|⟨y,hy,_⟩
              · exact hx
              · cases hy
            rw[hx2];exact h4
          · rw[FH hp];exact(hT.mono hmay).fail _
        · exact(h.dV hok hm hqm h1.2).mono hmay
  · exact h.mono hmay
def aZ(s:SV):Prop:=∀ i v,s i=some v→∃ U,Safe v U
theorem aZ.file{s:SV}(h:aZ s){n:Int}{v:IV}(hf:s.file n=some v):∃ U,Safe v U:=h _ _ (SV.dJ hf).2.2
theorem aZ.tab{s:SV}(h:aZ s){n:Int}{v:IV}(hf:s.file n=some v):gI v.h v.t:=by
 obtain⟨U,hs⟩:=h.file hf;exact hs.sub.good hs.good
theorem aZ.upd{s:SV}(h:aZ s)(i:Nat){u:IV}(hu:∃ U,Safe u U):aZ (s.upd i u):=fun k v e=>by
 unfold SV.upd at e;split at e
 ·cases e;exact hu
 ·exact h k v e
theorem aZ.gone{s:SV}(h:aZ s)(i:Nat):aZ (s.gone i):=fun k v e=>by
 unfold SV.gone at e;split at e
 ·cases e
 ·exact h k v e
theorem aZ.lay{s:SV}{m:Nat}(h:aZ s)(hok:s.ok m)(hm:m+10≤1000000000)(l:List Int)(c f:Nat)(t:ByteArray):aZ (s.lay l c f t).1:=by
 unfold SV.lay;split
 ·exact h
 ·split
  ·exact h
  ·next v hf =>
   obtain⟨U,hs⟩:=h.file hf;split
   ·exact h.upd _ ⟨U,hs.write (hok.file hf) _ _ _⟩
   ·exact h.upd _ (hs.fill (hok.file hf) hm _ _)
theorem aZ.bK{s:SV}{m:Nat}(h:aZ s)(hok:s.ok m)(hm:m+10≤1000000000)(l:List Int)(p:Pt):aZ (SV.bK l s p).1:=by
 unfold SV.bK;split
 ·exact h
 ·split
  ·exact h
  ·next v hf =>
   obtain⟨U,hs⟩:=h.file hf;split
   ·exact h.upd _ ⟨U,hs.clear (hok.file hf) _⟩
   ·split
    ·exact h
    ·exact h.lay hok hm _ _ _ _
theorem aZ.dY{op:SV→Pt→SV × Int}(hop:∀(s:SV) (m:Nat) p,aZ s→s.ok m→m+10≤1000000000→aZ (op s p).1∧(op s p).1.ok (m+10)):∀(P:List Pt) (s:SV) (m:Nat),aZ s→s.ok m→m+10*P.length≤1000000000→aZ (dY op s P).1:=by
 intro P
 induction P with
 | nil=>intro s m h _ _;exact h
 | cons p r ih =>
  intro s m h hok hm;simp only[List.length_cons] at hm;rw[nP];obtain⟨h1,h2⟩:=hop s m p h hok (by omega)
  split
  ·exact ih _ _ h1 h2 (by omega)
  ·exact h1
theorem aZ.put{s:SV}{m:Nat}(h:aZ s)(hok:s.ok m)(l:List Int)(fr:Int)(t:ByteArray)(hm:m+10*(t.size / 16)≤1000000000):aZ (s.put l fr t).1:=by
 have hl:=nV fr.toNat (t.size / 16) _ 0 (Nat.le_refl _);unfold SV.put;split
 ·split
  ·exact aZ.dY (fun s m p h hok hm=>⟨h.lay hok hm _ _ _ _,hok.lay _ _ _ _ hm⟩) _ _ m h hok (by omega)
  ·exact h
 ·exact h
theorem aZ.wipe{s:SV}{m:Nat}(h:aZ s)(hok:s.ok m)(l:List Int)(fr n:Int)(hm:m+10*n.toNat≤1000000000):aZ (s.wipe l fr n).1:=by
 have hl:=nV fr.toNat n.toNat _ 0 (Nat.le_refl _);unfold SV.wipe;split
 ·exact aZ.dY (fun s m p h hok hm=>⟨h.bK hok hm _ _,hok.bK _ _ hm⟩) _ _ m h hok (by omega)
 ·exact h
theorem aZ.move{s:SV}{m:Nat}(h:aZ s)(hok:s.ok m)(hm:m+10≤1000000000)(n c:Int)(t:ByteArray):aZ (s.move n c t).1:=by
 unfold SV.move;split
 ·exact h
 ·next v hf =>
  obtain⟨U,hs⟩:=h.file hf;split
  ·exact h.upd _ ⟨U,hs.clear (hok.file hf) _⟩
  ·split
   ·exact h.upd _ ⟨U,hs.write (hok.file hf) _ _ _⟩
   ·exact h.upd _ (hs.fill (hok.file hf) hm _ _)
theorem aZ.cZ{s:SV}{m:Nat}(h:aZ s)(hok:s.ok m)(n:Int):aZ (s.cZ n):=by
 unfold SV.cZ;split
 ·exact h
 ·next v hf =>
  obtain⟨U,hs⟩:=h.file hf;exact h.upd _ ⟨v.t,hs.flush (hok.file hf).d.sn⟩
theorem aZ.bQ:∀(l:List Int) {s:SV} {m:Nat},aZ s→s.ok m→aZ (s.bQ l):=by
 intro l
 induction l with
 | nil=>intro s m h _;exact h
 | cons n r ih=>intro s m h hok;exact ih (h.cZ hok n) (hok.cZ n)
theorem aZ.link{s:SV}{m:Nat}(h:aZ s)(hok:s.ok m)(n b:Int):aZ (bI s n b).1:=by
 unfold bI;split
 ·exact h
 ·next v hf =>
  obtain⟨U,hs⟩:=h.file hf;exact h.upd _ (hs.link (hok.file hf) b)
theorem aZ.step{s:SV}{m:Nat}(h:aZ s)(hok:s.ok m)(hm:m+10≤1000000000)(j:JV):aZ (stepS s j):=by
 unfold stepS;split
 ·exact h.move hok hm _ _ _
 ·exact h
theorem aZ.settle{s:SV}{m:Nat}(h:aZ s)(hok:s.ok m)(j:JV):aZ (aF s j):=by
 unfold aF;split
 ·split
  ·exact h.link hok _ _
  ·exact aZ.bQ _ h hok
 ·exact h
theorem Ll(s:SV)(n:Int)(c i:Nat)(hi:i<4){C:Int}{l:List Int}(hg:s.good C l):(s.cZ n).view c i l=s.view c i l:=by
 unfold SV.cZ;split
 ·rfl
 ·next v hf =>
  refine sD hi fun k hk=>?_
  obtain⟨w,hw,_⟩:=hg k hk;rw[SV.fM hf];by_cases e:k=n
  ·subst e
   rw[hf] at hw;cases hw
   exact⟨v,v.flush,hf,by rw[if_pos rfl],rfl,fun _=>rfl⟩
  ·exact⟨w,w,hw,by rw[if_neg e];exact hw,rfl,fun _=>rfl⟩
theorem ug(c i:Nat)(hi:i<4){C:Int}{l:List Int}:∀(r:List Int) (s:SV),s.good C l→(s.bQ r).view c i l=s.view c i l:=by
 intro r
 induction r with
 | nil=>intro s _;rfl
 | cons n r ih =>
  intro s hg;have:=ih (s.cZ n) ((bF.cZ l s n).good hg)
  exact this.trans (Ll s n c i hi hg)
theorem NQ(s:SV)(n b:Int)(c i:Nat)(hi:i<4){C:Int}{l:List Int}(hg:s.good C l):(bI s n b).1.view c i l=s.view c i l:=by
 unfold bI;split
 ·rfl
 ·next v hf =>
  have ht:(v.link b).t=v.t:=by
   unfold IV.link;split
   ·unfold IV.gJ
    split<;>rfl
   ·rfl
  refine sD hi fun k hk=>?_
  obtain⟨w,hw,_⟩:=hg k hk;show ∃ v' u,s.file k=some v'∧(s.upd n.toNat (v.link b)).file k=some u∧_
  rw[SV.fM hf];by_cases e:k=n
  ·subst e
   rw[hf] at hw;cases hw
   exact⟨v,v.link b,hf,by rw[if_pos rfl],by rw[ht],fun _=>DW v b hi⟩
  ·exact⟨w,w,hw,by rw[if_neg e];exact hw,rfl,fun _=>rfl⟩
structure mQ(s:SV)(C:Nat)(j:JV):Prop where
 same:Same s C j
 str:j.kind=2→1≤j.deep
 com:j.kind=3→∃ q,j.l.drop j.deep=j.file::q
 str2:j.kind=2→(j.file = -1∧j.l.drop j.deep=[])∨∃ q,j.l.drop j.deep=j.file::q
theorem mQ.as{s z:SV}{C:Nat}{j a:JV}(h:mQ s C j)(hs:Same z C a)(hl:a.l=j.l)(hk:iq a=iq j)(hd:a.deep=j.deep):mQ z C a:=by
 have hkind:a.kind=j.kind:=by have:=congrArg aS.kind hk;exact this
 have hfile:a.file=j.file:=by have:=congrArg aS.file hk;exact this
 exact⟨hs,fun x=>by rw[hd];exact h.str (by rw[← hkind];exact x),fun x=>by rw[hd,hl,hfile];exact h.com (by rw[← hkind];exact x),fun x=>by rw[hd,hl,hfile];exact h.str2 (by rw[← hkind];exact x)⟩
structure YG(y:YV)(C m:Nat):Prop where
 ok:YOk y C m
 safe:aZ y.s
 job:∀ j,y.j=some j→j.stage<4→mQ y.s C j
theorem YG.go{y:YV}{C m:Nat}(h:YG y C m){j:JV}(hj:y.j=some j)(hg:j.stage<4):JGo y.s C m j:=by
 have hin:=h.ok.job j hj hg;have hh:=h.job j hj hg;refine⟨hin.ok,h.ok.s,by rw[hin.lst];exact h.ok.ch.nodup,fun n v hv=>h.safe.tab hv,fun e=>?_,hh.str,hh.com⟩
 have hk:y.kd.kind=1:=by rw[← hin.dsk];exact e
 have hf:y.kd.file=j.file:=by rw[← hin.dsk];rfl
 obtain⟨v,h1,_,h3,h4⟩:=hin.tgt.mir hk;rw[hf] at h1 h4;exact⟨by rw[hin.lst];exact h4,v,h1,h3⟩
theorem YG.top{y:YV}{C m:Nat}(h:YG y C m):∃ r,y.l=y.kd.root::r∧fA y.s C m y.kd.root r:=by
 obtain⟨r,e⟩:=h.ok.ch.head;obtain⟨v,h1,_⟩:=h.ok.ch.root;obtain⟨U,hs⟩:=h.safe.file h1;have hg:=h.ok.ch.good;have hn:=h.ok.ch.nodup;rw[e] at hg hn;exact⟨r,e,.of h.ok.s hg h1 (List.nodup_cons.1 hn).1 hs⟩
theorem YG.write{y:YV}{C m:Nat}(h:YG y C m){fr:Nat}{t:ByteArray}(ht:t.size % 16=0)(hf:y.s.bP y.l (fr:Int) ((t.size / 16:Nat):Int)=0)(hm:m+10*(t.size / 16)≤1000000000) :
  Laid y.s (y.write (fr:Int) t).s C y.l fr (fr+t.size / 16) (fun k=>chunk t (k-fr)) (y.dB (fr:Int) t=0)∧YG (y.write (fr:Int) t) C (m+10*(t.size / 16))∧(y.write (fr:Int) t).l=y.l:=by
 obtain⟨r,el,hT⟩:=h.top;have hok:=h.ok.write (fr:Int) t hm
 have e1:y.write (fr:Int) t=({ y with s:=(y.s.put y.l (fr:Int) t).1 }:YV).mark fr (t.size / 16):=by
  unfold YV.write;rw[if_pos ⟨ht,hf⟩];rfl
 have e2:y.dB (fr:Int) t=(y.s.put y.l (fr:Int) t).2:=by
  unfold YV.dB;rw[if_pos ⟨ht,hf⟩]
 have es:(y.write (fr:Int) t).s=(y.s.put y.l (fr:Int) t).1:=by rw[e1];rfl
 have hf':=hf;rw[el] at hf';refine⟨?_,⟨hok,by rw[es];exact h.safe.put h.ok.s _ _ _ hm,fun a ha hg=>?_⟩,by rw[e1];rfl⟩
 ·rw[es,e2,el]
  exact(PN hT ht hf' hm).1
 ·rw[es]
  have ha':(y.j.map fun j=>dh j fr (t.size / 16))=some a:=by rw[e1] at ha;exact ha
  cases hj:y.j with
  | none=>rw[hj] at ha';cases ha'
  | some j =>
   rw[hj] at ha';have e:dh j fr (t.size / 16)=a:=Option.some.inj ha';obtain⟨d1,d2,d3,d4⟩:=oD j fr (t.size / 16);have hgj:j.stage<4:=by rw[← d3,e];exact hg
   have hgo:=h.go hj hgj;have hh:=h.job j hj hgj;have hin:=h.ok.job j hj hgj;have hS:=Root.same hgo hgj (n:=y.kd.root) (r:=r) (by rw[hin.lst,el]) (PO hT ht hf' hm) hh.same
   have hdeep:∀ k,(dh j fr k).deep=j.deep:=by
    intro k
    induction k with
    | zero=>rfl
    | succ k ih =>
     show(dD _ _).deep=_
     unfold dD;split<;>exact ih
   rw[← e];exact hh.as (by rw[el];exact hS) d1 d2 (hdeep _)
theorem yE(y:YV)(f back:Int)(c i:Nat):(y.blank f back).s.view c i y.l=y.s.view c i y.l:=by
 unfold YV.blank;split
 ·next hx =>
  split
  ·rfl
  ·next hu =>
   obtain⟨hn,_⟩:=rZ hu;split
   ·exact sF fun n hm=>by
     show(y.s.upd f.toNat _).file n=_
     rw[pq _ hx.1 hx.2,if_neg (fun (e:n=f)=>hn (e▸hm))]
   ·exact sF fun n hm=>by
     show(y.s.gone f.toNat).file n=_
     rw[wG _ hx.1 hx.2,if_neg (fun (e:n=f)=>hn (e▸hm))]
 ·rfl
theorem Gx{s:SV}{f:Int}{d:DV}{h:HV}{l:List Int}(hf:s.file f=some (crV d h))(c i:Nat):s.view c i (f::l)=s.view c i l:=by
 rw[jO hf]
 have ht:(crV d h).t=crT h:=by
  unfold crV IV.gJ;split<;>rfl
 rw[ht]
 have:(crT h).getD c (0,0)=(0,0):=by
  unfold crT;rw[List.getD_eq_getElem?_getD]
  cases hx:(List.replicate h.c.toNat ((0:Int),(0:Int)))[c]? with
  | none=>rfl
  | some e =>
   have:=List.mem_of_getElem? hx
   rw[List.eq_of_mem_replicate this];rfl
 rw[this,if_pos rfl]
theorem Ar{s:SV}{C root:Int}{j:JV}(h:Chain s C root j.l)(h2:j.kind=2)(hd:1≤j.deep)(hs:(j.file = -1∧j.l.drop j.deep=[])∨∃ q,j.l.drop j.deep=j.file::q)(hw:(bI s root j.file).2=0):Chain (bI s root j.file).1 C root (bV j):=by
 obtain⟨r,el⟩:=h.head
 have et:bV j=root::j.l.drop j.deep:=by
  unfold bV;rw[if_neg (by omega),if_pos h2,el];rfl
 rw[et];rcases hs with⟨e,e2⟩|⟨q,e⟩
 ·rw[e2]
  rw[e] at hw ⊢;exact h.DY hw
 ·rw[e]
  have hsplit:j.l=root::r.take (j.deep-1)++j.file::q:=by
   rw[← e];obtain⟨k,hk⟩:∃ k,j.deep=k+1:=⟨j.deep-1,by omega⟩
   rw[hk,el];show root::r=root::(r.take k++r.drop k)
   rw[List.take_append_drop]
  rw[hsplit] at h;exact h.linked (p:=r.take (j.deep-1)) (q:=q) hw
theorem xX(s:SV)(j:JV):(stepJ s j).deep=j.deep:=by
 have a:∀ c,(j.went c).deep=j.deep:=fun _=>rfl
 have b:j.fell.deep=j.deep:=rfl;unfold stepJ;by_cases h1:j.stage=1∧j.some=true∧S4.inB 4 j.lv=true
 ·rw[if_pos h1]
  by_cases g:j.eY s j.pick=true∧(j.moved s j.pick).2≠0
  ·rw[if_pos g];exact b
  ·rw[if_neg g];exact a _
 ·rw[if_neg h1]
theorem YG.step{y:YV}{C m:Nat}(h:YG y C m)(hm:m+30<1000000000):YG y.step C (m+21)∧∀ c,c<C→∀ i,i<4→y.step.s.view c i y.step.l=y.s.view c i y.l:=by
  have hok:=h.ok.step hm
  cases hj:y.j with
  | none =>
    have e:y.step=y:=by unfold YV.step;rw[hj]
    rw[e] at hok ⊢;exact⟨⟨hok,h.safe,h.job⟩,fun _ _ _ _=>rfl⟩
  | some j =>
    by_cases hx:4≤j.stage
    · have e:y.step=y:=by unfold YV.step;rw[hj];simp only;rw[if_pos hx]
      rw[e] at hok ⊢;exact⟨⟨hok,h.safe,h.job⟩,fun _ _ _ _=>rfl⟩
    · have hgj:j.stage<4:=by omega
      have hgo:=h.go hj hgj;have hh:=h.job j hj hgj;have hin:=h.ok.job j hj hgj;have hz:=h.safe.step h.ok.s (show m+10≤1000000000 by omega) j
      have hzok:=h.ok.s.step j (show m+10≤1000000000 by omega)
      have hv:∀ c,c<C→∀ i,i<4→(stepS y.s j).view c i y.l=y.s.view c i y.l:=fun c hc i hi=>by
        have:=FY hgo (show m+10≤1000000000 by omega) hc hi
        rw[hin.lst] at this;exact this
      have hha:(stepJ y.s j).stage<4→mQ (stepS y.s j) C (stepJ y.s j):=fun hg =>
        hh.as (Aq hgo (by omega) hh.same hg) (iO _ _).1 (iO _ _).2 (xX _ _)
      have plain:∀(Y:YV),Y.s=stepS y.s j→Y.l=y.l→Y.j=some (stepJ y.s j)→YOk Y C (m+21)→YG Y C (m+21)∧∀ c,c<C→∀ i,i<4→Y.s.view c i Y.l=y.s.view c i y.l:=fun Y e1 e2 e3 hY=>by
        refine⟨⟨hY,by rw[e1];exact hz,fun b hb hg=>?_⟩,fun c hc i hi=>by rw[e1,e2];exact hv c hc i hi⟩
        rw[e3] at hb;cases hb
        rw[e1];exact hha hg
      have est:y.step=(if eU y.s j≠0 then (if (stepJ y.s j).stage=5 then ({ y with s:=stepS y.s j,j:=some (stepJ y.s j) }:YV).aj (ak y.kd.root) else { y with s:=stepS y.s j,j:=some (stepJ y.s j) })
          else if y.kd.kind≠2∨(stepJ y.s j).state≠3 then { y with s:=stepS y.s j,j:=some (stepJ y.s j) }
          else if dH (stepS y.s j) (stepJ y.s j)≠0 then ({ y with s:=aF (stepS y.s j) (stepJ y.s j),j:=some (aK (stepS y.s j) (stepJ y.s j)) }:YV).aj (ak y.kd.root)
          else { ({ y with s:=aF (stepS y.s j) (stepJ y.s j),l:=((aF (stepS y.s j) (stepJ y.s j)).walk y.kd.root).1,j:=some ((aK (stepS y.s j) (stepJ y.s j)).at 4) }:YV).aj (ak y.kd.root) with kd:=ak y.kd.root }):=by
        unfold YV.step;rw[hj];simp only
        rw[if_neg hx]
      rw[est] at hok ⊢;clear est;split
      · next c1 =>
        rw[if_pos c1] at hok;split
        · next c2 =>
          rw[if_pos c2] at hok;obtain⟨d1,_,d3,d4⟩:=fP { y with s:=stepS y.s j,j:=some (stepJ y.s j) } (ak y.kd.root)
          exact plain _ d1 d3 d4 hok
        · next c2=>rw[if_neg c2] at hok;exact plain _ rfl rfl rfl hok
      · next c1 =>
        rw[if_neg c1] at hok;split
        · next c2=>rw[if_pos c2] at hok;exact plain _ rfl rfl rfl hok
        · next c2 =>
          rw[if_neg c2] at hok;rw[not_or] at c2;have hk2:y.kd.kind=2:=Classical.byContradiction c2.1;have hs3:(stepJ y.s j).state=3:=Classical.byContradiction c2.2
          have hst:(stepJ y.s j).stage<4:=by
            unfold JV.state at hs3;split at hs3
            · next e=>omega
            · omega
          have hh2:=hha hst;have hla:(stepJ y.s j).l=y.l:=(iO y.s j).1.trans hin.lst;have hka:iq (stepJ y.s j)=y.kd:=(iO y.s j).2.trans hin.dsk;have hcz:Chain (stepS y.s j) C y.kd.root y.l:=h.ok.ch.over (.step _ _ _);generalize ea:stepJ y.s j=a at hok hs3 hh2 hla hka hst ⊢;generalize ez:stepS y.s j=z at hok hh2 hcz hz hzok hv ⊢;have ha2:a.kind=2:=by rw[← hk2,← hka];rfl
          have haf:y.kd.file=a.file:=by rw[← hka];rfl
          have hhd:a.l.headD 0=y.kd.root:=by
            obtain⟨r,e⟩:=hcz.head;rw[hla,e];rfl
          obtain⟨es,ef⟩:=uU (s:=z) hs3 ha2;rw[hhd] at es ef;rw[ef,es] at hok ⊢;have hlv:∀ c i,i<4→∀ l,z.good (C:Int) l→(bI z y.kd.root a.file).1.view c i l=z.view c i l:=fun c i hi l hg=>NQ z _ _ c i hi hg
          split
          · next hf =>
            rw[if_pos hf] at hok;have hJ:=uT (s:=z) hs3 ha2 (by rw[hhd];exact hf)
            rw[hJ] at hok ⊢;obtain⟨d1,_,d3,d4⟩:=fP { y with s:=(bI z y.kd.root a.file).1,j:=some (a.at 5) } (ak y.kd.root)
            refine⟨⟨hok,by rw[d1];exact hz.link hzok _ _,fun b hb hg=>?_⟩,fun c hc i hi=>?_⟩
            · rw[d4] at hb
              cases hb
              exact absurd hg (by show ¬(5:Int)<4;decide)
            · rw[d1,d3]
              exact(hlv c i hi y.l hcz.good).trans (hv c hc i hi)
          · next hf =>
            rw[if_neg hf] at hok;have hf0:(bI z y.kd.root a.file).2=0:=Classical.byContradiction hf;have hJ:=xP (s:=z) (j:=a) (by rw[hhd];exact hf0)
            rw[hJ] at hok ⊢;have hcl:Chain z C y.kd.root a.l:=by rw[hla];exact hcz
            have hq:=Ar hcl ha2 (hh2.str ha2) (hh2.str2 ha2) hf0;have hwq:((bI z y.kd.root a.file).1.walk y.kd.root).1=bV a:=by rw[hq.walk]
            rw[hwq] at hok ⊢;obtain⟨d1,_,d3,d4⟩:=fP { y with s:=(bI z y.kd.root a.file).1,l:=bV a,j:=some (a.at 4) } (ak y.kd.root)
            refine⟨⟨hok,?_,fun b hb hg=>?_⟩,fun c hc i hi=>?_⟩
            · show aZ (YV.aj _ _).s
              rw[d1];exact hz.link hzok _ _
            · have hb':(YV.aj _ _).j=some b:=hb
              rw[d4] at hb';cases hb'
              exact absurd hg (by show ¬(4:Int)<4;decide)
            · show(YV.aj _ _).s.view c i (YV.aj _ _).l=_
              rw[d1,d3]
              have hgt:z.good (C:Int) (bV a):=by
                intro k hk
                have:k∈y.kd.root::a.l.drop a.deep:=by
                  unfold bV at hk;rw[if_neg (by omega),if_pos ha2,hhd] at hk;exact hk
                rcases List.mem_cons.1 this with e|e
                · obtain⟨w,h1,h2⟩:=hcz.root
                  exact⟨w,by rw[e];exact h1,h2⟩
                · exact hcz.good k (by rw[← hla];exact List.mem_of_mem_drop e)
              have hcnt:S4.cnt a.x 64=0:=by
                unfold JV.state at hs3;split at hs3
                · next e=>exact e.2
                · next e =>
                  have:=(hin.ok.step).stage
                  rw[ea] at this;omega
              have hC:C≤64:=by have:=hin.ok.c40;omega
              have:=hh2.same.done hcnt hC hc hi
              rw[hla] at this;exact(hlv c i hi _ hgt).trans (this.trans (hv c hc i hi))
end Go.Proofs.YtonhoahnieoebabGreatDoor
