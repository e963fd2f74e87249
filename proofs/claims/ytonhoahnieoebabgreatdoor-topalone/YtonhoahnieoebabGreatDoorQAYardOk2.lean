/- What is always so of a yard, and that each call keeps it. -/
import Derived.Test.YtonhoahnieoebabGreatDoorQAYardWalk
namespace Go.Proofs.YtonhoahnieoebabGreatDoor
open Go.RowKit
theorem SV.ok.file{s:SV}{m:Nat}(h:s.ok m){n:Int}{v:IV}(hf:s.file n=some v):v.ok m:=h _ _ (SV.dJ hf).2.2
theorem SV.ok.lay{s:SV}{m:Nat}(h:s.ok m)(l:List Int)(c f:Nat)(t:ByteArray)(hm:m+10≤1000000000):(s.lay l c f t).1.ok (m+10):=by
 unfold SV.lay;split
 ·exact h.more (by omega)
 ·split
  ·exact h.more (by omega)
  ·next v hf =>
   split
   ·exact h.upd (by omega) ((h.file hf).write _ _ _ hm)
   ·exact h.upd (by omega) ((h.file hf).fill _ _ hm)
theorem SV.ok.bK{s:SV}{m:Nat}(h:s.ok m)(l:List Int)(p:Pt)(hm:m+10≤1000000000):(SV.bK l s p).1.ok (m+10):=by
 unfold SV.bK;split
 ·exact h.more (by omega)
 ·split
  ·exact h.more (by omega)
  ·next v hf =>
   split
   ·exact h.upd (by omega) ((h.file hf).clear _ hm)
   ·split
    ·exact h.more (by omega)
    ·exact h.lay _ _ _ _ hm
theorem SV.ok.dY{op:SV→Pt→SV × Int}(hop:∀(s:SV) (m:Nat) p,s.ok m→m+10≤1000000000→(op s p).1.ok (m+10)):∀(P:List Pt) (s:SV) (m:Nat),s.ok m→m+10*P.length≤1000000000→(dY op s P).1.ok (m+10*P.length):=by
 intro P
 induction P with
 | nil=>intro s m h _;exact h
 | cons p r ih =>
  intro s m h hm;simp only[List.length_cons] at hm ⊢;rw[nP];have h1:=hop s m p h (by omega)
  split
  ·have:=ih _ _ h1 (by omega)
   rw[show m+10*(r.length+1)=m+10+10*r.length by omega];exact this
  ·exact h1.more (by omega)
theorem SV.ok.put{s:SV}{m:Nat}(h:s.ok m)(l:List Int)(fr:Int)(t:ByteArray)(hm:m+10*(t.size / 16)≤1000000000):(s.put l fr t).1.ok (m+10*(t.size / 16)):=by
 unfold SV.put;have hl:=nV fr.toNat (t.size / 16) _ 0 (Nat.le_refl _);split
 ·split
  ·exact(SV.ok.dY (fun s m p h hm=>h.lay _ _ _ _ hm) _ _ _ h (by omega)).more (by omega)
  ·exact h.more (by omega)
 ·exact h.more (by omega)
theorem SV.ok.wipe{s:SV}{m:Nat}(h:s.ok m)(l:List Int)(fr n:Int)(hm:m+10*n.toNat≤1000000000):(s.wipe l fr n).1.ok (m+10*n.toNat):=by
 unfold SV.wipe;have hl:=nV fr.toNat n.toNat _ 0 (Nat.le_refl _);split
 ·exact(SV.ok.dY (fun s m p h hm=>h.bK _ _ hm) _ _ _ h (by omega)).more (by omega)
 ·exact h.more (by omega)
theorem SV.ok.move{s:SV}{m:Nat}(h:s.ok m)(n c:Int)(t:ByteArray)(hm:m+10≤1000000000):(s.move n c t).1.ok (m+10):=by
 unfold SV.move;split
 ·exact h.more (by omega)
 ·next v hf =>
  split
  ·exact h.upd (by omega) ((h.file hf).clear _ hm)
  ·split
   ·exact h.upd (by omega) ((h.file hf).write _ _ _ hm)
   ·exact h.upd (by omega) ((h.file hf).fill _ _ hm)
theorem SV.ok.cZ{s:SV}{m:Nat}(h:s.ok m)(n:Int):(s.cZ n).ok m:=by
 unfold SV.cZ;split
 ·exact h
 ·next v hf=>exact h.upd (Nat.le_refl _) (h.file hf).flush
theorem SV.ok.bQ:∀(l:List Int) {s:SV} {m:Nat},s.ok m→(s.bQ l).ok m:=by
 intro l
 induction l with
 | nil=>intro s m h;exact h
 | cons n r ih=>intro s m h;exact ih (h.cZ n)
theorem SV.ok.link{s:SV}{m:Nat}(h:s.ok m)(n b:Int)(hm:m+10≤1000000000):(bI s n b).1.ok (m+10):=by
 unfold bI;split
 ·exact h.more (by omega)
 ·next v hf=>exact h.upd (by omega) ((h.file hf).link _ hm)
theorem SV.ok.step{s:SV}{m:Nat}(h:s.ok m)(j:JV)(hm:m+10≤1000000000):(stepS s j).ok (m+10):=by
 unfold stepS;split
 ·exact h.move _ _ _ hm
 ·exact h.more (by omega)
theorem SV.ok.settle{s:SV}{m:Nat}(h:s.ok m)(j:JV)(hm:m+10≤1000000000):(aF s j).ok (m+10):=by
 unfold aF;split
 ·split
  ·exact h.link _ _ hm
  ·exact(SV.ok.bQ _ h).more (by omega)
 ·exact h.more (by omega)
def iq(j:JV):aS:=⟨j.rt,j.kind,j.file,j.rate,j.burst⟩
structure JTo(s:SV)(C:Int)(l:List Int)(k:aS):Prop where
 mir:k.kind=1→∃ v,s.file k.file=some v∧v.h.b = -1∧v.h.c=C∧k.file ∉ l
 str:k.kind=2→k.file = -1∨k.file∈l
 com:k.kind=3→k.file∈l
theorem JTo.over{s z:SV}{C:Int}{l:List Int}{k:aS}(h:JTo s C l k)(hs:bF [k.file] s z):JTo z C l k :=
 ⟨fun e=>by
  obtain⟨v,h1,h2,h3,h4⟩:=h.mir e;obtain⟨u,h5,h6⟩:=hs k.file List.mem_cons_self v h1
  exact⟨u,h5,by rw[h6];exact h2,by rw[h6];exact h3,h4⟩,h.str,h.com⟩
structure JIn(s:SV)(C:Nat)(l:List Int)(k:aS)(j:JV):Prop where
 ok:JOk s C j
 lst:j.l=l
 dsk:iq j=k
 tgt:JTo s C l k
theorem JOk.other{s z:SV}{C:Nat}{j:JV}(h:JOk s C j)(hs:bF j.l s z)(hf:bF [j.file] s z):JOk z C j :=
 { h with
  good:=hs.good h.good
  file:=fun hk=>by
   obtain⟨v,hv⟩:=h.file hk;obtain⟨u,hu,_⟩:=hf _ List.mem_cons_self v hv
   exact⟨u,hu⟩ }
theorem JIn.other{s z:SV}{C:Nat}{l:List Int}{k:aS}{j:JV}(h:JIn s C l k j)(hs:bF l s z)(hf:bF [k.file] s z):JIn z C l k j :=
 ⟨h.ok.other (by rw[h.lst];exact hs) (by have:=h.dsk;rw[← this] at hf;exact hf),h.lst,h.dsk,h.tgt.over hf⟩
theorem JIn.over{s z:SV}{C:Nat}{l:List Int}{k:aS}{j:JV}(h:JIn s C l k j)(hs:∀ l,bF l s z):JIn z C l k j:=h.other (hs _) (hs _)
theorem JIn.as{s z:SV}{C:Nat}{l:List Int}{k:aS}{j a:JV}(h:JIn s C l k j)(hs:∀ l,bF l s z)(ha:JOk z C a)(hl:a.l=j.l)(hk:iq a=iq j):JIn z C l k a :=
 ⟨ha,hl.trans h.lst,hk.trans h.dsk,h.tgt.over (hs _)⟩
structure YOk(y:YV)(C m:Nat):Prop where
 s:y.s.ok m
 dv:∀ i,(y.dv i).fine (y.dv i).fl.length m
 top:y.top.fine y.top.fl.length m
 aj:y.kd.kv.fault=0
 ch:Chain y.s C y.kd.root y.l
 job:∀ j,y.j=some j→j.stage<4→JIn y.s C y.l y.kd j
 set:∀ j,y.j=some j→S4.je j.n j.x∧j.n≤40∧(j.stage=1∨j.stage=2∨j.stage=4∨j.stage=5)
theorem YOk.more{y:YV}{C m m':Nat}(h:YOk y C m)(hm:m≤m'):YOk y C m':=⟨h.s.more hm,fun i=>(h.dv i).more hm,h.top.more hm,h.aj,h.ch,h.job,h.set⟩
theorem YOk.dev{y:YV}{C m:Nat}(h:YOk y C m)(i:Nat):(y.dev i).fine (y.dev i).fl.length m:=by
 unfold YV.dev;split
 ·next v hv=>exact(h.s i v hv).d
 ·exact h.dv i
theorem YOk.root{y:YV}{C m:Nat}(h:YOk y C m):0≤y.kd.root∧y.kd.root≤4:=by
 obtain⟨v,h1,_⟩:=h.ch.root;have:=SV.dJ h1
 omega
theorem YOk.over{y:YV}{C m m':Nat}(h:YOk y C m){z:SV}(hz:z.ok m')(hs:∀ l,bF l y.s z)(hm:m≤m'){j:Option JV}
  (hj:∀ a,j=some a→a.stage<4→JIn z C y.l y.kd a) (hj2:∀ a,j=some a→S4.je a.n a.x∧a.n≤40∧(a.stage=1∨a.stage=2∨a.stage=4∨a.stage=5)):YOk { y with s:=z,j:=j } C m' :=
 ⟨hz,fun i=>(h.dv i).more hm,h.top.more hm,h.aj,h.ch.over (hs _),hj,hj2⟩
theorem YOk.files{y:YV}{C m m':Nat}(h:YOk y C m){z:SV}(hz:z.ok m')(hs:∀ l,bF l y.s z)(hm:m≤m'):YOk { y with s:=z } C m' :=
 h.over hz hs hm (fun a ha hg=>(h.job a ha hg).over hs) h.set
theorem Js(d:aS):(YV.kQ d).length=16:=by
 have:=xK d.kv.bytes (by show 9≤12;omega)
 unfold YV.kQ
 simpa using this
theorem Ti{d:DV}{m:Nat}(h:d.fine d.fl.length m)(k:aS)(hm:m<1000000000):(d.put 0 (YV.kQ k)).fine (d.put 0 (YV.kQ k)).fl.length (m+1):=by
 have h1:=h.put (i:=0) (s:=YV.kQ k) (by have:=h.ok.n1;omega) (Js k) hm
 rw[h1.len];exact h1
theorem qy{y:YV}{m:Nat}(h:y.top.fine y.top.fl.length m)(d:aS)(hm:m<1000000000):(y.aj d).top.fine (y.aj d).top.fl.length (m+1):=by
 have h1:=Ti h d hm;unfold YV.aj;split
 ·have:=h1.flushed
  show(y.top.put 0 (YV.kQ d)).flushed.fine (y.top.put 0 (YV.kQ d)).flushed.fl.length (m+1)
  rw[this.len];exact this
 ·exact h1
theorem sN{y:YV}{d:aS}(h:y.bJ=0):(y.aj d).kd=d:=by
 unfold YV.aj;rw[if_pos (show y.top.aQ=0 from h)]
theorem vH{y:YV}{d:aS}(h:y.bJ≠0):(y.aj d).kd=y.kd:=by
 unfold YV.aj;rw[if_neg (show ¬y.top.aQ=0 from h)]
theorem fP(y:YV)(d:aS):(y.aj d).s=y.s∧(y.aj d).dv=y.dv∧(y.aj d).l=y.l∧(y.aj d).j=y.j:=by
 unfold YV.aj;split<;>exact⟨rfl,rfl,rfl,rfl⟩
theorem YOk.bare{y:YV}{C m:Nat}(h:YOk y C m)(hb:∀ j,y.j=some j→4≤j.stage)(hm:m<1000000000):YOk (y.aj (ak y.kd.root)) C (m+1):=by
 obtain⟨e1,e2,e3,e4⟩:=fP y (ak y.kd.root);have hr:=h.root;by_cases hf:y.bJ=0
 ·have ek:=sN (d:=ak y.kd.root) hf
  refine⟨by rw[e1];exact h.s.more (by omega),by rw[e2];exact fun i=>(h.dv i).more (by omega),qy h.top _ hm,by rw[ek];exact jH hr.1 hr.2,by rw[e1,e3,ek];exact h.ch,fun j hj hg=>?_,by rw[e4];exact h.set⟩
  rw[e4] at hj;exact absurd (hb j hj) (by omega)
 ·have ek:=vH (d:=ak y.kd.root) hf
  exact⟨by rw[e1];exact h.s.more (by omega),by rw[e2];exact fun i=>(h.dv i).more (by omega),qy h.top _ hm,by rw[ek];exact h.aj,by rw[e1,e3,ek];exact h.ch,by rw[e4,e1,e3,ek];exact h.job,by rw[e4];exact h.set⟩
theorem oD(j:JV)(fr:Nat):∀ k,(dh j fr k).l=j.l∧iq (dh j fr k)=iq j∧(dh j fr k).stage=j.stage∧(dh j fr k).n=j.n:=by
 intro k
 induction k with
 | zero=>exact⟨rfl,rfl,rfl,rfl⟩
 | succ k ih =>
  have:∀(a:JV) (c:Int),(dD a c).l=a.l∧iq (dD a c)=iq a∧(dD a c).stage=a.stage∧(dD a c).n=a.n:=fun a c=>by
   unfold dD;split<;>exact⟨rfl,rfl,rfl,rfl⟩
  obtain⟨h1,h2,h3,h4⟩:=this (dh j fr k) (((fr+k) / 4:Nat):Int);exact⟨h1.trans ih.1,h2.trans ih.2.1,h3.trans ih.2.2.1,h4.trans ih.2.2.2⟩
theorem JX{j:JV}(fr:Nat)(h:S4.je j.n j.x):∀ k,S4.je (dh j fr k).n (dh j fr k).x:=by
 intro k
 induction k with
 | zero=>exact h
 | succ k ih =>
  show S4.je (dD _ _).n (dD _ _).x
  unfold dD;split
  ·exact ih
  ·exact S4.xu ih _ _
theorem JOk.dh{s:SV}{C:Nat}{j:JV}(h:JOk s C j)(fr:Nat):∀ k,JOk s C (dh j fr k):=by
 intro k
 induction k with
 | zero=>exact h
 | succ k ih=>exact ih.dirty _
theorem YOk.mark{y:YV}{C m:Nat}(h:YOk y C m)(fr n:Nat):YOk (y.mark fr n) C m:=by
  refine h.over (z:=y.s) (j:=y.j.map fun j=>dh j fr n) h.s (fun l=>.refl l _) (Nat.le_refl _) (fun a ha hg=>?_) (fun a ha=>?_)
  all_goals
    cases hj:y.j with
    | none=>rw[hj] at ha;cases ha
    | some j =>
      rw[hj] at ha;have e:dh j fr n=a:=Option.some.inj ha;obtain⟨d1,d2,d3,d4⟩:=oD j fr n;rw[← e]
      first
        | (have hi:=h.job j hj (by rw[← d3,e];exact hg)
           exact hi.as (fun l=>.refl l _) (hi.ok.dh fr n) d1 d2)
        | (obtain⟨h1,h2,h3⟩:=h.set j hj
           exact⟨JX fr h1 n,by rw[d4];exact h2,by rw[d3];exact h3⟩)
theorem YOk.write{y:YV}{C m:Nat}(h:YOk y C m)(fr:Int)(t:ByteArray)(hm:m+10*(t.size / 16)≤1000000000):YOk (y.write fr t) C (m+10*(t.size / 16)):=by
 unfold YV.write;split
 ·exact(h.files (h.s.put _ _ _ hm) (fun l=>.put l _ _ _ _) (by omega)).mark _ _
 ·exact h.more (by omega)
theorem YOk.wipe{y:YV}{C m:Nat}(h:YOk y C m)(fr n:Int)(hm:m+10*n.toNat≤1000000000):YOk (y.wipe fr n) C (m+10*n.toNat):=by
 unfold YV.wipe;split
 ·exact(h.files (h.s.wipe _ _ _ hm) (fun l=>.wipe l _ _ _ _) (by omega)).mark _ _
 ·exact h.more (by omega)
theorem YOk.flush{y:YV}{C m:Nat}(h:YOk y C m):YOk y.flush C m:=h.files (SV.ok.bQ _ h.s) (fun l=>.bQ l _ _) (Nat.le_refl _)
theorem YOk.jobs{y:YV}{C m:Nat}(h:YOk y C m){j:Option JV}
  (hj:∀ a,j=some a→a.stage<4→JIn y.s C y.l y.kd a) (hj2:∀ a,j=some a→S4.je a.n a.x∧a.n≤40∧(a.stage=1∨a.stage=2∨a.stage=4∨a.stage=5)):YOk { y with j:=j } C m :=
 ⟨h.s,h.dv,h.top,h.aj,h.ch,hj,hj2⟩
theorem JOk.qm{s:SV}{C:Nat}{j:JV}(h:JOk s C j):S4.je j.n j.x∧j.n≤40∧(j.stage=1∨j.stage=2∨j.stage=4∨j.stage=5):=⟨h.set,by have:=h.n;have:=h.c40;omega,h.stage⟩
theorem mW{y:YV}(h:y.busy=true):∃ j,y.j=some j∧j.stage<4:=by
 unfold YV.busy at h;split at h
 ·cases h
 ·next j hj=>exact⟨j,hj,of_decide_eq_true h⟩
theorem nO{y:YV}(h:y.busy≠true):∀ j,y.j=some j→4≤j.stage:=by
 intro j hj;unfold YV.busy at h;rw[hj] at h;have:¬j.stage<4:=by simpa using h
 omega
theorem YOk.turn{y:YV}{C m:Nat}(h:YOk y C m){j a:JV}(hj:y.j=some j)(hg:j.stage<4)(ha:JOk y.s C j→JOk y.s C a)(hl:a.l=j.l)(hk:iq a=iq j):YOk { y with j:=some a } C m:=by
 have hi:=h.job j hj hg;refine h.jobs (fun b hb _=>?_) (fun b hb=>?_)
 ·cases hb
  exact hi.as (fun l=>.refl l _) (ha hi.ok) hl hk
 ·cases hb
  exact(ha hi.ok).qm
theorem zV(j:JV)(on:Bool):(gQ j on).l=j.l∧iq (gQ j on)=iq j:=by
 unfold gQ;split
 ·split<;>exact⟨rfl,rfl⟩
 ·split<;>exact⟨rfl,rfl⟩
theorem Az(j:JV)(n:Int):(gG j n).l=j.l∧iq (gG j n)=iq j:=by
 unfold gG;by_cases h:S4.inB n 100000=true
 ·rw[if_pos h];exact⟨rfl,rfl⟩
 ·rw[if_neg h];exact⟨rfl,rfl⟩
theorem iO(s:SV)(j:JV):(stepJ s j).l=j.l∧iq (stepJ s j)=iq j:=by
 have a:∀ c,(j.went c).l=j.l∧iq (j.went c)=iq j:=fun _=>⟨rfl,rfl⟩
 have b:j.fell.l=j.l∧iq j.fell=iq j:=⟨rfl,rfl⟩;unfold stepJ;by_cases h:j.stage=1∧j.some=true∧S4.inB 4 j.lv=true
 ·rw[if_pos h]
  by_cases g:j.eY s j.pick=true∧(j.moved s j.pick).2≠0
  ·rw[if_pos g];exact b
  ·rw[if_neg g];exact a _
 ·rw[if_neg h];exact⟨rfl,rfl⟩
theorem Rq(s:SV)(j:JV):(aK s j).l=j.l∧iq (aK s j)=iq j:=by
 unfold aK;split<;>exact⟨rfl,rfl⟩
theorem YOk.pause{y:YV}{C m:Nat}(h:YOk y C m)(on:Bool):YOk (y.pause on) C m:=by
 unfold YV.pause;split
 ·next hb =>
  obtain⟨j,hj,hg⟩:=mW hb;rw[hj];exact h.turn hj hg (fun k=>k.pause on) (zV j on).1 (zV j on).2
 ·exact h
theorem YOk.tick{y:YV}{C m:Nat}(h:YOk y C m)(n:Int):YOk (y.tick n) C m:=by
 unfold YV.tick;split
 ·next hb =>
  obtain⟨j,hj,hg⟩:=mW hb;rw[hj];exact h.turn hj hg (fun k=>k.tick n) (Az j n).1 (Az j n).2
 ·exact h
theorem YOk.arm{y:YV}{C m:Nat}(h:YOk y C m)(f n:Int)(hn:n≤9223372036854775807):YOk (y.arm f n) C m:=by
 have hf:∀ {d:DV} {k:Nat},d.fine k m→0≤n→(d.failing n).fine k m:=fun h0 h1=>⟨h0.ok.failing (by omega) (by omega),yZ h0.sn _,h0.len,h0.wr⟩
 unfold YV.arm;split
 ·next hx =>
  split
  ·exact⟨h.s,h.dv,hf h.top hx.2.2,h.aj,h.ch,h.job,h.set⟩
  ·next hne =>
   split
   ·refine⟨h.s,fun i=>?_,h.top,h.aj,h.ch,h.job,h.set⟩
    show(if i=f.toNat then (y.dv i).failing n else y.dv i).fine (if i=f.toNat then (y.dv i).failing n else y.dv i).fl.length m
    split
    ·exact hf (h.dv i) hx.2.2
    ·exact h.dv i
   ·next v hv =>
    have hfile:y.s.file f=some v:=by
     unfold SV.file;rw[if_pos ⟨by omega,hx.2.1⟩];exact hv
    have hd:=hf (h.s _ _ hv).d hx.2.2;exact h.files (h.s.upd (Nat.le_refl _) ((h.s _ _ hv).dev hd (Nat.le_refl _))) (fun l=>.upd hfile rfl) (Nat.le_refl _)
 ·exact h
theorem Ji{d:DV}{m:Nat}{h:HV}(hd:d.fine d.fl.length m)(hm:m+20<1000000000):(kP d h).fine (kP d h).fl.length (m+15):=by
 unfold kP;split
 ·next hx =>
  split
  ·exact(wo hd hx.1 hx.2 hm).d
  ·have hrn:aA h.c.toNat≤5:=by have:=HV.fE hx.1;unfold aA;omega
   have h1:=(vX hd hx.1 hx.2 (by omega) _ (Nat.le_refl _)).more (show m+aA h.c.toNat≤m+15 by omega)
   show(crD d h).1.fine (crD d h).1.fl.length (m+15)
   unfold crD;rw[h1.len];exact h1
 ·exact hd.more (by omega)
theorem BP{d:DV}{h:HV}(hf:crF d h=0):h.ok=true∧aJ h≤d.fl.length:=by
 unfold crF at hf;split at hf
 ·next hk =>
  split at hf
  ·cases hf
  ·next hn=>exact⟨hk,by omega⟩
 ·cases hf
theorem vZ(d:DV)(h:HV):(crV d h).h=h:=by
 unfold crV IV.gJ;split<;>rfl
theorem rZ{y:YV}{f:Int}(h:y.used f≠true):f ∉ y.l∧(y.busy=true→y.kd.file≠f):=by
 have h:¬(y.busy&&decide (y.kd.file=f)||y.l.contains f)=true:=h
 rw[Bool.or_eq_true,Bool.and_eq_true,not_or] at h;refine⟨fun hm=>h.2 (by simpa using hm),fun hb e=>h.1 ⟨hb,by simpa using e⟩⟩
theorem YOk.blank{y:YV}{C m:Nat}(h:YOk y C m)(f back:Int)(hm:m+20<1000000000):YOk (y.blank f back) C (m+15):=by
 unfold YV.blank;split
 ·next hx =>
  split
  ·exact h.more (by omega)
  ·next hu =>
   obtain⟨hn,hb⟩:=rZ hu;have hd:=h.dev f.toNat
   have apart:∀ j,y.j=some j→j.stage<4→f ∉ [y.kd.file]:=fun j hj hg hm=>by
    rw[List.mem_singleton] at hm;exact hb (by unfold YV.busy;rw[hj];exact decide_eq_true hg) hm.symm
   split
   ·next hc =>
    obtain⟨k1,k2⟩:=BP hc;have hs:bF y.l y.s (y.s.upd f.toNat (crV (y.dev f.toNat) (y.head f back))):=.set hx.1 hx.2 hn _;refine⟨h.s.upd (by omega) (wo hd k1 k2 hm),fun i=>(h.dv i).more (by omega),h.top.more (by omega),h.aj,h.ch.over hs,fun j hj hg=>?_,h.set⟩
    exact(h.job j hj hg).other hs (.set hx.1 hx.2 (apart j hj hg) _)
   ·have hs:bF y.l y.s (y.s.gone f.toNat):=.gone hx.1 hx.2 hn
    refine⟨fun i v e=>?_,fun i=>?_,h.top.more (by omega),h.aj,h.ch.over hs,fun j hj hg=>?_,h.set⟩
    ·have e':(y.s.gone f.toNat) i=some v:=e
     unfold SV.gone at e';split at e'
     ·cases e'
     ·exact(h.s i v e').more (by omega)
    ·show(if i=f.toNat then kP (y.dev f.toNat) (y.head f back) else y.dv i).fine (if i=f.toNat then kP (y.dev f.toNat) (y.head f back) else y.dv i).fl.length (m+15)
     split
     ·exact Ji hd hm
     ·exact(h.dv i).more (by omega)
    ·exact(h.job j hj hg).other hs (.gone hx.1 hx.2 (apart j hj hg))
 ·exact h.more (by omega)
theorem oV(y:YV)(f back:Int):(y.blank f back).j=y.j∧(y.blank f back).kd=y.kd∧(y.blank f back).l=y.l∧(y.blank f back).top=y.top:=by
 unfold YV.blank;split
 ·split
  ·exact⟨rfl,rfl,rfl,rfl⟩
  ·split<;>exact⟨rfl,rfl,rfl,rfl⟩
 ·exact⟨rfl,rfl,rfl,rfl⟩
theorem vP{y:YV}{f back:Int}(h:y.iR f back=0):0≤f∧f<5∧y.used f≠true∧crF (y.dev f.toNat) (y.head f back)=0∧y.blank f back={ y with s:=y.s.upd f.toNat (crV (y.dev f.toNat) (y.head f back)) }:=by
 unfold YV.iR at h;unfold YV.blank;split at h
 ·next hx =>
  split at h
  ·cases h
  ·next hu =>
   refine⟨hx.1,hx.2,hu,h,?_⟩;rw[if_pos hx,if_neg hu,if_pos h]
 ·cases h
theorem KQ:∀(n:Nat) (l:List Int),l.Nodup→(∀ x∈l,0≤x∧x<(n:Int))→l.length≤n:=by
 intro n
 induction n with
 | zero =>
  intro l _ h
  cases l with
  | nil=>exact Nat.le_refl _
  | cons x r=>have:=h x List.mem_cons_self;omega
 | succ n ih =>
  intro l hd h;by_cases hm:(n:Int)∈l
  ·have h1:=ih (l.erase (n:Int)) (hd.erase _) (fun x hx=>by
    rw[hd.mem_erase_iff] at hx;have:=h x hx.2
    have:=hx.1
    omega)
   have h2:=List.length_erase_of_mem hm;omega
  ·have:=ih l hd (fun x hx=>by
    have h1:=h x hx;have:x≠(n:Int):=fun e=>hm (e▸hx)
    omega)
   omega
theorem Chain.few{s:SV}{C root f:Int}{l:List Int}(h:Chain s C root l)(h0:0≤f)(h5:f<5)(hf:f ∉ l):l.length≤4:=by
 have:=KQ 5 (f::l) (List.nodup_cons.2 ⟨hf,h.nodup⟩) (fun x hx=>by
  rcases List.mem_cons.1 hx with e|e
  ·rw[e];exact⟨h0,h5⟩
  ·obtain⟨v,h1,_⟩:=h.good x e
   have:=SV.dJ h1
   exact⟨this.1,this.2.1⟩)
 simp only[List.length_cons] at this;omega
theorem YOk.snap{y:YV}{C m:Nat}(h:YOk y C m)(f:Int)(hm:m+20<1000000000):YOk (y.snap f) C (m+16):=by
 unfold YV.snap;split
 ·exact h.more (by omega)
 ·next hx =>
  rw[not_or] at hx;have hbn:=nO hx.1;split
  ·next hbf =>
   have hbl:=h.blank f y.kd.root hm;obtain⟨b1,b2,b3,b4⟩:=oV y f y.kd.root;obtain⟨h0,h5,hu,hc,eb⟩:=vP hbf;obtain⟨hnl,_⟩:=rZ hu;obtain⟨e1,e2,e3,e4⟩:=fP (y.blank f y.kd.root) (ak f);have hds:=fun hm'=>qy hbl.top (ak f) hm'
   have hhead:(y.head f y.kd.root).c=C:=h.ch.fQ
   have hch:Chain (y.blank f y.kd.root).s C f (f::y.l):=by
    rw[eb];exact h.ch.push (h.ch.few h0 h5 hnl) h0 h5 hnl (by rw[vZ];exact hhead) (by rw[vZ];rfl)
   split
   ·next hdf =>
    have ek:=sN (y:=y.blank f y.kd.root) (d:=ak f) hdf;refine⟨by show((y.blank f y.kd.root).aj (ak f)).s.ok _;rw[e1];exact hbl.s.more (by omega),?_,hds (by omega),?_,?_,fun j hj hg=>?_,?_⟩
    ·show ∀ i,(((y.blank f y.kd.root).aj (ak f)).dv i).fine (((y.blank f y.kd.root).aj (ak f)).dv i).fl.length _
     rw[e2];exact fun i=>(hbl.dv i).more (by omega)
    ·show(((y.blank f y.kd.root).aj (ak f)).kd).kv.fault=0
     rw[ek];exact jH h0 (by omega)
    ·show Chain ((y.blank f y.kd.root).aj (ak f)).s C ((y.blank f y.kd.root).aj (ak f)).kd.root (f::y.l)
     rw[e1,ek];exact hch
    ·have hj':((y.blank f y.kd.root).aj (ak f)).j=some j:=hj
     rw[e4,b1] at hj';exact absurd (hbn j hj') (by omega)
    ·show ∀ j,((y.blank f y.kd.root).aj (ak f)).j=some j→_
     rw[e4];exact hbl.set
   ·next hdf =>
    have ek:=vH (y:=y.blank f y.kd.root) (d:=ak f) hdf;refine⟨by rw[e1];exact hbl.s.more (by omega),by rw[e2];exact fun i=>(hbl.dv i).more (by omega),hds (by omega),by rw[ek];exact hbl.aj,by rw[e1,e3,ek];exact hbl.ch,by rw[e4,e1,e3,ek];exact hbl.job,by rw[e4];exact hbl.set⟩
  ·exact(h.blank f y.kd.root hm).more (by omega)
end Go.Proofs.YtonhoahnieoebabGreatDoor
