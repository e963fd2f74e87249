/- What is always so of a yard, kept by a job that begins, steps, is settled, pivots or is cancelled. -/
import Derived.Test.YtonhoahnieoebabGreatDoorQAYardOk2
namespace Go.Proofs.YtonhoahnieoebabGreatDoor
open Go.RowKit
theorem zI{y:YV}{C m:Nat}(h:YOk y C m){d:aS}(hr:d.root=y.kd.root)(hn:newF y.s d=0){st:Int}(hst:st=1∨st=2∨st=4∨st=5):JIn y.s C y.l d ((iL y.s d).at st):=by
 have hw:y.s.walk d.root=(y.l,0):=by rw[hr];exact h.ch.walk
 have hk:=wZ h.s hn;obtain⟨C',h1,h2,_⟩:=hk.jok;have hl:(y.s.walk d.root).1=y.l:=by rw[hw]
 have hc:C'=C:=by
  rw[hl,h.ch.good.fV h.ch.ne] at h2;omega
 subst hc;refine⟨(h1.newX _).at hst,hl,rfl,⟨fun e=>?_,fun e=>?_,fun e=>?_⟩⟩
 ·have hck:=hk.ck
  unfold lK at hck;rw[if_pos e,hl] at hck;unfold qN at hck
  cases hf:y.s.file d.file with
  | none=>rw[hf] at hck;cases hck
  | some v =>
   rw[hf] at hck;simp only at hck;split at hck
   ·cases hck
   ·next hx =>
    rw[not_or,not_or] at hx;refine⟨v,rfl,Classical.byContradiction hx.2.1,?_,fun hm=>hx.1 (by simpa using hm)⟩
    have:=Classical.byContradiction hx.2.2
    rw[this,h.ch.good.fV h.ch.ne]
 all_goals
  have hck:=hk.ck;unfold lK at hck;rw[if_neg (by omega),if_pos (by omega),hl] at hck
  split at hck
  ·next hx =>
   rcases hx with hx|hx
   ·first
    | exact .inl hx.2
    | exact absurd hx.1 (by omega)
   ·have hm:d.file∈y.l:=List.mem_of_mem_drop (i:=1) (by simpa using hx)
    first
    | exact .inr hm
    | exact hm
  ·cases hck
theorem YOk.start{y:YV}{C m:Nat}(h:YOk y C m){d:aS}(hr:d.root=y.kd.root)(hm:m<1000000000):YOk (y.start d) C (m+1):=by
 unfold YV.start;split
 ·next h0 =>
  have hparts:y.busy≠true∧d.kv.fault=0∧newF y.s d=0:=by
   unfold YV.mO at h0;split at h0
   ·cases h0
   ·next hb =>
    split at h0
    ·cases h0
    ·split at h0
     ·next hf=>exact⟨hb,hf,h0⟩
     ·next hf=>exact absurd h0 hf
  obtain⟨hb,hf,hn⟩:=hparts;obtain⟨e1,e2,e3,e4⟩:=fP y d;have hin:=zI h hr hn (st:=1) (.inl rfl);split
  ·next hd =>
   have ek:=sN (d:=d) hd;refine⟨by show(y.aj d).s.ok _;rw[e1];exact h.s.more (by omega),?_,qy h.top d hm,by show(y.aj d).kd.kv.fault=0;rw[ek];exact hf,?_,fun j hj _=>?_,fun j hj=>?_⟩
   ·show ∀ i,((y.aj d).dv i).fine ((y.aj d).dv i).fl.length _
    rw[e2];exact fun i=>(h.dv i).more (by omega)
   ·show Chain (y.aj d).s C (y.aj d).kd.root (y.aj d).l
    rw[e1,e3,ek,hr];exact h.ch
   ·show JIn (y.aj d).s C (y.aj d).l (y.aj d).kd j
    rw[e1,e3,ek];cases hj
    exact hin
   ·cases hj
    exact hin.ok.qm
  ·next hd =>
   have ek:=vH (d:=d) hd;exact⟨by rw[e1];exact h.s.more (by omega),by rw[e2];exact fun i=>(h.dv i).more (by omega),qy h.top _ hm,by rw[ek];exact h.aj,by rw[e1,e3,ek];exact h.ch,by rw[e4,e1,e3,ek];exact h.job,by rw[e4];exact h.set⟩
 ·exact h.more (by omega)
theorem YOk.ends{y:YV}{C m:Nat}(h:YOk y C m){root st:Int}{l:List Int}(hc:Chain y.s C root l)(hs:st=4∨st=5)(hf:y.bJ=0)(hm:m<1000000000):YOk { y.aj (ak root) with j:=y.j.map fun j=>j.at st,l:=l } C (m+1):=by
  obtain⟨e1,e2,e3,e4⟩:=fP y (ak root);have ek:=sN (d:=ak root) hf;obtain⟨v,hv,_⟩:=hc.root;have hr:=SV.dJ hv;refine⟨by show(y.aj (ak root)).s.ok _;rw[e1];exact h.s.more (by omega),?_,qy h.top _ hm,by show(y.aj (ak root)).kd.kv.fault=0;rw[ek];exact jH hr.1 (by omega),?_,fun j hj hg=>?_,fun j hj=>?_⟩
  · show ∀ i,((y.aj (ak root)).dv i).fine ((y.aj (ak root)).dv i).fl.length _
    rw[e2];exact fun i=>(h.dv i).more (by omega)
  · show Chain (y.aj (ak root)).s C (y.aj (ak root)).kd.root l
    rw[e1,ek];exact hc
  all_goals
    have hj':(y.j.map fun j=>j.at st)=some j:=hj
    cases hy:y.j with
    | none=>rw[hy] at hj';cases hj'
    | some a =>
      rw[hy] at hj';have e:a.at st=j:=Option.some.inj hj'
      first
      | (have:j.stage=st:=by rw[← e];rfl
         omega)
      | (obtain⟨h1,h2,_⟩:=h.set a hy
         rw[← e]
         exact⟨h1,h2,by show st=1∨st=2∨st=4∨st=5;omega⟩)
theorem YOk.ED{y:YV}{C m:Nat}(h:YOk y C m){root st:Int}{l:List Int}(hc:Chain y.s C root l)(hs:st=4∨st=5)(hm:m<1000000000):YOk (y.over root st) C (m+1):=by
 unfold YV.over;have hw:(y.s.walk root).1=l:=by rw[hc.walk]
 split
 ·next hf=>rw[hw];exact h.ends hc hs hf hm
 ·next hf =>
  obtain⟨e1,e2,e3,e4⟩:=fP y (ak root);have ek:=vH (d:=ak root) hf;exact⟨by rw[e1];exact h.s.more (by omega),by rw[e2];exact fun i=>(h.dv i).more (by omega),qy h.top _ hm,by rw[ek];exact h.aj,by rw[e1,e3,ek];exact h.ch,by rw[e4,e1,e3,ek];exact h.job,by rw[e4];exact h.set⟩
theorem YOk.cancel{y:YV}{C m:Nat}(h:YOk y C m)(hm:m<1000000000):YOk y.cancel C (m+1):=by
 unfold YV.cancel;split
 ·exact h.ED h.ch (.inr rfl) hm
 ·exact h.more (by omega)
theorem JIn.chain{s:SV}{C:Nat}{root:Int}{l:List Int}{k:aS}{j:JV}(h:JIn s C l k j)(hc:Chain s C root l)(h2:k.kind≠2):∃ q,Chain s C k.file q:=by
 have hk:j.kind=k.kind:=by rw[← h.dsk];rfl
 rcases h.ok.kind with e|e|e
 ·obtain⟨v,h1,h3,h4,_⟩:=h.tgt.mir (by rw[← hk];exact e)
  exact⟨[k.file],by rw[← h4];exact Chain.one h1 h3⟩
 ·exact absurd (hk.symm.trans e) h2
 ·obtain⟨p,q,e2⟩:=List.append_of_mem (h.tgt.com (by rw[← hk];exact e))
  rw[e2] at hc;exact⟨_,hc.drop⟩
theorem YOk.pivot{y:YV}{C m:Nat}(h:YOk y C m)(hm:m+20<1000000000):YOk y.pivot C (m+11):=by
 unfold YV.pivot;split
 ·exact h.more (by omega)
 ·next j hj =>
  split
  ·exact h.more (by omega)
  ·next hx =>
   rw[not_or] at hx;have hin:=h.job j hj (by omega)
   have hk:j.kind=y.kd.kind:=by rw[← hin.dsk];rfl
   have hj2:j.kind≠2:=by rw[hk];exact hx.2
   have hS:∀ l,bF l y.s (aF y.s j):=fun l=>by
    unfold aF;split
    ·exact .bQ l _ _
    ·exact .refl l _
   have hJ:aK y.s j=j:=by
    unfold aK;rw[if_neg (fun e=>hj2 e.2.1)]
   rw[hJ]
   have hy:YOk { y with s:=aF y.s j,j:=some j } C (m+10):=by
    refine h.over (h.s.settle j (by omega)) hS (by omega) (fun a ha _=>?_) (fun a ha=>?_)
    ·cases ha;exact hin.over hS
    ·cases ha;exact hin.ok.qm
   split
   ·exact hy.more (by omega)
   ·obtain⟨q,hq⟩:=(hin.over hS).chain (h.ch.over (hS _)) hx.2
    exact hy.ED hq (.inl rfl) (by omega)
theorem uU{s:SV}{j:JV}(h3:j.state=3)(h2:j.kind=2):aF s j=(bI s (j.l.headD 0) j.file).1∧dH s j=(bI s (j.l.headD 0) j.file).2:=by
 unfold aF dH;rw[if_pos h3,if_pos h3,if_pos h2,if_pos h2];exact⟨rfl,rfl⟩
theorem uT{s:SV}{j:JV}(h3:j.state=3)(h2:j.kind=2)(hf:(bI s (j.l.headD 0) j.file).2≠0):aK s j=j.at 5:=by
 unfold aK;rw[if_pos ⟨h3,h2,hf⟩]
theorem xP{s:SV}{j:JV}(hf:(bI s (j.l.headD 0) j.file).2=0):aK s j=j:=by
 unfold aK;rw[if_neg (fun e=>e.2.2 hf)]
theorem JIn.streams{s:SV}{C:Nat}{root:Int}{l:List Int}{k:aS}{j:JV}(h:JIn s C l k j)(hc:Chain s C root l)(hr:k.root=root)(hd:k.kv.fault=0)(h2:k.kind=2)(hw:(bI s root k.file).2=0):∃ q,Chain (bI s root k.file).1 C root q:=by
 obtain⟨r,el⟩:=hc.head;rcases h.tgt.str h2 with e|e
 ·rw[e] at hw ⊢
  exact⟨_,hc.DY hw⟩
 ·have hm:=of_decide_eq_true (KV.uz hd).2
  have hne:k.file≠root:=by
   rcases hm with hm|hm
   ·have:k.kind=0:=hm.1
    omega
   ·rw[← hr];exact hm.2.1
  rw[el] at e;rcases List.mem_cons.1 e with e|e
  ·exact absurd e hne
  ·obtain⟨p,q,e2⟩:=List.append_of_mem e
   rw[el,e2] at hc;exact⟨_,hc.linked (p:=p) (q:=q) hw⟩
theorem YOk.step{y:YV}{C m:Nat}(h:YOk y C m)(hm:m+30<1000000000):YOk y.step C (m+21):=by
 unfold YV.step;split
 ·exact h.more (by omega)
 ·next j hj =>
  split
  ·exact h.more (by omega)
  ·next hx =>
   have hin:=h.job j hj (by omega)
   have hz:∀ l,bF l y.s (stepS y.s j):=fun l=>.step l _ _
   have hok:=hin.ok.step;have hia:JIn (stepS y.s j) C y.l y.kd (stepJ y.s j):=hin.as hz hok (iO _ _).1 (iO _ _).2
   have hy:YOk { y with s:=stepS y.s j,j:=some (stepJ y.s j) } C (m+10):=by
    refine h.over (h.s.step j (by omega)) hz (by omega) (fun a ha _=>?_) (fun a ha=>?_)
    ·cases ha;exact hia
    ·cases ha;exact hok.qm
   have hcz:Chain (stepS y.s j) C y.kd.root y.l:=h.ch.over (hz _);have hzok:=h.s.step j (show m+10≤1000000000 by omega)
   split
   ·split
    ·next h5 =>
     exact(hy.bare (fun b hb=>by cases hb;rw[h5];decide) (by omega)).more (by omega)
    ·exact hy.more (by omega)
   ·split
    ·exact hy.more (by omega)
    ·next hk =>
     rw[not_or] at hk;have hk2:y.kd.kind=2:=Classical.byContradiction hk.1;have hs3:(stepJ y.s j).state=3:=Classical.byContradiction hk.2;clear hk;generalize ea:stepJ y.s j=a at hia hy hok hs3 ⊢;generalize ez:stepS y.s j=z at hia hy hok hcz hzok ⊢;have ha2:a.kind=2:=by rw[← hk2,← hia.dsk];rfl
     have haf:a.file=y.kd.file:=by rw[← hia.dsk];rfl
     have hhd:a.l.headD 0=y.kd.root:=by
      obtain⟨r,e⟩:=hcz.head;rw[hia.lst,e];rfl
     obtain⟨es,ef⟩:=uU (s:=z) hs3 ha2;rw[hhd,haf] at es ef;rw[ef,es];split
     ·next hf =>
      have hJ:=uT (s:=z) hs3 ha2 (by rw[hhd,haf];exact hf)
      rw[hJ];have hst:∀ l,bF l z (bI z y.kd.root y.kd.file).1:=fun l=>.zC hf
      have hy2:YOk { y with s:=(bI z y.kd.root y.kd.file).1,j:=some (a.at 5) } C (m+20):=by
       refine⟨hzok.link _ _ (by omega),fun i=>(h.dv i).more (by omega),h.top.more (by omega),h.aj,hcz.over (hst _),fun b hb hg=>?_,fun b hb=>?_⟩
       ·cases hb;exact absurd hg (by show ¬(5:Int)<4;decide)
       ·cases hb;exact(hok.at (.inr (.inr (.inr rfl)))).qm
      exact hy2.bare (fun b hb=>by cases hb;show(4:Int)≤5;decide) (by omega)
     ·next hf =>
      have hf0:(bI z y.kd.root y.kd.file).2=0:=Classical.byContradiction hf;have hJ:=xP (s:=z) (j:=a) (by rw[hhd,haf];exact hf0)
      rw[hJ];obtain⟨q,hq⟩:=hia.streams hcz rfl h.aj hk2 hf0;have hwq:((bI z y.kd.root y.kd.file).1.walk y.kd.root).1=q:=by rw[hq.walk]
      rw[hwq];have hr:=h.root;obtain⟨e1,e2,e3,e4⟩:=fP { y with s:=(bI z y.kd.root y.kd.file).1,l:=q,j:=some (a.at 4) } (ak y.kd.root)
      refine⟨by show(YV.aj _ _).s.ok _;rw[e1];exact(hzok.link _ _ (by omega)).more (by omega),?_,?_,jH hr.1 hr.2,?_,fun b hb hg=>?_,fun b hb=>?_⟩
      ·show ∀ i,((YV.aj _ _).dv i).fine ((YV.aj _ _).dv i).fl.length _
       rw[e2];exact fun i=>(h.dv i).more (by omega)
      ·exact(qy (y:={ y with s:=(bI z y.kd.root y.kd.file).1,l:=q,j:=some (a.at 4) }) h.top _ (by omega)).more (by omega)
      ·show Chain (YV.aj _ _).s C y.kd.root (YV.aj _ _).l
       rw[e1,e3];exact hq
      ·have hb':(YV.aj _ _).j=some b:=hb
       rw[e4] at hb';cases hb';exact absurd hg (by show ¬(4:Int)<4;decide)
      ·have hb':(YV.aj _ _).j=some b:=hb
       rw[e4] at hb';cases hb';exact(hok.at (.inr (.inr (.inl rfl)))).qm
theorem zN{d:Nat→DV}{m:Nat}(hd:∀ i,(d i).fine (d i).fl.length m):(aY d).ok m:=fun i v e=>by
 unfold aY at e;split at e
 ·next hx=>cases e;exact(Pj (hd i) hx.2).1
 ·cases e
theorem Cc{s:ByteArray}(h:bJ s=0):(jI s).fault=0:=by
 unfold bJ at h;unfold jI;split at h
 ·next h1 =>
  split at h
  ·next h2 =>
   rw[if_pos ⟨h1,h2⟩];unfold mY at h2;simp only[Bool.and_eq_true,decide_eq_true_eq] at h2;exact h2.1
  ·cases h
 ·next h1=>exact absurd h h1
theorem O1{d:Nat→DV}{t:DV}{m:Nat}(hd:∀ i,(d i).fine (d i).fl.length m)(ht:t.fine t.fl.length m)(hf:nU d t=0):∃ C,YOk (gK d t) C m:=by
 unfold nU at hf;split at hf
 ·next hk =>
  have hkf:(aG t).kv.fault=0:=Cc hk;have hb:=of_decide_eq_true (KV.uz hkf).1;have hr0:0≤(aG t).root:=hb.1;have hr4:(aG t).root≤4:=hb.2.1
  have hne:((aY d).walk (aG t).root).1≠[]:=fun e=>by
   have:=SV.sH hf
   rw[e] at this;have:(aG t).root = -1:=this
   omega
  have hc:=Chain.of hf hne;obtain⟨v,hv,hvc⟩:=hc.root
  have hC:(((aY d).fQ (aG t).root).toNat:Int)=(aY d).fQ (aG t).root:=by
   have:=HV.fE ((zN hd).file hv).h
   omega
  rw[← hC] at hc
  have h0:YOk ⟨d,t,aY d,ak (aG t).root,((aY d).walk (aG t).root).1,none⟩ ((aY d).fQ (aG t).root).toNat m :=
   ⟨zN hd,hd,ht,jH hr0 hr4,hc,(fun j hj=>by cases hj),(fun j hj=>by cases hj)⟩
  refine⟨((aY d).fQ (aG t).root).toNat,?_⟩;unfold gK;by_cases hg:mF (aY d) (aG t)=true
  ·rw[if_pos hg,if_pos hg]
   have hn:=(of_decide_eq_true hg).2.2;have hin:=zI h0 (d:=aG t) rfl hn (st:=2) (.inr (.inl rfl));refine⟨h0.s,h0.dv,h0.top,hkf,hc,fun j hj _=>?_,fun j hj=>?_⟩
   ·cases hj;exact hin
   ·cases hj;exact hin.ok.qm
  ·rw[if_neg hg,if_neg hg];exact h0
 ·next hk=>exact absurd hf hk
theorem pO{n:Nat}(h1:1≤n)(h2:n≤200):(fH n).fine (fH n).fl.length 0 :=
 ⟨DV.D5 (by rw[List.length_replicate];exact h1) (by rw[List.length_replicate];exact h2) (fun s hs=>by rw[List.eq_of_mem_replicate hs];exact List.length_replicate) (by decide),N7 _ _,rfl,Nat.le_refl _⟩
theorem Ei(n:Nat):(fH n).fail = -1:=rfl
theorem QF{d:DV}(h:d.fail = -1)(t:List (Int × Int)):∀ k,(d.dQ t k).1.fail = -1∧(d.dQ t k).2=0:=by
 have pf:∀ {d:DV},d.fail = -1→d.aQ=0∧∀ i s,(d.put i s).fail = -1:=fun {d} h=>by
  have h0:d.fail≠0:=by omega
  refine⟨by unfold DV.aQ;rw[if_neg h0],fun i s=>?_⟩
  unfold DV.put DV.iC;rw[if_neg h0,if_pos h];exact h
 intro k
 induction k with
 | zero=>exact⟨h,rfl⟩
 | succ k ih =>
  rw[DV.uN ih.2];exact⟨(pf ih.1).2 _ _,(pf ih.1).1⟩
theorem zH{n:Nat}{h:HV}(hk:h.ok=true)(hn:aJ h≤n):crF (fH n) h=0:=by
 unfold crF;have hl:(fH n).fl.length=n:=List.length_replicate;obtain⟨h1,h2⟩:=QF (Ei n) (crT h) (aA h.c.toNat);rw[if_pos hk,if_neg (by rw[hl];omega),if_pos (show(crD (fH n) h).2=0 from h2)]
 show(crD (fH n) h).1.flushed.aQ=0
 unfold DV.aQ;rw[if_neg (by show ¬(crD (fH n) h).1.fail=0;unfold crD;omega)]
theorem Oy{c p:Int}(hk:(newH c p).ok=true)(hn:aJ (newH c p)≤200):YOk (jF c p) c.toNat 20:=by
 have hb:=HV.fE hk;have hc:((newH c p).c.toNat:Int)=c:=by show(c.toNat:Int)=c;have:(1:Int)≤c:=hb.1;omega
 have hd:=pO (n:=aJ (newH c p)) (by unfold aJ aI;omega) hn
 have hv:=wo hd hk (by rw[show(fH (aJ (newH c p))).fl.length=aJ (newH c p) from List.length_replicate];exact Nat.le_refl _) (by omega)
 have h0:YOk (jy c p) c.toNat 15:=by
  refine⟨fun i v e=>?_,fun i=>hd.more (by omega),(pO (by omega) (by omega)).more (by omega),jH (by decide) (by decide),?_,(fun j hj=>by cases hj),(fun j hj=>by cases hj)⟩
  ·have e':SV.upd (fun _=>none) 0 (crV (fH (aJ (newH c p))) (newH c p)) i=some v:=e
   unfold SV.upd at e';split at e'
   ·cases e';exact hv
   ·cases e'
  ·have hf:(jy c p).s.file 0=some (crV (fH (aJ (newH c p))) (newH c p)):=rfl
   have:=Chain.one hf (by rw[vZ];rfl)
   rw[vZ] at this;show Chain (jy c p).s ((c.toNat:Nat):Int) 0 [0]
   rw[show((c.toNat:Nat):Int)=(newH c p).c from hc];exact this
 exact(h0.bare (fun j hj=>by cases hj) (by omega)).more (by omega)
open Go.Maps
structure Jh where
 jp:Nat
 lp:Nat
 bp:Nat
 a:Option Addr
 cap:Nat
structure Yh where
 ds:Nat→Hd
 tp:Hd
 xs:Nat→Ih
 jb:Jh
def Yh.fpF(Y:Yh)(s:SV)(i k:Nat):Prop:=match s i with
 | none=>(Y.ds i).fp k
 | some _=>(Y.xs i).fp k
def Yh.dp(Y:Yh)(s:SV)(i:Nat):Nat:=match s i with
 | none=>(Y.ds i).p
 | some _=>(Y.xs i).h.p
theorem Yh.gX{Y:Yh}{s:SV}{i k:Nat}(h:s i=none):Y.fpF s i k=(Y.ds i).fp k:=by unfold Yh.fpF;rw[h]
theorem Yh.gY{Y:Yh}{s:SV}{i k:Nat}{v:IV}(h:s i=some v):Y.fpF s i k=(Y.xs i).fp k:=by unfold Yh.fpF;rw[h]
theorem Yh.dp_none{Y:Yh}{s:SV}{i:Nat}(h:s i=none):Y.dp s i=(Y.ds i).p:=by unfold Yh.dp;rw[h]
theorem Yh.o8{Y:Yh}{s:SV}{i:Nat}{v:IV}(h:s i=some v):Y.dp s i=(Y.xs i).h.p:=by unfold Yh.dp;rw[h]
def Jh.fp(b:Jh)(j:Option JV)(k:Nat):Prop:=j≠none∧(k=b.jp∨k=b.lp∨k=b.bp)
def fpY(yp:Nat)(Y:Yh)(y:YV)(k:Nat):Prop:=k=yp∨(∃ i,i<5∧Y.fpF y.s i k)∨Y.tp.fp k∨Y.jb.fp y.j k
def ni(b:Jh):Option JV→Value
 | none=>.pointer none
 | some _=>.pointer (some ⟨b.jp,0,none⟩)
structure iQ(w:World)(yp:Nat)(Y:Yh)(s:SV)(r:Int)(jv:Value):Prop where
 is:∃ cur,w.heap[yp]?=some (.cells cur 168 (0,0))∧(∀ i,i<5→cur[i]?=some (.pointer (some ⟨Y.dp s i,0,none⟩)))∧cur[5]?=some (.pointer (some ⟨Y.tp.p,0,none⟩)) ∧
  (∀ i,i<5→cur[6+i]?=some (fJ (Y.xs i) (s i)))∧cur[11]?=some (.int .i64 r)∧cur[12]?=some jv
structure ay(w:World)(yp:Nat)(Y:Yh)(y:YV):Prop where
 blk:iQ w yp Y y.s y.kd.root (ni Y.jb y.j)
 img:∀ i v,i<5→y.s i=some v→aC Gd.no w (Y.xs i) v
 dev:∀ i,i<5→y.s i=none→bg Gd.no w (Y.ds i) (y.dv i)
 top:bg Gd.no w Y.tp y.top
 apart:∀ i j,i<5→j<5→i≠j→∀ k,Y.fpF y.s i k→¬Y.fpF y.s j k
 apTop:∀ i,i<5→∀ k,Y.tp.fp k→¬Y.fpF y.s i k
 job:∀ j,y.j=some j→gW w Y.jb.jp yp Y.jb.lp Y.jb.bp Y.jb.a Y.jb.cap j∧Nums w Y.jb.a j.l∧j.l≠[]∧j.l.length≤Y.jb.cap∧Apart Y.jb.a (fpY yp Y y)
theorem iQ.lt{w:World}{yp:Nat}{Y:Yh}{s:SV}{r:Int}{jv:Value}(h:iQ w yp Y s r jv):yp<w.heap.size:=by
 obtain⟨c,h1,_⟩:=h.is;exact lt_of_some h1
theorem iQ.keep{w w':World}{yp:Nat}{Y:Yh}{s:SV}{r:Int}{jv:Value}(h:iQ w yp Y s r jv)(e:w'.heap[yp]?=w.heap[yp]?):iQ w' yp Y s r jv:=⟨by rw[e];exact h.is⟩
theorem iQ.cells{w:World}{yp:Nat}{Y:Yh}{s:SV}{r:Int}{jv:Value}(h:iQ w yp Y s r jv) :
  (∀ i,i<5→w.cell? ⟨yp,i,none⟩=some (.pointer (some ⟨Y.dp s i,0,none⟩)))∧w.cell? ⟨yp,5,none⟩=some (.pointer (some ⟨Y.tp.p,0,none⟩))∧(∀ i,i<5→w.cell? ⟨yp,6+i,none⟩=some (fJ (Y.xs i) (s i)))∧w.cell? ⟨yp,11,none⟩=some (.int .i64 r)∧w.cell? ⟨yp,12,none⟩=some jv∧∀ i,w.frozen? ⟨yp,i,none⟩=false:=by
 obtain⟨c,h1,h2,h3,h4,h5,h6⟩:=h.is;have hc:∀ i,w.cell? ⟨yp,i,none⟩=c[i]?:=fun i=>cell_of_row w yp _ _ _ _ h1
 exact⟨fun i hi=>(hc i).trans (h2 i hi),(hc 5).trans h3,fun i hi=>(hc _).trans (h4 i hi),(hc 11).trans h5,(hc 12).trans h6,fun i=>frozen_of_row w yp i _ _ h1⟩
theorem bg.oK{B:Gd}{w:World}{h:Hd}{d:DV}(hd:bg B w h d){k:Nat}{cur:Array Value}{t:TypeId}(hb:w.heap[k]?=some (.cells cur t (0,0)))(ht:¬(t=264∨t=261∨t=266∨t=220∨t=211)):¬h.fp k:=fun hk=>by
 obtain⟨cur2,t2,e1,p⟩:=hd.kinds k hk;rw[hb] at e1;cases e1
 rcases p with p|p|p
 ·exact ht (.inl p)
 ·exact ht (.inr (.inl p))
 ·exact ht (.inr (.inr (.inl p)))
theorem ay.qH{w:World}{yp:Nat}{Y:Yh}{y:YV}(h:ay w yp Y y){i k:Nat}(hi:i<5)(hk:Y.fpF y.s i k):k<w.heap.size:=by
 cases hs:y.s i with
 | none=>rw[Yh.gX hs] at hk;exact((h.dev i hi hs).lt k hk).2
 | some v=>rw[Yh.gY hs] at hk;exact(h.img i v hi hs).jJ k hk
theorem ay.xg{w:World}{yp:Nat}{Y:Yh}{y:YV}(h:ay w yp Y y){i k:Nat}(hi:i<5){cur:Array Value}{t:TypeId}(hb:w.heap[k]?=some (.cells cur t (0,0)))(ht:¬(t=264∨t=261∨t=266∨t=220∨t=211)):¬Y.fpF y.s i k:=by
 cases hs:y.s i with
 | none=>rw[Yh.gX hs];exact(h.dev i hi hs).oK hb ht
 | some v=>rw[Yh.gY hs];exact(h.img i v hi hs).Ep hb ht
theorem ay.iT{w:World}{yp:Nat}{Y:Yh}{y:YV}(h:ay w yp Y y){k:Nat}(hk:fpY yp Y y k):k<w.heap.size:=by
 rcases hk with rfl|⟨i,hi,hk⟩|hk|⟨hj,hk⟩
 ·exact h.blk.lt
 ·exact h.qH hi hk
 ·exact(h.top.lt k hk).2
 ·cases e:y.j with
  | none=>exact absurd e hj
  | some j =>
   obtain⟨l1,l2,l3⟩:=(h.job j e).1.lts;rcases hk with rfl|rfl|rfl
   ·exact l1
   ·exact l2
   ·exact l3
theorem ay.oh{w:World}{yp:Nat}{Y:Yh}{y:YV}(h:ay w yp Y y):(∀ i,i<5→¬Y.fpF y.s i yp)∧¬Y.tp.fp yp∧¬Y.jb.fp y.j yp:=by
 obtain⟨c,h1,_⟩:=h.blk.is;refine⟨fun i hi=>h.xg hi h1 (by decide),h.top.oK h1 (by decide),fun ⟨hj,hk⟩=>?_⟩
 cases e:y.j with
 | none=>exact absurd e hj
 | some j =>
  have hJ:=(h.job j e).1;have e1:=hJ.blk;have e2:w.heap[Y.jb.lp]?=_:=hJ.set;have e3:w.heap[Y.jb.bp]?=_:=hJ.bkt;rcases hk with e4|e4|e4
  ·rw[← e4,h1] at e1;simp at e1
  ·rw[← e4,h1] at e2;simp at e2
  ·rw[← e4,h1] at e3;simp at e3
theorem ay.pK{w:World}{yp:Nat}{Y:Yh}{y:YV}(h:ay w yp Y y){k:Nat}(hk:Y.jb.fp y.j k):(∀ i,i<5→¬Y.fpF y.s i k)∧¬Y.tp.fp k:=by
 obtain⟨hj,hk⟩:=hk
 cases e:y.j with
 | none=>exact absurd e hj
 | some j =>
  have hJ:=(h.job j e).1;have e1:=hJ.blk;have e2:w.heap[Y.jb.lp]?=_:=hJ.set;have e3:w.heap[Y.jb.bp]?=_:=hJ.bkt;rcases hk with rfl|rfl|rfl
  ·exact⟨fun i hi=>h.xg hi e1 (by decide),h.top.oK e1 (by decide)⟩
  ·exact⟨fun i hi=>h.xg hi e2 (by decide),h.top.oK e2 (by decide)⟩
  ·exact⟨fun i hi=>h.xg hi e3 (by decide),h.top.oK e3 (by decide)⟩
theorem ay.inS{w:World}{yp:Nat}{Y:Yh}{y:YV}(_h:ay w yp Y y){k:Nat}(hk:fpS Y.xs y.s k):∃ i,i<5∧Y.fpF y.s i k:=by
 obtain⟨i,hi,hs,hf⟩:=hk
 cases hv:y.s i with
 | none=>exact absurd hv hs
 | some v=>exact⟨i,hi,by rw[Yh.gY hv];exact hf⟩
theorem ay.shelf{w:World}{yp m:Nat}{Y:Yh}{y:YV}(h:ay w yp Y y)(hok:y.s.ok m):aV w yp Y.xs y.s m:=by
 obtain⟨c,h1,h2,h3,h4,h5,h6⟩:=h.blk.is;refine⟨⟨c,h1,h4,fun i hi hs=>?_⟩,h.img,hok,fun i j hi hj hij hsi hsj k hk hk2=>?_⟩
 ·cases hv:y.s i with
  | none=>exact absurd hv hs
  | some v=>rw[h2 i hi,Yh.o8 hv]
 ·cases hv:y.s i with
  | none=>exact absurd hv hsi
  | some v =>
   cases hu:y.s j with
   | none=>exact absurd hu hsj
   | some u=>exact h.apart i j hi hj hij k (by rw[Yh.gY hv];exact hk) (by rw[Yh.gY hu];exact hk2)
theorem ay.keep{w w':World}{yp:Nat}{Y:Yh}{y:YV}(h:ay w yp Y y)(hk:∀ k,fpY yp Y y k→w'.heap[k]?=w.heap[k]?)(ha:∀ g o,Y.jb.a=some ⟨g,o,none⟩→g<w.heap.size→w'.heap[g]?=w.heap[g]?):ay w' yp Y y :=
 ⟨h.blk.keep (hk _ (.inl rfl)),fun i v hi hv=>(h.img i v hi hv).lT fun k hf=>hk k (.inr (.inl ⟨i,hi,by rw[Yh.gY hv];exact hf⟩)),fun i hi hv=>(h.dev i hi hv).keep fun k hf=>hk k (.inr (.inl ⟨i,hi,by rw[Yh.gX hv];exact hf⟩)),h.top.keep fun k hf=>hk k (.inr (.inr (.inl hf))),h.apart,h.apTop,fun j hj=>by
  obtain⟨h1,h2,h3,h4,h5⟩:=h.job j hj;have hn:y.j≠none:=by rw[hj];intro e;cases e
  exact⟨h1.keep (hk _ (.inr (.inr (.inr ⟨hn,.inl rfl⟩)))) (hk _ (.inr (.inr (.inr ⟨hn,.inr (.inl rfl)⟩)))) (hk _ (.inr (.inr (.inr ⟨hn,.inr (.inr rfl)⟩)))),h2.keep fun g o e=>ha g o e (h2.lt h3 e),h3,h4,h5⟩⟩
theorem ay.below{w w':World}{yp:Nat}{Y:Yh}{y:YV}(h:ay w yp Y y)(hb:Below w.heap.size w w'):ay w' yp Y y :=
 h.keep (fun _ hk=>hb.block _ (h.iT hk)) fun _ _ _ hl=>hb.block _ hl
theorem ay.beside{S S':Nat→Prop}{w w':World}{yp:Nat}{Y:Yh}{y:YV}(h:ay w yp Y y)(hm:Moved S w S' w')(hs:∀ k,fpY yp Y y k→¬S k)(ha:Apart Y.jb.a S):ay w' yp Y y :=
 h.keep (fun k hk=>hm.block (h.iT hk) (hs k hk)) fun g o e hl=>hm.block hl (ha g o e)
def iD(yp:Nat)(Y:Yh)(y y':YV)(w w':World):Prop:=∃ Y':Yh,(Y'.jb=Y.jb∨∀ g o,Y'.jb.a=some ⟨g,o,none⟩→w.heap.size≤g∧g<w'.heap.size)∧ay w' yp Y' y'∧Moved (fpY yp Y y) w (fpY yp Y' y') w'
theorem iD.of_below{w w':World}{yp:Nat}{Y:Yh}{y:YV}(h:ay w yp Y y)(hb:Below w.heap.size w w'):iD yp Y y y w w':=⟨Y,.inl rfl,h.below hb,Moved.of_below hb⟩
theorem ay.oU{S S':Nat→Prop}{w w':World}{yp m':Nat}{Y:Yh}{y:YV}{xs':Nat→Ih}{z:SV}{j':Option JV}(h:ay w yp Y y)(hs:aV w' yp xs' z m')(hm:Moved S w S' w')
  (hS:∀ k,S k→fpS Y.xs y.s k∨Y.jb.fp y.j k) (hS':∀ k,fpS xs' z k∨Y.jb.fp y.j k→S' k∨k<w.heap.size∧(fpS Y.xs y.s k∨Y.jb.fp y.j k)) (hn:j'=none↔y.j=none)
  (hj:∀ a,j'=some a→∃ j,y.j=some j∧a.l=j.l∧gW w' Y.jb.jp yp Y.jb.lp Y.jb.bp Y.jb.a Y.jb.cap a) :
  ay w' yp { Y with xs:=xs' } { y with s:=z,j:=j' }∧Moved (fpY yp Y y) w (fpY yp { Y with xs:=xs' } { y with s:=z,j:=j' }) w':=by
 obtain⟨n1,n2,n3⟩:=h.oh
 have hSF:∀ k,S k→(∃ i,i<5∧Y.fpF y.s i k∧y.s i≠none)∨Y.jb.fp y.j k:=fun k hk=>by
  rcases hS k hk with⟨i,hi,hne,hf⟩|hk
  ·cases hv:y.s i with
   | none=>exact absurd hv hne
   | some v=>exact .inl ⟨i,hi,by rw[Yh.gY hv];exact hf,(by rw[hv];intro e;cases e)⟩
  ·exact .inr hk
 have hyp:¬S yp:=fun e=>by
  rcases hSF yp e with⟨i,hi,hf,_⟩|hk
  ·exact n1 i hi hf
  ·exact n3 hk
 have hblk:=hm.block h.blk.lt hyp;obtain⟨c,h1,h2,h3,h4,h5,h6⟩:=h.blk.is;obtain⟨c',g1,g2,g3⟩:=hs.is_;rw[hblk,h1] at g1;have ec:c=c':=by cases g1;rfl
 subst ec
 have hsame:∀ i,i<5→(z i=none↔y.s i=none):=fun i hi=>by
  have e:=(g2 i hi).symm.trans (h4 i hi)
  cases hz:z i with
  | none =>
   cases hv:y.s i with
   | none=>exact⟨fun _=>rfl,fun _=>rfl⟩
   | some v=>rw[hz,hv] at e;cases e
  | some u =>
   cases hv:y.s i with
   | none=>rw[hz,hv] at e;cases e
   | some v=>exact⟨fun e=>(by cases e),fun e=>(by cases e)⟩
 have hdp:∀ i,i<5→({ Y with xs:=xs' }:Yh).dp z i=Y.dp y.s i:=fun i hi=>by
  cases hz:z i with
  | none=>rw[Yh.dp_none hz,Yh.dp_none ((hsame i hi).1 hz)]
  | some u =>
   cases hv:y.s i with
   | none=>rw[(hsame i hi).2 hv] at hz;cases hz
   | some v =>
    have e:=(g3 i hi (by rw[hz];intro e;cases e)).symm.trans (h2 i hi)
    rw[Yh.o8 hz];have e2:=Option.some.inj e
    injection e2 with e3
    have e4:=Option.some.inj e3
    injection e4
 have hno:∀ k,k<w.heap.size→(∀ i,i<5→y.s i≠none→¬Y.fpF y.s i k)→¬Y.jb.fp y.j k→¬S k:=fun k _ hf hj e=>by
  rcases hSF k e with⟨i,hi,hk,hne⟩|hk
  ·exact hf i hi hne hk
  ·exact hj hk
 have hds:∀ i,i<5→y.s i=none→∀ k,(Y.ds i).fp k→¬S k:=fun i hi hv k hk e=>by
  have hkF:Y.fpF y.s i k:=by rw[Yh.gX hv];exact hk
  rcases hSF k e with⟨i',hi',hf,hne⟩|hf
  ·exact h.apart i i' hi hi' (fun e=>hne (by rw[← e];exact hv)) k hkF hf
  ·exact(h.pK hf).1 i hi hkF
 have htp:∀ k,Y.tp.fp k→¬S k:=fun k hk e=>by
  rcases hSF k e with⟨i',hi',hf,_⟩|hf
  ·exact h.apTop i' hi' k hk hf
  ·exact(h.pK hf).2 hk
 have hnew:∀ k,fpS xs' z k∨Y.jb.fp y.j k→(fpS Y.xs y.s k∨Y.jb.fp y.j k)∨w.heap.size≤k:=fun k hk=>by
  rcases hS' k hk with h7|h7
  ·rcases hm.new k h7 with h8|h8
   ·exact .inl (hS k h8)
   ·exact .inr h8
  ·exact .inl h7.2
 have hfpz:∀ i k,i<5→({ Y with xs:=xs' }:Yh).fpF z i k→(y.s i=none∧(Y.ds i).fp k)∨(z i≠none∧fpS xs' z k∧(xs' i).fp k):=fun i k hi hk=>by
  cases hz:z i with
  | none=>rw[Yh.gX hz] at hk;exact .inl ⟨(hsame i hi).1 hz,hk⟩
  | some u=>rw[Yh.gY hz] at hk;exact .inr ⟨(by intro e;cases e),⟨i,hi,(by rw[hz];intro e;cases e),hk⟩,hk⟩
 have hout:∀ k,k<w.heap.size→fpS xs' z k→(∃ i,i<5∧Y.fpF y.s i k∧y.s i≠none)∨Y.jb.fp y.j k:=fun k hl hk=>by
  rcases hnew k (.inl hk) with h7|h7
  ·rcases h7 with⟨i,hi,hne,hf⟩|h7
   ·cases hv:y.s i with
    | none=>exact absurd hv hne
    | some v=>exact .inl ⟨i,hi,by rw[Yh.gY hv];exact hf,(by rw[hv];intro e;cases e)⟩
   ·exact .inr h7
  ·omega
 have hM:Moved (fpY yp Y y) w (fpY yp { Y with xs:=xs' } { y with s:=z,j:=j' }) w':=by
  refine⟨hm.kept.mono fun k _ hk=>?_,fun k hk=>?_⟩
  ·rcases hSF k hk with⟨i,hi,hf,_⟩|hf
   ·exact .inr (.inl ⟨i,hi,hf⟩)
   ·exact .inr (.inr (.inr hf))
  ·rcases hk with rfl|⟨i,hi,hf⟩|hf|⟨hj1,hj2⟩
   ·exact .inl (.inl rfl)
   ·rcases hfpz i k hi hf with⟨hv,hk⟩|⟨_,hk,_⟩
    ·exact .inl (.inr (.inl ⟨i,hi,by rw[Yh.gX hv];exact hk⟩))
    ·rcases hnew k (.inl hk) with h7|h7
     ·rcases h7 with h7|h7
      ·exact .inl (.inr (.inl (h.inS h7)))
      ·exact .inl (.inr (.inr (.inr h7)))
     ·exact .inr h7
   ·exact .inl (.inr (.inr (.inl hf)))
   ·exact .inl (.inr (.inr (.inr ⟨fun e=>hj1 (hn.2 e),hj2⟩)))
 refine⟨⟨⟨c,by rw[hblk];exact h1,fun i hi=>by rw[hdp i hi];exact h2 i hi,h3,g2,h5,?_⟩,hs.img,fun i hi hz=>?_,?_,fun i j hi hj2 hij k hk hk2=>?_,fun i hi k hk hk2=>?_,fun a ha=>?_⟩,hM⟩
 ·rw[h6]
  cases e:j' with
  | none=>rw[hn.1 e]
  | some a =>
   cases e2:y.j with
   | none=>rw[hn.2 e2] at e;cases e
   | some b=>rfl
 ·have hv:=(hsame i hi).1 hz
  have hd:=h.dev i hi hv;exact hd.keep fun k hk=>hm.block (hd.lt k hk).2 (hds i hi hv k hk)
 ·exact h.top.keep fun k hk=>hm.block (h.top.lt k hk).2 (htp k hk)
 ·rcases hfpz i k hi hk with⟨hv,hk⟩|⟨hne,hk,hki⟩
  ·have hl:=((h.dev i hi hv).lt k hk).2
   have hkF:Y.fpF y.s i k:=by rw[Yh.gX hv];exact hk
   rcases hfpz j k hj2 hk2 with⟨hv2,hk2⟩|⟨_,hk2,_⟩
   ·exact h.apart i j hi hj2 hij k hkF (by rw[Yh.gX hv2];exact hk2)
   ·rcases hout k hl hk2 with⟨i',hi',hf,hne⟩|hf
    ·exact h.apart i i' hi hi' (fun e=>hne (by rw[← e];exact hv)) k hkF hf
    ·exact(h.pK hf).1 i hi hkF
  ·rcases hfpz j k hj2 hk2 with⟨hv2,hk2⟩|⟨hne2,_,hkj⟩
   ·have hl:=((h.dev j hj2 hv2).lt k hk2).2
    have hkF:Y.fpF y.s j k:=by rw[Yh.gX hv2];exact hk2
    rcases hout k hl hk with⟨i',hi',hf,hne'⟩|hf
    ·exact h.apart j i' hj2 hi' (fun e=>hne' (by rw[← e];exact hv2)) k hkF hf
    ·exact(h.pK hf).1 j hj2 hkF
   ·exact hs.apart i j hi hj2 hij hne hne2 k hki hkj
 ·rcases hfpz i k hi hk2 with⟨hv2,hk2⟩|⟨_,hk2,_⟩
  ·exact h.apTop i hi k hk (by rw[Yh.gX hv2];exact hk2)
  ·rcases hout k (h.top.lt k hk).2 hk2 with⟨i',hi',hf,_⟩|hf
   ·exact h.apTop i' hi' k hk hf
   ·exact(h.pK hf).2 hk
 ·obtain⟨j,e1,e2,e3⟩:=hj a ha
  obtain⟨h7,h8,h9,h10,h11⟩:=h.job j e1;rw[e2];exact⟨e3,h8.moved hM h11,h9,h10,h11.moved h8 h9 hM⟩
end Go.Proofs.YtonhoahnieoebabGreatDoor
