/- A yard as its guest sees it (W1): a pivot, a job that begins. -/
import Derived.Test.YtonhoahnieoebabGreatDoorQAYardGuest
namespace Go.Proofs.YtonhoahnieoebabGreatDoor
open Go.RowKit
theorem Ap{j:JV}(h:j.state=3)(hs:j.stage=1∨j.stage=2∨j.stage=4∨j.stage=5):S4.cnt j.x 64=0:=by
 unfold JV.state at h;split at h
 ·next e=>exact e.2
 ·omega
theorem JGo.pivots{s:SV}{C m:Nat}{root:Int}{j:JV}(h:JGo s C m j)(hc:Chain s C root j.l)(h2:j.kind≠2)(hb:j.kind=1→∀ v,s.file j.file=some v→v.h.b = -1):Chain s C j.file (bV j):=by
 unfold bV;rcases h.ok.kind with e|e|e
 ·rw[if_pos e]
  obtain⟨_,v,h1,h3⟩:=h.mir e;rw[← h3];exact Chain.one h1 (hb e v h1)
 ·exact absurd e h2
 ·rw[if_neg (by omega),if_neg (by omega)]
  obtain⟨q,hq⟩:=h.com e;rw[hq];have hsplit:j.l=j.l.take j.deep++j.file::q:=by rw[← hq,List.take_append_drop]
  rw[hsplit] at hc;exact hc.drop
theorem YG.pivot{y:YV}{C m:Nat}(h:YG y C m)(hm:m+20<1000000000):YG y.pivot C (m+11)∧∀ c,c<C→∀ i,i<4→y.pivot.s.view c i y.pivot.l=y.s.view c i y.l:=by
 have hok:=h.ok.pivot hm
 cases hj:y.j with
 | none =>
  have e:y.pivot=y:=by unfold YV.pivot;rw[hj]
  rw[e] at hok ⊢;exact⟨⟨hok,h.safe,h.job⟩,fun _ _ _ _=>rfl⟩
 | some j =>
  by_cases hx:4≤j.stage∨y.kd.kind=2
  ·have e:y.pivot=y:=by unfold YV.pivot;rw[hj];simp only;rw[if_pos hx]
   rw[e] at hok ⊢;exact⟨⟨hok,h.safe,h.job⟩,fun _ _ _ _=>rfl⟩
  ·have est:y.pivot=(if dH y.s j≠0 then { y with s:=aF y.s j,j:=some (aK y.s j) } else ({ y with s:=aF y.s j,j:=some (aK y.s j) }:YV).over y.kd.file 4):=by
    unfold YV.pivot;rw[hj];simp only
    rw[if_neg hx]
   rw[not_or] at hx;have hgj:j.stage<4:=by omega
   have hgo:=h.go hj hgj;have hh:=h.job j hj hgj;have hin:=h.ok.job j hj hgj;have hk:j.kind=y.kd.kind:=by rw[← hin.dsk];rfl
   have hkf:y.kd.file=j.file:=by rw[← hin.dsk];rfl
   have hj2:j.kind≠2:=by rw[hk];exact hx.2
   have hJ:aK y.s j=j:=by
    unfold aK;rw[if_neg (fun e=>hj2 e.2.1)]
   have hS:∀ l,bF l y.s (aF y.s j):=fun l=>by
    unfold aF;split
    ·exact .bQ l _ _
    ·exact .refl l _
   have hV:∀ c i,i<4→∀ l,y.s.good (C:Int) l→(aF y.s j).view c i l=y.s.view c i l:=fun c i hi l hg=>by
    unfold aF;split
    ·exact ug c i hi _ _ hg
    ·rfl
   have hz:=h.safe.settle h.ok.s j;obtain⟨r,v,etl,_,_,_,hgt⟩:=hgo.form;have hgt':y.s.good (C:Int) (bV j):=by rw[etl];exact hgt
   have hsame:Same (aF y.s j) C j:=fun c hc hb i hi=>by
    rw[hV c i hi _ hgt',hV c i hi _ hin.ok.good];exact hh.same c hc hb i hi
   have hhz:mQ (aF y.s j) C j:=hh.as hsame rfl rfl rfl;rw[est,hJ] at hok ⊢;clear est;split
   ·next hf =>
    rw[if_pos hf] at hok;refine⟨⟨hok,hz,fun b hb _=>?_⟩,fun c hc i hi=>hV c i hi _ h.ok.ch.good⟩
    cases hb;exact hhz
   ·next hf =>
    rw[if_neg hf] at hok
    have hs3:j.state=3:=by
     have hf0:dH y.s j=0:=Classical.byContradiction hf;unfold dH at hf0;split at hf0
     ·next e=>exact e
     ·cases hf0
    unfold YV.over at hok ⊢;obtain⟨d1,_,d3,d4⟩:=fP { y with s:=aF y.s j,j:=some j } (ak y.kd.file)
    split
    ·next hd =>
     rw[if_pos hd] at hok;have hcj:Chain y.s C y.kd.root j.l:=by rw[hin.lst];exact h.ok.ch
     have hbk:j.kind=1→∀ v,y.s.file j.file=some v→v.h.b = -1:=fun e v hv=>by
      obtain⟨u,h1,h3,_⟩:=hin.tgt.mir (by rw[← hk];exact e)
      rw[hkf,hv] at h1;cases h1;exact h3
     have hp:=(hgo.pivots hcj hj2 hbk).over (hS _);have hw:((aF y.s j).walk y.kd.file).1=bV j:=by rw[hkf,hp.walk]
     refine⟨⟨hok,?_,fun b hb hg=>?_⟩,fun c hc i hi=>?_⟩
     ·show aZ (YV.aj _ _).s
      rw[d1];exact hz
     ·have hb':some (j.at 4)=some b:=hb
      cases hb'
      exact absurd hg (by show ¬(4:Int)<4;decide)
     ·show(YV.aj _ _).s.view c i ((aF y.s j).walk y.kd.file).1=_
      rw[d1,hw];show(aF y.s j).view c i (bV j)=_
      have:=hsame.done (Ap hs3 hin.ok.stage) (by have:=hin.ok.c40;omega) hc hi
      rw[this,hin.lst];exact hV c i hi _ h.ok.ch.good
    ·next hd =>
     rw[if_neg hd] at hok;refine⟨⟨hok,by rw[d1];exact hz,fun b hb _=>?_⟩,fun c hc i hi=>by rw[d1,d3];exact hV c i hi _ h.ok.ch.good⟩
     rw[d4] at hb;cases hb
     rw[d1];exact hhz
def mV(y z:YV)(C:Nat):Prop:=∀ c,c<C→∀ i,i<4→z.s.view c i z.l=y.s.view c i y.l
theorem OA{s:SV}{d:aS}{C m:Nat}(hk:vO s d m)(h:JOk s C (dW s d)):mQ s C (iL s d):=by
 have hnd:=Linked.nodup _ _ (SV.sH hk.w0);have hl:(iL s d).l=(s.walk d.root).1:=rfl;have hdp:(iL s d).deep=lQ (s.walk d.root).1 d:=rfl
 have drop_at:∀(l:List Int) (k:Nat),k<l.length→l.getD k 0=d.file→l.drop k=d.file::l.drop (k+1):=fun l k hk' hd=>by
  rw[List.getD_eq_getElem?_getD,List.getElem?_eq_getElem hk'] at hd;have hd':l[k]=d.file:=hd;rw[List.drop_eq_getElem_cons hk',hd']
 have hck:=hk.ck;unfold lK at hck
 have pos:∀ l:List Int,l≠[]→1≤l.length:=fun l h=>by
  cases l with
  | nil=>exact absurd rfl h
  | cons x r=>simp
 have hstr:d.kind=2→1≤lQ (s.walk d.root).1 d∧((d.file = -1∧(s.walk d.root).1.drop (lQ (s.walk d.root).1 d)=[])∨∃ q,(s.walk d.root).1.drop (lQ (s.walk d.root).1 d)=d.file::q):=fun e=>by
  rw[if_neg (by omega),if_pos (.inl e)] at hck
  unfold lQ;rw[if_neg (by omega)]
  split at hck
  ·next hx =>
   rcases pJ _ d.file hnd with⟨e1,e2⟩|⟨k,e1,e2,e3⟩
   ·rw[if_pos e1]
    refine⟨pos _ hk.ne,.inl ⟨?_,List.drop_length⟩⟩;rcases hx with hx|hx
    ·exact hx.2
    ·exact absurd (List.mem_of_mem_drop (i:=1) (by simpa using hx)) e2
   ·rw[e1,if_neg (by omega),show((k:Int)).toNat=k by omega]
    refine⟨?_,.inr ⟨_,drop_at _ k e2 e3⟩⟩;rcases hx with hx|hx
    ·obtain⟨v,hv,_⟩:=(s.walk_good d.root).1 d.file (by
      rw[List.getD_eq_getElem?_getD,List.getElem?_eq_getElem e2] at e3;have e3':(s.walk d.root).1[k]=d.file:=e3
      rw[← e3'];exact List.getElem_mem e2)
     have:=(SV.dJ hv).1
     omega
    ·have:=(CG hnd).1 hx
     omega
  ·cases hck
 refine⟨OB h (fun e=>(hstr e).1),fun e=>(hstr e).1,fun e=>?_,fun e=>(hstr e).2⟩
 have e':d.kind=3:=e;rw[if_neg (by omega),if_pos (.inr e')] at hck
 rw[hl,hdp];unfold lQ;rw[if_neg (by omega)]
 split at hck
 ·next hx =>
  rcases hx with hx|hx
  ·have:=hx.1;omega
  ·have h1:=(CG hnd).1 hx
   rcases pJ _ d.file hnd with⟨e1,_⟩|⟨k,e1,e2,e3⟩
   ·omega
   ·rw[e1,if_neg (by omega),show((k:Int)).toNat=k by omega]
    exact⟨_,drop_at _ k e2 e3⟩
 ·cases hck
theorem mQ.at{s:SV}{C:Nat}{j:JV}(h:mQ s C j)(st:Int):mQ s C (j.at st):=⟨h.same,h.str,h.com,h.str2⟩
theorem YG.start{y:YV}{C m:Nat}(h:YG y C m){d:aS}(hr:d.root=y.kd.root)(hm:m<1000000000):YG (y.start d) C (m+1)∧mV y (y.start d) C:=by
 have hok:=h.ok.start hr hm;unfold YV.start at hok ⊢;split
 ·next h0 =>
  rw[if_pos h0] at hok
  have hn:newF y.s d=0:=by
   unfold YV.mO at h0;split at h0
   ·cases h0
   ·split at h0
    ·cases h0
    ·split at h0
     ·exact h0
     ·next hf=>exact absurd h0 hf
  have hin:=zI h.ok hr hn (st:=1) (.inl rfl);obtain⟨d1,_,d3,d4⟩:=fP y d;split
  ·next hd =>
   rw[if_pos hd] at hok;refine⟨⟨hok,by show aZ (y.aj d).s;rw[d1];exact h.safe,fun b hb _=>?_⟩,fun c _ i _=>by show(y.aj d).s.view c i (y.aj d).l=_;rw[d1,d3]⟩
   have hb':some ((iL y.s d).at 1)=some b:=hb;cases hb'
   show mQ (y.aj d).s C _
   rw[d1];have hk:=wZ h.ok.s hn;obtain⟨C',k1,k2,_⟩:=hk.jok
   have hC:C'=C:=by
    have hl:(y.s.walk d.root).1=y.l:=by rw[hr,h.ok.ch.walk]
    rw[hl,h.ok.ch.good.fV h.ok.ch.ne] at k2;omega
   subst hC;exact(OA hk k1).at 1
  ·next hd =>
   rw[if_neg hd] at hok;exact⟨⟨hok,by rw[d1];exact h.safe,by rw[d4,d1];exact h.job⟩,fun c _ i _=>by rw[d1,d3]⟩
 ·next h0 =>
  rw[if_neg h0] at hok;exact⟨⟨hok,h.safe,h.job⟩,fun _ _ _ _=>rfl⟩
theorem YG.flush{y:YV}{C m:Nat}(h:YG y C m):YG y.flush C m∧mV y y.flush C:=by
 refine⟨⟨h.ok.flush,aZ.bQ _ h.safe h.ok.s,fun j hj hg=>?_⟩,fun c _ i hi=>ug c i hi _ _ h.ok.ch.good⟩
 have hh:=h.job j hj hg;have hin:=h.ok.job j hj hg;obtain⟨r,v,etl,_,_,_,hgt⟩:=(h.go hj hg).form;refine hh.as (fun c hc hb i hi=>?_) rfl rfl rfl
 show(y.s.bQ y.l).view c i (bV j)=(y.s.bQ y.l).view c i j.l
 rw[ug c i hi _ _ (show y.s.good (C:Int) (bV j) by rw[etl];exact hgt),ug c i hi _ _ hin.ok.good]
 exact hh.same c hc hb i hi
theorem YG.cancel{y:YV}{C m:Nat}(h:YG y C m)(hm:m<1000000000):YG y.cancel C (m+1)∧mV y y.cancel C:=by
 have hok:=h.ok.cancel hm;unfold YV.cancel at hok ⊢;split
 ·next hb =>
  rw[if_pos hb] at hok;unfold YV.over at hok ⊢;obtain⟨d1,_,d3,d4⟩:=fP y (ak y.kd.root);split
  ·next hd =>
   rw[if_pos hd] at hok;refine⟨⟨hok,by show aZ (y.aj _).s;rw[d1];exact h.safe,fun b hb' hg=>?_⟩,fun c _ i _=>?_⟩
   ·have hb2:(y.j.map fun j=>j.at 5)=some b:=hb'
    cases hj:y.j with
    | none=>rw[hj] at hb2;cases hb2
    | some j =>
     rw[hj] at hb2;have e:j.at 5=b:=Option.some.inj hb2;rw[← e] at hg;exact absurd hg (by show ¬(5:Int)<4;decide)
   ·show(y.aj _).s.view c i (y.s.walk y.kd.root).1=_
    rw[d1,h.ok.ch.walk]
  ·next hd =>
   rw[if_neg hd] at hok;exact⟨⟨hok,by rw[d1];exact h.safe,by rw[d4,d1];exact h.job⟩,fun c _ i _=>by rw[d1,d3]⟩
 ·next hb =>
  rw[if_neg hb] at hok;exact⟨⟨hok,h.safe,h.job⟩,fun _ _ _ _=>rfl⟩
theorem YG.pause{y:YV}{C m:Nat}(h:YG y C m)(on:Bool):YG (y.pause on) C m∧mV y (y.pause on) C:=by
 have hok:=h.ok.pause on;unfold YV.pause at hok ⊢;split
 ·next hb =>
  rw[if_pos hb] at hok;refine⟨⟨hok,h.safe,fun b hb' _=>?_⟩,fun _ _ _ _=>rfl⟩
  obtain⟨j,hj,hg⟩:=mW hb;have hb2:(y.j.map fun j=>gQ j on)=some b:=hb'
  rw[hj] at hb2;have e:gQ j on=b:=Option.some.inj hb2;rw[← e];unfold gQ;split
  ·split
   ·exact(h.job j hj hg).at _
   ·exact h.job j hj hg
  ·split
   ·exact(h.job j hj hg).at _
   ·exact h.job j hj hg
 ·next hb=>exact⟨h,fun _ _ _ _=>rfl⟩
theorem YG.tick{y:YV}{C m:Nat}(h:YG y C m)(n:Int):YG (y.tick n) C m∧mV y (y.tick n) C:=by
 have hok:=h.ok.tick n;unfold YV.tick at hok ⊢;split
 ·next hb =>
  rw[if_pos hb] at hok;refine⟨⟨hok,h.safe,fun b hb' _=>?_⟩,fun _ _ _ _=>rfl⟩
  obtain⟨j,hj,hg⟩:=mW hb;have hb2:(y.j.map fun j=>gG j n)=some b:=hb'
  rw[hj] at hb2;have e:gG j n=b:=Option.some.inj hb2;rw[← e];have hh:=h.job j hj hg;unfold gG;by_cases hx:S4.inB n 100000=true
  ·rw[if_pos hx];exact⟨hh.same,hh.str,hh.com,hh.str2⟩
  ·rw[if_neg hx];exact hh
 ·next hb=>exact⟨h,fun _ _ _ _=>rfl⟩
theorem Same.of{s z:SV}{C:Nat}{j:JV}(h:Same s C j)(hv:∀ c,c<C→∀ i,i<4→z.view c i (bV j)=s.view c i (bV j)∧z.view c i j.l=s.view c i j.l):Same z C j:=fun c hc hb i hi=>by
 rw[(hv c hc i hi).1,(hv c hc i hi).2];exact h c hc hb i hi
theorem YG.arm{y:YV}{C m:Nat}(h:YG y C m)(f n:Int)(hn:n≤9223372036854775807):YG (y.arm f n) C m∧mV y (y.arm f n) C:=by
 have hok:=h.ok.arm f n hn;unfold YV.arm at hok ⊢;split
 ·next hx =>
  rw[if_pos hx] at hok;split
  ·next e=>rw[if_pos e] at hok;exact⟨⟨hok,h.safe,h.job⟩,fun _ _ _ _=>rfl⟩
  ·next e =>
   rw[if_neg e] at hok
   cases hs:y.s f.toNat with
   | none=>rw[hs] at hok;exact⟨⟨hok,h.safe,h.job⟩,fun _ _ _ _=>rfl⟩
   | some v =>
    rw[hs] at hok;simp only at hok ⊢
    have hfile:y.s.file f=some v:=by
     unfold SV.file;rw[if_pos ⟨by omega,hx.2.1⟩];exact hs
    have hV:∀ c i,i<4→∀ l,y.s.good (C:Int) l→(y.s.upd f.toNat { v with d:=v.d.failing n }).view c i l=y.s.view c i l:=fun c i hi l hg=>by
     refine sD hi fun k hk=>?_
     obtain⟨w,hw,_⟩:=hg k hk;rw[SV.fM hfile];by_cases e:k=f
     ·subst e
      exact⟨v,{ v with d:=v.d.failing n },hfile,by rw[if_pos rfl],rfl,fun _=>rfl⟩
     ·exact⟨w,w,hw,by rw[if_neg e];exact hw,rfl,fun _=>rfl⟩
    obtain⟨U,hsf⟩:=h.safe.file hfile;refine⟨⟨hok,h.safe.upd _ ⟨U,hsf.fail n⟩,fun j hj hg=>?_⟩,fun c _ i hi=>hV c i hi _ h.ok.ch.good⟩
    have hh:=h.job j hj hg;have hin:=h.ok.job j hj hg;obtain⟨r,w,etl,_,_,_,hgt⟩:=(h.go hj hg).form;exact hh.as (hh.same.of fun c hc i hi=>⟨hV c i hi _ (by rw[etl];exact hgt),hV c i hi _ hin.ok.good⟩) rfl rfl rfl
 ·exact⟨h,fun _ _ _ _=>rfl⟩
theorem YG.apart{y:YV}{C m:Nat}(h:YG y C m){f:Int}(hu:y.used f≠true){j:JV}(hj:y.j=some j)(hg:j.stage<4):f ∉ bV j:=by
 obtain⟨hn,hb⟩:=rZ hu;have hin:=h.ok.job j hj hg;have hkf:y.kd.file=j.file:=by rw[← hin.dsk];rfl
 have hne:j.file≠f:=by rw[← hkf];exact hb (by unfold YV.busy;rw[hj];exact decide_eq_true hg)
 have hn':f ∉ j.l:=by rw[hin.lst];exact hn
 obtain⟨r,el⟩:=h.ok.ch.head;unfold bV;intro hm;split at hm
 ·rw[List.mem_singleton] at hm;exact hne hm.symm
 ·split at hm
  ·rcases List.mem_cons.1 hm with e|e
   ·refine hn' ?_
    rw[e,hin.lst,el];exact List.mem_cons_self
   ·exact hn' (List.mem_of_mem_drop e)
  ·exact hn' (List.mem_of_mem_drop hm)
theorem YG.blank{y : YV}{C m : Nat}(h : YG y C m)(f back : Int)(hm : m + 20 < 1000000000) : YG (y.blank f back) C (m + 15) ∧ mV y (y.blank f back) C := by
 have hok := h.ok.blank f back hm;refine ⟨⟨hok, ?_, fun j hj hg => ?_⟩, fun c _ i _ => by rw [(oV y f back).2.2.1]; exact yE y f back c i⟩
 ·unfold YV.blank
  split
  ·split
   ·exact h.safe
   ·split
    ·next hc =>
     obtain ⟨k1, k2⟩ := BP hc;exact h.safe.upd _ ⟨_, yO (h.ok.dev f.toNat) k1 k2 hm hc⟩
    ·exact h.safe.gone _
  ·exact h.safe
 ·rw [(oV y f back).1] at hj
  have hh := h.job j hj hg;have hin := h.ok.job j hj hg;refine hh.as (hh.same.of fun c hc i hi => ⟨?_, by rw [hin.lst]; exact yE y f back c i⟩) rfl rfl rfl
  unfold YV.blank;split
  ·next hx =>
   split
   ·rfl
   ·next hu =>
    have hap := h.apart hu hj hg;split
    ·exact sF fun n hm => by
      show (y.s.upd f.toNat _).file n = _
      rw [pq _ hx.1 hx.2, if_neg (fun (e : n = f) => hap (e ▸ hm))]
    ·exact sF fun n hm => by
      show (y.s.gone f.toNat).file n = _
      rw [wG _ hx.1 hx.2, if_neg (fun (e : n = f) => hap (e ▸ hm))]
  ·rfl
theorem YG.snap{y:YV}{C m:Nat}(h:YG y C m)(f:Int)(hm:m+20<1000000000):YG (y.snap f) C (m+16)∧mV y (y.snap f) C:=by
 have hok:=h.ok.snap f hm;unfold YV.snap at hok ⊢;split
 ·next hx=>rw[if_pos hx] at hok;exact⟨⟨hok,h.safe,h.job⟩,fun _ _ _ _=>rfl⟩
 ·next hx =>
  rw[if_neg hx] at hok;rw[not_or] at hx;have hbn:=nO hx.1;obtain⟨hb,hbs⟩:=h.blank f y.kd.root hm;obtain⟨b1,b2,b3,b4⟩:=oV y f y.kd.root;obtain⟨d1,_,d3,d4⟩:=fP (y.blank f y.kd.root) (ak f);split
  ·next hbf =>
   rw[if_pos hbf] at hok;obtain⟨h0,h5,hu,hc,eb⟩:=vP hbf;split
   ·next hdf =>
    rw[if_pos hdf] at hok;refine⟨⟨hok,by show aZ (YV.aj _ _).s;rw[d1];exact hb.safe,fun j hj hg=>?_⟩,fun c hc i hi=>?_⟩
    ·have hj':(YV.aj _ _).j=some j:=hj
     rw[d4,b1] at hj';exact absurd (hbn j hj') (by omega)
    ·show(YV.aj _ _).s.view c i (f::y.l)=_
     rw[d1]
     have hff:(y.blank f y.kd.root).s.file f=some (crV (y.dev f.toNat) (y.head f y.kd.root)):=by
      rw[eb];show(y.s.upd f.toNat _).file f=_
      rw[pq _ h0 h5,if_pos rfl]
     rw[Gx hff];exact yE y f y.kd.root c i
   ·next hdf =>
    rw[if_neg hdf] at hok;refine⟨⟨hok,by rw[d1];exact hb.safe,fun j hj hg=>?_⟩,fun c hc i hi=>by rw[d1,d3];exact hbs c hc i hi⟩
    rw[d4,b1] at hj;exact absurd (hbn j hj) (by omega)
  ·next hbf =>
   rw[if_neg hbf] at hok;exact⟨⟨hok,hb.safe,hb.job⟩,hbs⟩
theorem YG.wipe{y:YV}{C m:Nat}(h:YG y C m){fr N:Nat}(hf:y.s.bP y.l (fr:Int) (N:Int)=0)(hm:m+10*N≤1000000000) :
  Laid y.s (y.wipe (fr:Int) (N:Int)).s C y.l fr (fr+N) (fun _=>noughts) (y.jo (fr:Int) (N:Int)=0)∧YG (y.wipe (fr:Int) (N:Int)) C (m+10*(N))∧(y.wipe (fr:Int) (N:Int)).l=y.l:=by
 obtain⟨r,el,hT⟩:=h.top;have hok:=(h.ok.wipe (fr:Int) (N:Int) (by omega))
 have e1:y.wipe (fr:Int) (N:Int)=({ y with s:=(y.s.wipe y.l (fr:Int) (N:Int)).1 }:YV).mark fr (N):=by
  unfold YV.wipe;rw[if_pos hf];rfl
 have e2:y.jo (fr:Int) (N:Int)=(y.s.wipe y.l (fr:Int) (N:Int)).2:=by
  unfold YV.jo;rw[if_pos hf]
 have es:(y.wipe (fr:Int) (N:Int)).s=(y.s.wipe y.l (fr:Int) (N:Int)).1:=by rw[e1];rfl
 have hf':=hf;rw[el] at hf';refine⟨?_,⟨hok,by rw[es];exact h.safe.wipe h.ok.s _ _ _ (by omega),fun a ha hg=>?_⟩,by rw[e1];rfl⟩
 ·rw[es,e2,el]
  exact(TS hT hf' hm).1
 ·rw[es]
  have ha':(y.j.map fun j=>dh j fr (N))=some a:=by rw[e1] at ha;exact ha
  cases hj:y.j with
  | none=>rw[hj] at ha';cases ha'
  | some j =>
   rw[hj] at ha';have e:dh j fr (N)=a:=Option.some.inj ha';obtain⟨d1,d2,d3,d4⟩:=oD j fr (N);have hgj:j.stage<4:=by rw[← d3,e];exact hg
   have hgo:=h.go hj hgj;have hh:=h.job j hj hgj;have hin:=h.ok.job j hj hgj;have hS:=Root.same hgo hgj (n:=y.kd.root) (r:=r) (by rw[hin.lst,el]) (TU hT hf' hm) hh.same
   have hdeep:∀ k,(dh j fr k).deep=j.deep:=by
    intro k
    induction k with
    | zero=>rfl
    | succ k ih =>
     show(dD _ _).deep=_
     unfold dD;split<;>exact ih
   rw[← e];exact hh.as (by rw[el];exact hS) d1 d2 (hdeep _)
theorem Ej{c p:Int}(hk:(newH c p).ok=true)(hn:aJ (newH c p)≤200):YG (jF c p) c.toNat 20∧∀ k i,(jF c p).s.view k i (jF c p).l=noughts:=by
 have hok:=Oy hk hn;have hd:=pO (n:=aJ (newH c p)) (by unfold aJ aI;omega) hn
 have hlen:(fH (aJ (newH c p))).fl.length=aJ (newH c p):=List.length_replicate;obtain⟨d1,_,d3,d4⟩:=fP (jy c p) (ak 0);have e1:(jF c p).s=SV.upd (fun _=>none) 0 (crV (fH (aJ (newH c p))) (newH c p)):=d1
 have e3:(jF c p).l=[0]:=d3;refine⟨⟨hok,?_,fun j hj=>?_⟩,fun k i=>?_⟩
 ·rw[e1]
  exact aZ.upd (s:=fun _=>none) (fun i v e=>by cases e) 0 ⟨_,yO hd hk (by rw[hlen];exact Nat.le_refl _) (by omega) (zH hk (Nat.le_refl _))⟩
 ·have:(jF c p).j=none:=d4
  rw[this] at hj;cases hj
 ·rw[e1,e3]
  exact Gx (s:=SV.upd (fun _=>none) 0 (crV (fH (aJ (newH c p))) (newH c p))) (f:=0) (l:=[]) rfl k i
open Go.Maps
theorem IU{a b:ByteArray}{i:Nat}(h:(i+1)*16≤a.size):chunk (a++b) i=chunk a i:=by
 rw[mX,mX,ByteArray.data_append,Array.toList_append];have:a.data.toList.length=a.size:=by rw[Array.length_toList];rfl
 rw[List.drop_append_of_le_length (by omega),List.take_append_of_le_length (by rw[List.length_drop];omega)]
theorem IZ{a b:ByteArray}{i:Nat}(h:a.size=i*16):chunk (a++b) i=chunk b 0:=by
 rw[mX,mX,ByteArray.data_append,Array.toList_append];have:a.data.toList.length=i*16:=by rw[Array.length_toList];exact h
 rw[← this,List.drop_left,Nat.zero_mul,List.drop_zero]
theorem Mc{s:SV}{C m:Nat}{l:List Int}(hg:s.good (C:Int) l)(hok:s.ok m)(h0:l≠[]):∀ n,n≤4*C→∀ k,k<n→chunk (s.jR l 0 n) k=s.sec l k:=by
 intro n
 induction n with
 | zero=>intro _ k hk;omega
 | succ n ih =>
  intro hn k hk;have hs:(s.jR l 0 n).size=n*16:=SV.zk (fr:=0) hg hok h0 n (by omega)
  show chunk (s.jR l 0 n++dR (s.read l (((0+n) / 4:Nat):Int)).1 ((0+n) % 4) 1) k=_
  by_cases e:k=n
  ·subst e
   rw[IZ hs,Nat.zero_add];have hc:k / 4<C:=by omega
   have hr:=uH (c:=k / 4) (j:=k % 4) hg hok h0 hc (by omega)
   unfold SV.sec;rw[← hr];have hz:(s.read l ((k / 4:Nat):Int)).1.size=64:=(SV.kF hg hok h0 (c:=((k / 4:Nat):Int)) ⟨by omega,by omega⟩).2
   exact BH (a:=k % 4) (n:=1) (i:=0) (by omega) (by rw[hz];omega)
  ·rw[IU (by rw[hs];omega)]
   exact ih (by omega) k (by omega)
structure Saw(y:YV)(C m:Nat)(g:GV)(L:Nat):Prop where
 yg:YG y C m
 now:∀ k,k<4*C→y.s.sec y.l k∈g.now k
 len:∀ k,k<4*C→(g.now k).length≤L∧(g.cr k).length≤L
theorem YG.more{y:YV}{C m m':Nat}(h:YG y C m)(hm:m≤m'):YG y C m':=⟨h.ok.more hm,h.safe,h.job⟩
theorem Saw.more{y:YV}{C m m' L L':Nat}{g:GV}(h:Saw y C m g L)(hm:m≤m')(hL:L≤L'):Saw y C m' g L' :=
 ⟨h.yg.more hm,h.now,fun k hk=>⟨Nat.le_trans (h.len k hk).1 hL,Nat.le_trans (h.len k hk).2 hL⟩⟩
theorem Saw.sees{y z:YV}{C m m' L:Nat}{g:GV}(h:Saw y C m g L)(hz:YG z C m')(hs:mV y z C):Saw z C m' g L :=
 ⟨hz,fun k hk=>by
  have:z.s.sec z.l k=y.s.sec y.l k:=hs (k / 4) (by omega) (k % 4) (by omega)
  rw[this]
  exact h.now k hk,h.len⟩
theorem Saw.laid{y z:YV}{C m m' L fr N:Nat}{g:GV}{t:ByteArray}{well:Bool}{x:Nat→List UInt8}(h:Saw y C m g L)(hz:YG z C m')(hl:z.l=y.l)(hx:∀ k,fr≤k→k<fr+N→x k=chunk t (k-fr))(hd:Laid y.s z.s C y.l fr (fr+N) x (well=true)):Saw z C m' (dS g fr t well N N) (L+1):=by
 refine⟨hz,fun k hk=>?_,fun k hk=>?_⟩
 ·rw[hl]
  show _∈kX g fr t well N k
  unfold kX
  cases well with
  | true =>
   rw[hd.yes rfl k hk];by_cases e:fr≤k∧k<fr+N
   ·rw[if_pos e,if_pos e,if_pos rfl,hx k e.1 e.2]
    exact List.mem_singleton.2 rfl
   ·rw[if_neg e,if_neg e]
    exact h.now k hk
  | false =>
   by_cases e:fr≤k∧k<fr+N
   ·rw[if_pos e,if_neg (by decide)]
    rcases hd.any k hk with q|⟨_,q⟩
    ·rw[q]
     exact List.mem_append_left _ (h.now k hk)
    ·rw[q,hx k e.1 e.2]
     exact List.mem_append_right _ (List.mem_singleton.2 rfl)
   ·rw[if_neg e]
    rcases hd.any k hk with q|⟨q,_⟩
    ·rw[q]
     exact h.now k hk
    ·exact absurd q e
 ·have h2:=h.len k hk
  refine⟨?_,?_⟩
  ·show(kX g fr t well N k).length≤L+1
   unfold kX;split
   ·split
    ·exact Nat.succ_le_succ (Nat.zero_le _)
    ·rw[List.length_append];simp;omega
   ·omega
  ·show(jC g fr t N k).length≤L+1
   unfold jC;split
   ·rw[List.length_append];simp;omega
   ·omega
theorem Fh{y z:YV}{C m:Nat}(h:YG z C m∧∀ c,c<C→∀ i,i<4→z.s.view c i z.l=y.s.view c i y.l):YG z C m∧mV y z C:=h
theorem Saw.act{y y':YV}{C m L:Nat}{g g':GV}{x:aN}(h:Saw y C m g L)(hr:gu (4*C) y g x y' g')(hx:sQ x)(hC:C≤32)(hm:m+8000<1000000000):Saw y' C (m+2000) g' (L+1):=by
 have one:∀ {z:YV} {m':Nat},YG z C m'∧mV y z C→m'≤m+2000→Saw z C (m+2000) g (L+1):=fun {z m'} hz hm'=>(h.sees hz.1 hz.2).more hm' (Nat.le_succ _)
 obtain⟨⟨a1,a2⟩,hs,b1,b2⟩:=hx
 cases hr with
 | write hk =>
  by_cases hf:x.s.size % 16=0∧y.s.bP y.l x.a ((x.s.size / 16:Nat):Int)=0
  ·obtain⟨_,f0,_,_⟩:=SV.jr h.yg.ok.ch.good hf.2
   have h1:y.dB x.a x.s≠1:=by
    unfold YV.dB;rw[if_pos hf];exact zY h.yg.ok.ch.good h.yg.ok.s hf.1 hf.2 (by omega)
   rw[if_neg h1];obtain⟨fr,e⟩:∃ fr:Nat,x.a=(fr:Int):=⟨x.a.toNat,by omega⟩
   rw[e] at hf ⊢;obtain⟨q1,q2,q3⟩:=h.yg.write hf.1 hf.2 (by omega)
   have hfr:((fr:Int)).toNat=fr:=Int.toNat_natCast fr;rw[hfr];refine(h.laid (well:=decide (y.dB (fr:Int) x.s=0)) q2 q3 (fun k _ _=>rfl) ?_).more (by omega) (Nat.le_refl _)
   exact⟨fun w=>q1.yes (of_decide_eq_true w),q1.any⟩
  ·have e1:y.dB x.a x.s=1:=by unfold YV.dB;rw[if_neg hf]
   have e2:y.write x.a x.s=y:=by unfold YV.write;rw[if_neg hf]
   rw[if_pos e1,e2];exact h.more (by omega) (Nat.le_succ _)
 | wipe hk =>
  by_cases hf:y.s.bP y.l x.a x.b=0
  ·obtain⟨_,f0,n0,n1⟩:=SV.jr h.yg.ok.ch.good hf
   have h1:y.jo x.a x.b≠1:=by
    unfold YV.jo;rw[if_pos hf];exact AQ h.yg.ok.ch.good h.yg.ok.s hf (by omega)
   rw[if_neg h1];obtain⟨fr,e⟩:∃ fr:Nat,x.a=(fr:Int):=⟨x.a.toNat,by omega⟩
   obtain⟨N,e'⟩:∃ N:Nat,x.b=(N:Int):=⟨x.b.toNat,by omega⟩
   rw[e,e'] at hf n1 ⊢;obtain⟨q1,q2,q3⟩:=h.yg.wipe hf (by omega)
   have hfr:((fr:Int)).toNat=fr:=Int.toNat_natCast fr;have hN:((N:Int)).toNat=N:=Int.toNat_natCast N;rw[hfr,hN];refine(h.laid (well:=decide (y.jo (fr:Int) (N:Int)=0)) q2 q3 (fun k k1 k2=>(vU (n:=N) (i:=k-fr) (by omega)).symm) ?_).more (by omega) (Nat.le_refl _)
   exact⟨fun w=>q1.yes (of_decide_eq_true w),q1.any⟩
  ·have e1:y.jo x.a x.b=1:=by unfold YV.jo;rw[if_neg hf]
   have e2:y.wipe x.a x.b=y:=by unfold YV.wipe;rw[if_neg hf]
   rw[if_pos e1,e2];exact h.more (by omega) (Nat.le_succ _)
 | flush hk =>
  have h1:=one h.yg.flush (by omega)
  refine⟨h1.yg,h1.now,fun k hk=>⟨(h1.len k hk).1,?_⟩⟩
  show(if k<4*C then g.now k else g.cr k).length≤L+1
  rw[if_pos hk];exact(h1.len k hk).1
 | blank hk=>exact one (h.yg.blank x.a (-1) (by omega)) (by omega)
 | snap hk=>exact one (h.yg.snap x.a (by omega)) (by omega)
 | start hk=>exact one (h.yg.start (d:=kW y x.a x.b x.c x.d) rfl (by omega)) (by omega)
 | pivot hk=>exact one (Fh (h.yg.pivot (by omega))) (by omega)
 | cancel hk=>exact one (h.yg.cancel (by omega)) (by omega)
 | pause hk=>exact one (h.yg.pause _) (by omega)
 | tick hk=>exact one (h.yg.tick _) (by omega)
 | fail hk=>exact one (h.yg.arm x.a x.b (by omega)) (by omega)
 | step=>exact one (Fh (h.yg.step (by omega))) (by omega)
theorem Saw.made{c p:Int}(hk:(newH c p).ok=true)(hn:aJ (newH c p)≤200):Saw (jF c p) c.toNat 20 ⟨fun _=>[noughts],fun _=>[noughts]⟩ 1:=by
 obtain⟨h1,h2⟩:=Ej hk hn;exact⟨h1,fun k _=>List.mem_singleton.2 (h2 _ _),fun k _=>⟨Nat.le_refl _,Nat.le_refl _⟩⟩
attribute [local go_sem ↓] Go.wp_at_zero Go.wp_at_succ
structure iJ(w:World)(yp k:Nat)(hs:Nat→Hd)(D:DV)(tv:Value):Prop where
 blk:∃ cur,w.heap[yp]?=some (.cells cur 168 (0,0))∧cur.size=13∧(∀ i,i<k→cur[i]?=some (.pointer (some ⟨(hs i).p,0,none⟩)))∧cur[5]?=some tv∧(∀ i,i<5→cur[6+i]?=some (.pointer none))∧cur[11]?=some (.int .i64 0)∧cur[12]?=some (.pointer none)
 dev:∀ i,i<k→bg Gd.no w (hs i) D
 past:∀ i,i<k→∀ b,(hs i).fp b→yp<b
 apart:∀ i j,i<k→j<k→i≠j→∀ b,(hs i).fp b→¬(hs j).fp b
def setH(hs:Nat→Hd)(k:Nat)(h:Hd):Nat→Hd:=fun i=>if i=k then h else hs i
theorem iJ.lt{w:World}{yp k:Nat}{hs:Nat→Hd}{D:DV}{tv:Value}(h:iJ w yp k hs D tv):yp<w.heap.size:=by
 obtain⟨c,h1,_⟩:=h.blk;exact lt_of_some h1
theorem iJ.below{w w':World}{yp k:Nat}{hs:Nat→Hd}{D:DV}{tv:Value}(h:iJ w yp k hs D tv)(hb:Below w.heap.size w w'):iJ w' yp k hs D tv :=
 ⟨by rw[hb.block _ h.lt];exact h.blk,fun i hi=>(h.dev i hi).keep fun b hf=>hb.block b ((h.dev i hi).lt b hf).2,h.past,h.apart⟩
theorem iJ.cell{w:World}{yp k:Nat}{hs:Nat→Hd}{D:DV}{tv:Value}(h:iJ w yp k hs D tv)(i:Nat)(hi:i<13):(∃ v,w.cell? ⟨yp,i,none⟩=some v)∧w.frozen? ⟨yp,i,none⟩=false:=by
 obtain⟨c,h1,h2,_⟩:=h.blk;refine⟨⟨c[i]'(by omega),?_⟩,frozen_of_row w yp i _ _ h1⟩
 rw[cell_of_row w yp i _ _ _ h1];exact Array.getElem?_eq_getElem (by omega)
theorem iJ.Ci{w:World}{yp k:Nat}{hs:Nat→Hd}{D:DV}{tv:Value}(h:iJ w yp k hs D tv){i:Nat}(hi:i<k):w.cell? ⟨yp,i,none⟩=some (.pointer (some ⟨(hs i).p,0,none⟩)):=by
 obtain⟨c,h1,h2,h3,_⟩:=h.blk;rw[cell_of_row w yp i _ _ _ h1];exact h3 i hi
theorem iJ.root{w:World}{yp k:Nat}{hs:Nat→Hd}{D:DV}{tv:Value}(h:iJ w yp k hs D tv):w.cell? ⟨yp,11,none⟩=some (.int .i64 0):=by
 obtain⟨c,h1,h2,h3,h4,h5,h6,h7⟩:=h.blk;rw[cell_of_row w yp 11 _ _ _ h1];exact h6
theorem iJ.step{w w1:World}{yp k:Nat}{hs:Nat→Hd}{D:DV}{tv:Value}(h:iJ w yp k hs D tv)(hk:k<5){d:Hd}(hb:Below w.heap.size w w1){N:Nat}(hN:w.heap.size≤N)(hd:aH N w1 d D) :
  iJ (w1.setCell ⟨yp,k,none⟩ (.pointer (some ⟨d.p,0,none⟩))) yp (k+1) (setH hs k d) D tv:=by
 have h1:=h.below hb;obtain⟨c,b1,b2,b3,b4,b5,b6,b7⟩:=h1.blk;have hlt:=h.lt;have hset:∀ b,b≠yp→(w1.setCell ⟨yp,k,none⟩ (.pointer (some ⟨d.p,0,none⟩))).heap[b]?=w1.heap[b]?:=fun b hb=>heap_setCell_other _ _ _ _ hb
 refine⟨⟨_,heap_setCell_same w1 yp k _ _ _ b1,by simpa using b2,fun i hi=>?_,?_,fun i hi=>?_,?_,?_⟩,fun i hi=>?_,fun i hi b hf=>?_,fun i j hi hj hij b hf hf2=>?_⟩
 ·unfold setH
  by_cases e:i=k
  ·rw[e,if_pos rfl,Array.getElem?_setIfInBounds_self_of_lt (by omega)]
  ·rw[if_neg e,Array.getElem?_setIfInBounds_ne (fun e2=>e e2.symm)];exact b3 i (by omega)
 ·rw[Array.getElem?_setIfInBounds_ne (by omega)];exact b4
 ·rw[Array.getElem?_setIfInBounds_ne (by omega)];exact b5 i hi
 ·rw[Array.getElem?_setIfInBounds_ne (by omega)];exact b6
 ·rw[Array.getElem?_setIfInBounds_ne (by omega)];exact b7
 ·unfold setH
  by_cases e:i=k
  ·rw[if_pos e]
   exact⟨hd.base0.keep fun b hf=>hset b (by have:=(hd.lt b hf).1;omega),fun _ _ e=>e⟩
  ·rw[if_neg e]
   exact(h1.dev i (by omega)).keep fun b hf=>hset b (by have:=h1.past i (by omega) b hf;omega)
 ·unfold setH at hf
  by_cases e:i=k
  ·rw[if_pos e] at hf;have:=(hd.lt b hf).1;omega
  ·rw[if_neg e] at hf;exact h.past i (by omega) b hf
 ·unfold setH at hf hf2
  by_cases e:i=k
  ·have e2:j≠k:=fun e2=>hij (by rw[e,e2])
   rw[if_pos e] at hf;rw[if_neg e2] at hf2;have q1:=(hd.lt b hf).1;have q2:=((h.dev j (by omega)).lt b hf2).2
   omega
  ·rw[if_neg e] at hf
   by_cases e2:j=k
   ·rw[if_pos e2] at hf2
    have q1:=(hd.lt b hf2).1;have q2:=((h.dev i (by omega)).lt b hf).2
    omega
   ·rw[if_neg e2] at hf2;exact h.apart i j (by omega) (by omega) hij b hf hf2
theorem iJ.vg{w w1:World}{yp:Nat}{hs:Nat→Hd}{D:DV}{tv:Value}(h:iJ w yp 5 hs D tv){d:Hd}(hb:Below w.heap.size w w1) :
  iJ (w1.setCell ⟨yp,5,none⟩ (.pointer (some ⟨d.p,0,none⟩))) yp 5 hs D (.pointer (some ⟨d.p,0,none⟩)):=by
 have h1:=h.below hb;obtain⟨c,b1,b2,b3,b4,b5,b6,b7⟩:=h1.blk;have hset:∀ b,b≠yp→(w1.setCell ⟨yp,5,none⟩ (.pointer (some ⟨d.p,0,none⟩))).heap[b]?=w1.heap[b]?:=fun b hb=>heap_setCell_other _ _ _ _ hb
 refine⟨⟨_,heap_setCell_same w1 yp 5 _ _ _ b1,by simpa using b2,fun i hi=>?_,?_,fun i hi=>?_,?_,?_⟩,fun i hi=>?_,h1.past,h1.apart⟩
 ·rw[Array.getElem?_setIfInBounds_ne (by omega)];exact b3 i hi
 ·rw[Array.getElem?_setIfInBounds_self_of_lt (by omega)]
 ·rw[Array.getElem?_setIfInBounds_ne (by omega)];exact b5 i hi
 ·rw[Array.getElem?_setIfInBounds_ne (by omega)];exact b6
 ·rw[Array.getElem?_setIfInBounds_ne (by omega)];exact b7
 ·exact(h1.dev i hi).keep fun b hf=>hset b (by have:=h1.past i hi b hf;omega)
def uw:Jh:=⟨0,0,0,none,0⟩
theorem iJ.bW{w w1:World}{yp:Nat}{hs:Nat→Hd}{c p:Int}{t:Hd}{x:Ih}(h:iJ w yp 5 hs (fH (aJ (newH c p))) (.pointer (some ⟨t.p,0,none⟩)))(ht:bg Gd.no w t (fH 1))(htp:∀ b,t.fp b→yp<b)(hta:∀ i,i<5→∀ b,t.fp b→¬(hs i).fp b)
  (hm:Moved (hs 0).fp w x.fp w1) (hx:aC Gd.no w1 x (crV (fH (aJ (newH c p))) (newH c p))) (hp:x.h.p=(hs 0).p) :
  ay (w1.setCell ⟨yp,6,none⟩ (.pointer (some ⟨x.p,0,none⟩))) yp ⟨hs,t,fun _=>x,uw⟩ (jy c p)∧∀ b,fpY yp ⟨hs,t,fun _=>x,uw⟩ (jy c p) b→b=yp∨(∃ i,i<5∧(hs i).fp b)∨t.fp b∨w.heap.size≤b:=by
 obtain⟨cu,b1,b2,b3,b4,b5,b6,b7⟩:=h.blk;have hyp:¬(hs 0).fp yp:=fun e=>by have:=h.past 0 (by omega) yp e;omega
 have hblk:w1.heap[yp]?=w.heap[yp]?:=hm.block h.lt hyp;have hset:∀ b,b≠yp→(w1.setCell ⟨yp,6,none⟩ (.pointer (some ⟨x.p,0,none⟩))).heap[b]?=w1.heap[b]?:=fun b hb=>heap_setCell_other _ _ _ _ hb
 have hs0:(jy c p).s 0=some (crV (fH (aJ (newH c p))) (newH c p)):=rfl
 have hsn:∀ i,i≠0→(jy c p).s i=none:=fun i hi=>by
  have e:(jy c p).s i=if i=0 then some (crV (fH (aJ (newH c p))) (newH c p)) else none:=rfl
  rw[e,if_neg hi]
 have hfx:∀ b,x.fp b→(hs 0).fp b∨w.heap.size≤b:=fun b e=>hm.new b e
 have hxy:∀ b,x.fp b→b≠yp:=fun b e e2=>by
  rcases hfx b e with e3|e3
  ·exact hyp (by rw[← e2];exact e3)
  ·have:=h.lt;omega
 have hkeep:∀ i,i<5→i≠0→∀ b,(hs i).fp b→(w1.setCell ⟨yp,6,none⟩ (.pointer (some ⟨x.p,0,none⟩))).heap[b]?=w.heap[b]?:=fun i hi h0 b hf=>by
  rw[hset b (by have:=h.past i hi b hf;omega)]
  exact hm.block ((h.dev i hi).lt b hf).2 (fun e=>h.apart i 0 hi (by omega) h0 b hf e)
 refine⟨⟨⟨_,heap_setCell_same w1 yp 6 _ _ _ (hblk.trans b1),fun i hi=>?_,?_,fun i hi=>?_,?_,?_⟩,fun i v hi hv=>?_,fun i hi hv=>?_,?_,fun i j hi hj hij b hf hf2=>?_,fun i hi b hf hf2=>?_,fun j hj=>(by cases hj)⟩,fun b hf=>?_⟩
 ·rw[Array.getElem?_setIfInBounds_ne (by omega),b3 i hi]
  by_cases e:i=0
  ·subst e;rw[Yh.o8 hs0];show some (Value.pointer (some ⟨(hs 0).p,0,none⟩))=some (Value.pointer (some ⟨x.h.p,0,none⟩));rw[hp]
  ·rw[Yh.dp_none (hsn i e)]
 ·rw[Array.getElem?_setIfInBounds_ne (by omega)];exact b4
 ·by_cases e:i=0
  ·subst e;rw[Array.getElem?_setIfInBounds_self_of_lt (by omega),hs0];rfl
  ·rw[Array.getElem?_setIfInBounds_ne (by omega),b5 i hi,hsn i e];rfl
 ·rw[Array.getElem?_setIfInBounds_ne (by omega)];exact b6
 ·rw[Array.getElem?_setIfInBounds_ne (by omega)];exact b7
 ·by_cases e:i=0
  ·subst e
   rw[hs0] at hv;cases hv
   exact hx.lT fun b hf=>hset b (hxy b hf)
  ·rw[hsn i e] at hv;cases hv
 ·by_cases e:i=0
  ·subst e;rw[hs0] at hv;cases hv
  ·exact(h.dev i hi).keep fun b hf=>hkeep i hi e b hf
 ·exact ht.keep fun b hf=>by
   rw[hset b (by have:=htp b hf;omega)]
   exact hm.block (ht.lt b hf).2 (hta 0 (by omega) b hf)
 ·have key:∀ i,i<5→i≠0→(hs i).fp b→¬x.fp b:=fun i hi h0 e e2=>by
   rcases hfx b e2 with e3|e3
   ·exact h.apart i 0 hi (by omega) h0 b e e3
   ·have:=((h.dev i hi).lt b e).2;omega
  by_cases ei:i=0
  ·have ej:j≠0:=fun e=>hij (by rw[ei,e])
   subst ei;rw[Yh.gY hs0] at hf;rw[Yh.gX (hsn j ej)] at hf2;exact key j hj ej hf2 hf
  ·rw[Yh.gX (hsn i ei)] at hf
   by_cases ej:j=0
   ·subst ej;rw[Yh.gY hs0] at hf2;exact key i hi ei hf hf2
   ·rw[Yh.gX (hsn j ej)] at hf2;exact h.apart i j hi hj hij b hf hf2
 ·by_cases ei:i=0
  ·subst ei
   rw[Yh.gY hs0] at hf2;rcases hfx b hf2 with e3|e3
   ·exact hta 0 (by omega) b hf e3
   ·have:=(ht.lt b hf).2;omega
  ·rw[Yh.gX (hsn i ei)] at hf2;exact hta i hi b hf hf2
 ·rcases hf with e|⟨i,hi,e⟩|e|e
  ·exact .inl e
  ·by_cases ei:i=0
   ·subst ei
    rw[Yh.gY hs0] at e;rcases hfx b e with e3|e3
    ·exact .inr (.inl ⟨0,by omega,e3⟩)
    ·exact .inr (.inr (.inr e3))
   ·rw[Yh.gX (hsn i ei)] at e;exact .inr (.inl ⟨i,hi,e⟩)
  ·exact .inr (.inr (.inl e))
  ·exact absurd rfl e.1
end Go.Proofs.YtonhoahnieoebabGreatDoor
