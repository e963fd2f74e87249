/- A yard and what may be found behind a crash (W3), call by call. -/
import Derived.Test.YtonhoahnieoebabGreatDoorQTellYard
namespace Go.Proofs.YtonhoahnieoebabGreatDoor
open Go.RowKit
structure YT(y:YV)(C m:Nat)(cr:Nat→List (List UInt8)):Prop where
 yg:YG y C m
 tells:aW y.s C y.l cr
 want:∀ j,y.j=some j→j.stage<4→iP y.s C j
 aj:jG y.top y.kd.root
theorem YT.as{y z:YV}{C m m':Nat}{cr:Nat→List (List UInt8)}(h:YT y C m cr)(hz:YG z C m')(hs:z.s=y.s)(hl:z.l=y.l)(hw:∀ j,z.j=some j→j.stage<4→iP z.s C j)(hd:jG z.top z.kd.root):YT z C m' cr :=
 ⟨hz,by rw[hs,hl];exact h.tells,hw,hd⟩
theorem LW(s:SV)(n k:Int)(c:Int):iE ((s.cZ n).file k) c=iE (s.file k) c:=by
 unfold SV.cZ
 split
 ·rfl
 ·next v hf =>
  rw[SV.fJ hf]
  by_cases e:k=n
  ·rw[if_pos e,e,hf];rfl
  ·rw[if_neg e]
theorem Tz(k:Int)(c:Int):∀(l:List Int) (s:SV),iE ((s.bV l).file k) c=iE (s.file k) c:=by
 intro l
 induction l with
 | nil=>intro s;rfl
 | cons n r ih=>intro s;exact(ih (s.cZ n)).trans (LW s n k c)
theorem YT.write{y:YV}{C m:Nat}{cr cr':Nat→List (List UInt8)}(h:YT y C m cr){fr:Nat}{t:ByteArray}(ht:t.size % 16=0)(hf:y.s.bT y.l (fr:Int) ((t.size / 16:Nat):Int)=0)(hm:m+10*(t.size / 16)<1000000000)
  (hc:∀ k x,x∈cr k→x∈cr' k) (hx:∀ k,fr≤k→k<fr+t.size / 16→chunk t (k-fr)∈cr' k):YT (y.write (fr:Int) t) C (m+10*(t.size / 16)) cr':=by
 obtain⟨r,el,hT⟩:=h.yg.top
 obtain⟨_,q2,q3⟩:=h.yg.write ht hf (by omega)
 have e1:y.write (fr:Int) t=({ y with s:=(y.s.put y.l (fr:Int) t).1 }:YV).mark fr (t.size / 16):=by
  unfold YV.write
  rw[if_pos ⟨ht,hf⟩]
  rfl
 have es:(y.write (fr:Int) t).s=(y.s.put y.l (fr:Int) t).1:=by rw[e1];rfl
 have ej:(y.write (fr:Int) t).j=y.j.map fun j=>dF j fr (t.size / 16):=by rw[e1];rfl
 have ed:(y.write (fr:Int) t).top=y.top∧(y.write (fr:Int) t).kd=y.kd:=by rw[e1];exact⟨rfl,rfl⟩
 have hf':=hf
 rw[el] at hf'
 refine⟨q2,?_,fun a ha hg=>?_,by rw[ed.1,ed.2];exact h.aj⟩
 ·rw[q3,es,el]
  have h1:=h.tells
  rw[el] at h1
  exact h1.put hT ht hf' hm hc hx
 ·rw[ej] at ha
  cases hj:y.j with
  | none=>rw[hj] at ha;cases ha
  | some j =>
   rw[hj] at ha
   have e:dF j fr (t.size / 16)=a:=Option.some.inj ha
   obtain⟨d1,d2,d3,_⟩:=qJ j fr (t.size / 16)
   have hgj:j.stage<4:=by rw[← d3,e];exact hg
   have hin:=h.yg.ok.job j hj hgj
   by_cases h2:j.kind=2
   ·rw[DI h2] at e
    rw[← e,es,el]
    exact(h.want j hj hgj).up (h.yg.go hj hgj) (by rw[hin.lst,el]) (.put _ _ _ _ _)
   ·refine .sS fun e2=>h2 ?_
    have:=congrArg aT.kind d2
    rw[← e] at e2
    exact this.symm.trans e2
theorem YT.wipe{y:YV}{C m:Nat}{cr cr':Nat→List (List UInt8)}(h:YT y C m cr){fr N:Nat}(hf:y.s.bT y.l (fr:Int) (N:Int)=0)(hm:m+10*N<1000000000)
  (hc:∀ k x,x∈cr k→x∈cr' k) (hx:∀ k,fr≤k→k<fr+N→noughts∈cr' k):YT (y.wipe (fr:Int) (N:Int)) C (m+10*N) cr':=by
 obtain⟨r,el,hT⟩:=h.yg.top
 obtain⟨_,q2,q3⟩:=h.yg.wipe hf (by omega)
 have hN:((N:Int)).toNat=N:=by omega
 have e1:y.wipe (fr:Int) (N:Int)=({ y with s:=(y.s.wipe y.l (fr:Int) (N:Int)).1 }:YV).mark fr N:=by
  unfold YV.wipe
  rw[if_pos hf]
  rfl
 have es:(y.wipe (fr:Int) (N:Int)).s=(y.s.wipe y.l (fr:Int) (N:Int)).1:=by rw[e1];rfl
 have ej:(y.wipe (fr:Int) (N:Int)).j=y.j.map fun j=>dF j fr N:=by rw[e1];rfl
 have ed:(y.wipe (fr:Int) (N:Int)).top=y.top∧(y.wipe (fr:Int) (N:Int)).kd=y.kd:=by rw[e1];exact⟨rfl,rfl⟩
 have hf':=hf
 rw[el] at hf'
 refine⟨q2,?_,fun a ha hg=>?_,by rw[ed.1,ed.2];exact h.aj⟩
 ·rw[q3,es,el]
  have h1:=h.tells
  rw[el] at h1
  exact h1.wipe hT hf' hm hc hx
 ·rw[ej] at ha
  cases hj:y.j with
  | none=>rw[hj] at ha;cases ha
  | some j =>
   rw[hj] at ha
   have e:dF j fr N=a:=Option.some.inj ha
   obtain⟨d1,d2,d3,_⟩:=qJ j fr N
   have hgj:j.stage<4:=by rw[← d3,e];exact hg
   have hin:=h.yg.ok.job j hj hgj
   by_cases h2:j.kind=2
   ·rw[DI h2] at e
    rw[← e,es,el]
    exact(h.want j hj hgj).up (h.yg.go hj hgj) (by rw[hin.lst,el]) (.wipe _ _ _ _ _)
   ·refine .sS fun e2=>h2 ?_
    have:=congrArg aT.kind d2
    rw[← e] at e2
    exact this.symm.trans e2
theorem YT.flush{y:YV}{C m:Nat}{cr cr':Nat→List (List UInt8)}(h:YT y C m cr)(hs:∀ k,k<4*C→y.s.sec y.l k∈cr' k):YT y.flush C m cr' :=
 ⟨h.yg.flush.1,aW.flushed h.yg.ok.ch.good h.yg.ok.s h.yg.safe hs,fun j hj hg=>(h.want j hj hg).yG fun n _ c _=>Tz n c y.l y.s,h.aj⟩
theorem FT(y:YV)(f back:Int):∀ n∈y.l,(y.blank f back).s.file n=y.s.file n:=fun n hm=>by
 unfold YV.blank
 split
 ·next hx =>
  split
  ·rfl
  ·next hu =>
   obtain⟨hn,_⟩:=rM hu
   split
   ·show(y.s.upd f.toNat _).file n=_
    rw[pK _ hx.1 hx.2,if_neg (fun (e:n=f)=>hn (e▸hm))]
   ·show(y.s.gone f.toNat).file n=_
    rw[xC _ hx.1 hx.2,if_neg (fun (e:n=f)=>hn (e▸hm))]
 ·rfl
theorem YT.blank{y:YV}{C m:Nat}{cr:Nat→List (List UInt8)}(h:YT y C m cr)(f back:Int)(hm:m+20<1000000000):YT (y.blank f back) C (m+15) cr:=by
 obtain⟨b1,b2,b3,b4⟩:=sN y f back
 refine⟨(h.yg.blank f back hm).1,by rw[b3];exact h.tells.other (FT y f back),fun j hj hg=>?_,by rw[b4,b2];exact h.aj⟩
 rw[b1] at hj
 have hin:=h.yg.ok.job j hj hg
 exact(h.want j hj hg).yG fun n hn c _=>by rw[FT y f back n (by rw[← hin.lst];exact hn)]
theorem YT.snap{y:YV}{C m:Nat}{cr:Nat→List (List UInt8)}(h:YT y C m cr)(f:Int)(hm:m+20<1000000000):YT (y.snap f) C (m+16) cr:=by
  obtain⟨hg,_⟩:=h.yg.snap f hm
  have hb:=h.blank f y.kd.root hm
  unfold YV.snap at hg ⊢
  split
  · next hx=>rw[if_pos hx] at hg;exact⟨hg,h.tells,h.want,h.aj⟩
  · next hx =>
    rw[if_neg hx] at hg
    rw[not_or] at hx
    have hbn:=nN hx.1
    obtain⟨b1,b2,b3,b4⟩:=sN y f y.kd.root
    obtain⟨d1,_,d3,d4⟩:=iH (y.blank f y.kd.root) (ak f)
    split
    · next hbf =>
      rw[if_pos hbf] at hg
      obtain⟨h0,h5,hu,hc,eb⟩:=xq hbf
      have hdk:=hb.aj.aj hb.yg.ok.top (jJ h0 (by omega))
      split
      · next hdf =>
        rw[if_pos hdf] at hg
        have hgo:=hg.ok.ch.good
        have hso:=hg.ok.s
        refine⟨hg,?_,fun j hj hgj=>?_,hdk⟩
        · show aW (YV.aj _ _).s C (f::y.l) cr
          rw[d1]
          obtain⟨M,m1,m2⟩:=hb.tells.ex
          rw[b3] at m1 m2
          have hff:(y.blank f y.kd.root).s.file f=some (crV (y.dev f.toNat) (y.head f y.kd.root)):=by
            rw[eb]
            show(y.s.upd f.toNat _).file f=_
            rw[pK _ h0 h5,if_pos rfl]
          obtain⟨hn,_⟩:=rM hu
          have hcr:Told (crV (y.dev f.toNat) (y.head f y.kd.root)) (fun _=>[[45]]):=by
            have hh:=hc
            unfold crF at hh
            by_cases k1:(y.head f y.kd.root).ok=true
            · rw[if_pos k1] at hh
              by_cases k2:(y.dev f.toNat).fl.length<aJ (y.head f y.kd.root)
              · rw[if_pos k2] at hh;cases hh
              · exact BO (h.yg.ok.dev _) k1 (by omega) hm hc
            · rw[if_neg k1] at hh;cases hh
          refine⟨fun i=>if i=f then fun _=>[[45]] else M i,fun i hi v hv=>?_,fun k hk=>⟨fun x hx h45=>?_,fun _=>?_⟩⟩
          · by_cases e:i=f
            · simp only[if_pos e]
              rw[e,hff] at hv
              cases hv
              exact hcr
            · simp only[if_neg e]
              rcases List.mem_cons.1 hi with e2|e2
              · exact absurd e2 e
              · exact m1 i e2 v hv
          · simp only[if_true] at hx
            exact absurd (List.mem_singleton.1 hx) h45
          · refine(m2 k hk).re (fun _ e=>e) fun i hi x hx1=>.inl ?_
            have hne:i≠f:=fun e=>hn (e▸hi)
            simp only[if_neg hne] at hx1
            exact hx1
        · have hj':(YV.aj _ _).j=some j:=hj
          rw[d4,b1] at hj'
          exact absurd (hbn j hj') (by omega)
      · next hdf =>
        rw[if_neg hdf] at hg
        refine⟨hg,by rw[d1,d3];exact hb.tells,fun j hj hgj=>?_,hdk⟩
        rw[d4,b1] at hj
        exact absurd (hbn j hj) (by omega)
    · next hbf =>
      rw[if_neg hbf] at hg
      exact⟨hg,hb.tells,hb.want,hb.aj⟩
theorem YT.start{y:YV}{C m:Nat}{cr:Nat→List (List UInt8)}(h:YT y C m cr){d:aT}(hr:d.root=y.kd.root)(hm:m<1000000000):YT (y.start d) C (m+1) cr:=by
 obtain⟨hg,_⟩:=h.yg.start hr hm
 unfold YV.start at hg ⊢
 split
 ·next h0 =>
  rw[if_pos h0] at hg
  obtain⟨hn,hfl⟩:newF y.s d=0∧d.kv.fault=0:=by
   unfold YV.mM at h0
   split at h0
   ·cases h0
   ·split at h0
    ·cases h0
    ·split at h0
     ·next hf=>exact⟨h0,hf⟩
     ·next hf=>exact absurd h0 hf
  obtain⟨d1,_,d3,d4⟩:=iH y d
  have hdk:=h.aj.aj h.yg.ok.top hfl
  split
  ·next hd =>
   rw[if_pos hd] at hg
   refine h.as hg d1 d3 (fun b hb _=>?_) hdk
   have hb':some ((iI y.s d).at 1)=some b:=hb
   cases hb'
   show iP (y.aj d).s C _
   rw[d1]
   have hk:=vJ h.yg.ok.s hn
   obtain⟨C',k1,k2,_⟩:=hk.jok
   have hC:C'=C:=by
    have hl:(y.s.walk d.root).1=y.l:=by rw[hr,h.yg.ok.ch.walk]
    rw[hl,h.yg.ok.ch.good.fU h.yg.ok.ch.ne] at k2
    omega
   subst hC
   exact(iP.new k1).as rfl rfl rfl rfl
  ·next hd =>
   rw[if_neg hd] at hg
   exact h.as hg d1 d3 (fun j hj hgj=>by rw[d1];exact h.want j (by rw[← d4];exact hj) hgj) hdk
 ·next h0 =>
  rw[if_neg h0] at hg
  exact⟨hg,h.tells,h.want,h.aj⟩
theorem YT.cancel{y:YV}{C m:Nat}{cr:Nat→List (List UInt8)}(h:YT y C m cr)(hm:m<1000000000):YT y.cancel C (m+1) cr:=by
 obtain⟨hg,_⟩:=h.yg.cancel hm
 obtain⟨r0,r4⟩:=h.yg.ok.root
 unfold YV.cancel at hg ⊢
 split
 ·next hb =>
  rw[if_pos hb] at hg
  unfold YV.over at hg ⊢
  obtain⟨d1,_,d3,d4⟩:=iH y (ak y.kd.root)
  have hdk:=h.aj.aj h.yg.ok.top (jJ r0 r4)
  split
  ·next hd =>
   rw[if_pos hd] at hg
   refine h.as hg d1 (by show(y.s.walk y.kd.root).1=_;rw[h.yg.ok.ch.walk]) (fun b hb' hgj=>?_) hdk
   have hb2:(y.j.map fun j=>j.at 5)=some b:=hb'
   cases hj:y.j with
   | none=>rw[hj] at hb2;cases hb2
   | some j =>
    rw[hj] at hb2
    have e:j.at 5=b:=Option.some.inj hb2
    rw[← e] at hgj
    exact absurd hgj (by show ¬(5:Int)<4;decide)
  ·next hd =>
   rw[if_neg hd] at hg
   exact h.as hg d1 d3 (fun j hj hgj=>by rw[d1];exact h.want j (by rw[← d4];exact hj) hgj) hdk
 ·next hb =>
  rw[if_neg hb] at hg
  exact⟨hg,h.tells,h.want,h.aj⟩
theorem YT.pause{y:YV}{C m:Nat}{cr:Nat→List (List UInt8)}(h:YT y C m cr)(on:Bool):YT (y.pause on) C m cr:=by
 obtain⟨hg,_⟩:=h.yg.pause on
 unfold YV.pause at hg ⊢
 split
 ·next hb =>
  rw[if_pos hb] at hg
  refine⟨hg,h.tells,fun a ha hga=>?_,h.aj⟩
  cases hj:y.j with
  | none =>
   have ha':(y.j.map fun j=>jg j on)=some a:=ha
   rw[hj] at ha';cases ha'
  | some j =>
   have ha':(y.j.map fun j=>jg j on)=some a:=ha
   rw[hj] at ha'
   have e:jg j on=a:=Option.some.inj ha'
   have hgj:j.stage<4:=by
    unfold YV.busy at hb
    rw[hj] at hb
    exact of_decide_eq_true hb
   have hp:(jg j on).kind=j.kind∧(jg j on).x=j.x∧(jg j on).l=j.l∧(jg j on).deep=j.deep:=by
    unfold jg
    split<;>split<;>exact⟨rfl,rfl,rfl,rfl⟩
   rw[← e]
   exact(h.want j hj hgj).as hp.1 hp.2.1 hp.2.2.1 hp.2.2.2
 ·next hb=>rw[if_neg hb] at hg;exact h
theorem YT.tick{y:YV}{C m:Nat}{cr:Nat→List (List UInt8)}(h:YT y C m cr)(n:Int):YT (y.tick n) C m cr:=by
 obtain⟨hg,_⟩:=h.yg.tick n
 unfold YV.tick at hg ⊢
 split
 ·next hb =>
  rw[if_pos hb] at hg
  refine⟨hg,h.tells,fun a ha hga=>?_,h.aj⟩
  cases hj:y.j with
  | none =>
   have ha':(y.j.map fun j=>iL j n)=some a:=ha
   rw[hj] at ha';cases ha'
  | some j =>
   have ha':(y.j.map fun j=>iL j n)=some a:=ha
   rw[hj] at ha'
   have e:iL j n=a:=Option.some.inj ha'
   have hgj:j.stage<4:=by
    unfold YV.busy at hb
    rw[hj] at hb
    exact of_decide_eq_true hb
   have hp:(iL j n).kind=j.kind∧(iL j n).x=j.x∧(iL j n).l=j.l∧(iL j n).deep=j.deep:=by
    unfold iL
    first
     | exact⟨rfl,rfl,rfl,rfl⟩
     | (split<;>exact⟨rfl,rfl,rfl,rfl⟩)
   rw[← e]
   exact(h.want j hj hgj).as hp.1 hp.2.1 hp.2.2.1 hp.2.2.2
 ·next hb=>rw[if_neg hb] at hg;exact h
theorem YT.arm{y:YV}{C m:Nat}{cr:Nat→List (List UInt8)}(h:YT y C m cr)(f n:Int)(hn:n≤9223372036854775807):YT (y.arm f n) C m cr:=by
 obtain⟨hg,_⟩:=h.yg.arm f n hn
 unfold YV.arm at hg ⊢
 split
 ·next hx =>
  rw[if_pos hx] at hg
  split
  ·next e=>rw[if_pos e] at hg;exact⟨hg,h.tells,h.want,h.aj.fail n⟩
  ·next e =>
   rw[if_neg e] at hg
   cases hs:y.s f.toNat with
   | none=>rw[hs] at hg;exact⟨hg,h.tells,h.want,h.aj⟩
   | some v =>
    rw[hs] at hg
    simp only at hg ⊢
    have hfile:y.s.file f=some v:=by
     unfold SV.file
     rw[if_pos ⟨by omega,hx.2.1⟩];exact hs
    refine⟨hg,h.tells.act hfile (fun hm=>nO h.yg.ok.ch.good h.yg.ok.s hm hfile) (fun _=>.fail v n) (fun _ _ e=>e) (fun _ k _=>.inl rfl),fun j hj hgj=>(h.want j hj hgj).yG fun i _ c _=>?_,h.aj⟩
    show iE ((y.s.upd f.toNat _).file i) (c:Int)=_
    rw[SV.fJ hfile]
    by_cases e2:i=f
    ·rw[if_pos e2,e2,hfile];rfl
    ·rw[if_neg e2]
 ·exact h
theorem JG{t:ByteArray}(h:t.size=64){j:Nat}(hj:j<4):chunk t j≠[45]:=fun e=>by
 have h1:(chunk t j).length=16:=by
  rw[mW,List.length_take,List.length_drop]
  have:t.data.toList.length=64:=by rw[Array.length_toList];exact h
  omega
 rw[e] at h1
 cases h1
theorem YT.moved{y:YV}{C m:Nat}{cr:Nat→List (List UInt8)}(h:YT y C m cr)(hm:m+10<1000000000){j:JV}(hj:y.j=some j)(hg:j.stage<4):aW (stepS y.s j) C y.l cr:=by
 have hgo:=h.yg.go hj hg
 have hin:=h.yg.ok.job j hj hg
 unfold stepS
 split
 ·next hx =>
  obtain⟨k,e,hk,_⟩:=hgo.ok.pick hx.2.1
  obtain⟨_,r2⟩:=hgo.ok.read hgo.sok hk
  rw[e]
  unfold JV.moved
  refine h.tells.move h.yg.ok.ch.good h.yg.ok.s h.yg.safe hm _ hk r2 fun i hi=>⟨JG r2 hi,?_⟩
  rw[sZ hgo.ok.good hgo.sok hgo.ok.ne hk hi,hin.lst]
  have:=h.tells.sec h.yg.ok.ch.good h.yg.ok.s (k:=4*k+i) (by omega)
  unfold SV.sec at this
  rw[show(4*k+i) / 4=k by omega,show(4*k+i) % 4=i by omega] at this
  exact this
 ·exact h.tells
theorem YT.step{y:YV}{C m:Nat}{cr:Nat→List (List UInt8)}(h:YT y C m cr)(hm:m+30<1000000000):YT y.step C (m+21) cr:=by
 obtain⟨hg,_⟩:=h.yg.step hm
 obtain⟨r0,r4⟩:=h.yg.ok.root
 cases hj:y.j with
 | none =>
  have e:y.step=y:=by unfold YV.step;rw[hj]
  rw[e] at hg ⊢
  exact⟨hg,h.tells,h.want,h.aj⟩
 | some j =>
  by_cases hx:4≤j.stage
  ·have e:y.step=y:=by unfold YV.step;rw[hj];simp only;rw[if_pos hx]
   rw[e] at hg ⊢
   exact⟨hg,h.tells,h.want,h.aj⟩
  ·have hgj:j.stage<4:=by omega
   have hgo:=h.yg.go hj hgj
   have hin:=h.yg.ok.job j hj hgj
   have hz:=h.yg.safe.step h.yg.ok.s (show m+10≤1000000000 by omega) j
   have hzok:=h.yg.ok.s.step j (show m+10≤1000000000 by omega)
   have ht:=h.moved (by omega) hj hgj
   have hnw:=fun hst=>(h.want j hj hgj).step hgo (by omega) hst
   have est:y.step=(if fE y.s j≠0 then (if (stepJ y.s j).stage=5 then ({ y with s:=stepS y.s j,j:=some (stepJ y.s j) }:YV).aj (ak y.kd.root) else { y with s:=stepS y.s j,j:=some (stepJ y.s j) })
     else if y.kd.kind≠2∨(stepJ y.s j).state≠3 then { y with s:=stepS y.s j,j:=some (stepJ y.s j) }
     else if dH (stepS y.s j) (stepJ y.s j)≠0 then ({ y with s:=aH (stepS y.s j) (stepJ y.s j),j:=some (aO (stepS y.s j) (stepJ y.s j)) }:YV).aj (ak y.kd.root)
     else { ({ y with s:=aH (stepS y.s j) (stepJ y.s j),l:=((aH (stepS y.s j) (stepJ y.s j)).walk y.kd.root).1,j:=some ((aO (stepS y.s j) (stepJ y.s j)).at 4) }:YV).aj (ak y.kd.root) with kd:=ak y.kd.root }):=by
    unfold YV.step
    rw[hj]
    simp only
    rw[if_neg hx]
   have plain:∀(Y:YV),Y.s=stepS y.s j→Y.l=y.l→Y.j=some (stepJ y.s j)→jG Y.top Y.kd.root→YG Y C (m+21)→YT Y C (m+21) cr:=fun Y e1 e2 e3 hd hY=>by
    refine⟨hY,by rw[e1,e2];exact ht,fun b hb hgb=>?_,hd⟩
    rw[e3] at hb
    cases hb
    rw[e1];exact hnw hgb
   rw[est] at hg ⊢
   clear est
   split
   ·next c1 =>
    rw[if_pos c1] at hg
    split
    ·next c2 =>
     rw[if_pos c2] at hg
     obtain⟨d1,_,d3,d4⟩:=iH { y with s:=stepS y.s j,j:=some (stepJ y.s j) } (ak y.kd.root)
     exact plain _ d1 d3 d4 (jG.aj (y:={ y with s:=stepS y.s j,j:=some (stepJ y.s j) }) h.aj h.yg.ok.top (jJ r0 r4)) hg
    ·next c2=>rw[if_neg c2] at hg;exact plain _ rfl rfl rfl h.aj hg
   ·next c1 =>
    rw[if_neg c1] at hg
    split
    ·next c2=>rw[if_pos c2] at hg;exact plain _ rfl rfl rfl h.aj hg
    ·next c2 =>
     rw[if_neg c2] at hg
     rw[not_or] at c2
     have hk2:y.kd.kind=2:=Classical.byContradiction c2.1
     have hs3:(stepJ y.s j).state=3:=Classical.byContradiction c2.2
     have hst:(stepJ y.s j).stage<4:=by
      unfold JV.state at hs3
      split at hs3
      ·next e=>omega
      ·omega
     have hla:(stepJ y.s j).l=y.l:=(jT y.s j).1.trans hin.lst
     have hka:iD (stepJ y.s j)=y.kd:=(jT y.s j).2.trans hin.dsk
     have hcz:Chain (stepS y.s j) C y.kd.root y.l:=h.yg.ok.ch.over (.step _ _ _)
     have hcnt:S4.cnt (stepJ y.s j).x 64=0:=zO hs3 (hin.ok.step).stage
     have hmid:YG { y with s:=stepS y.s j,j:=some (stepJ y.s j) } C (m+21):=by
      have hh:=h.yg.job j hj hgj
      refine⟨h.yg.ok.over (hzok.more (by omega)) (fun l=>.step l _ _) (by omega) (fun a ha _=>?_) (fun a ha=>?_),hz,fun a ha hga=>?_⟩
      ·cases ha;exact hin.as (fun l=>.step l _ _) hin.ok.step (jT _ _).1 (jT _ _).2
      ·cases ha;exact hin.ok.step.pR
      ·cases ha
       exact hh.as (Dp hgo (by omega) hh.same hga) (jT _ _).1 (jT _ _).2 (F6 _ _)
     have hgo2:=hmid.go rfl hst
     have hw2:=hnw hst
     generalize ea:stepJ y.s j=a at hg hs3 hla hka hst hcnt hgo2 hw2 ⊢
     generalize ez:stepS y.s j=z at hg hcz hz hzok ht hgo2 hw2 ⊢
     have ha2:a.kind=2:=by rw[← hk2,← hka];rfl
     have hhd:a.l.headD 0=y.kd.root:=by
      obtain⟨r,e⟩:=hcz.head
      rw[hla,e];rfl
     have hinto:a.into=y.kd.root:=by unfold JV.into;rw[if_pos ha2];exact hhd
     obtain⟨es,ef⟩:=xG (s:=z) hs3 ha2
     rw[hhd] at es ef
     rw[ef,es] at hg ⊢
     split
     ·next hf =>
      rw[if_pos hf] at hg
      have hJ:=xB (s:=z) hs3 ha2 (by rw[hhd];exact hf)
      rw[hJ] at hg ⊢
      obtain⟨d1,_,d3,d4⟩:=iH { y with s:=(bQ z y.kd.root a.file).1,j:=some (a.at 5) } (ak y.kd.root)
      refine⟨hg,by rw[d1,d3];exact ht.link hcz.good hzok hz (by omega) _ _,fun b hb hgb=>?_,jG.aj (y:={ y with s:=(bQ z y.kd.root a.file).1,j:=some (a.at 5) }) h.aj h.yg.ok.top (jJ r0 r4)⟩
      rw[d4] at hb
      cases hb
      exact absurd hgb (by show ¬(5:Int)<4;decide)
     ·next hf =>
      rw[if_neg hf] at hg
      have hf0:(bQ z y.kd.root a.file).2=0:=Classical.byContradiction hf
      have hJ:=Ac (s:=z) (j:=a) (by rw[hhd];exact hf0)
      rw[hJ] at hg ⊢
      have hwq:((bQ z y.kd.root a.file).1.walk y.kd.root).1=dn a:=by
       have hhm:=hmid.job _ rfl (by rw[ea];exact hst)
       rw[ea,ez] at hhm
       have hcl:Chain z C y.kd.root a.l:=by rw[hla];exact hcz
       rw[(FZ hcl ha2 (hhm.str ha2) (hhm.str2 ha2) hf0).walk]
      rw[hwq] at hg ⊢
      obtain⟨d1,_,d3,d4⟩:=iH { y with s:=(bQ z y.kd.root a.file).1,l:=dn a,j:=some (a.at 4) } (ak y.kd.root)
      have hdk:=jG.aj (y:={ y with s:=(bQ z y.kd.root a.file).1,l:=dn a,j:=some (a.at 4) }) h.aj h.yg.ok.top (jJ r0 r4)
      refine⟨hg,?_,fun b hb hgb=>?_,?_⟩
      ·show aW (YV.aj _ _).s C (YV.aj _ _).l cr
       rw[d1,d3]
       have hsm:=aW.streamed (b:=a.file) (show aW z C a.l cr by rw[hla];exact ht) hgo2 hz (by omega) ha2 hw2 hcnt (by have:=hin.ok.c40;omega) (by rw[hinto];exact hf0)
       rw[hinto] at hsm
       exact hsm
      ·have hb':(YV.aj _ _).j=some b:=hb
       rw[d4] at hb'
       cases hb'
       exact absurd hgb (by show ¬(4:Int)<4;decide)
      ·show jG (YV.aj _ _).top y.kd.root
       have e:(({ y with s:=(bQ z y.kd.root a.file).1,l:=dn a,j:=some (a.at 4) }:YV).aj (ak y.kd.root)).kd.root=y.kd.root:=by
        unfold YV.aj
        split<;>rfl
       rw[e] at hdk
       exact hdk
theorem YT.pivot{y:YV}{C m:Nat}{cr:Nat→List (List UInt8)}(h:YT y C m cr)(hm:m+20<1000000000):YT y.pivot C (m+11) cr:=by
 obtain⟨hg,hv⟩:=h.yg.pivot hm
 cases hj:y.j with
 | none =>
  have e:y.pivot=y:=by unfold YV.pivot;rw[hj]
  rw[e] at hg ⊢
  exact⟨hg,h.tells,h.want,h.aj⟩
 | some j =>
  by_cases hx:4≤j.stage∨y.kd.kind=2
  ·have e:y.pivot=y:=by unfold YV.pivot;rw[hj];simp only;rw[if_pos hx]
   rw[e] at hg ⊢
   exact⟨hg,h.tells,h.want,h.aj⟩
  ·have est:y.pivot=(if dH y.s j≠0 then { y with s:=aH y.s j,j:=some (aO y.s j) } else ({ y with s:=aH y.s j,j:=some (aO y.s j) }:YV).over y.kd.file 4):=by
    unfold YV.pivot
    rw[hj]
    simp only
    rw[if_neg hx]
   rw[not_or] at hx
   have hgj:j.stage<4:=by omega
   have hgo:=h.yg.go hj hgj
   have hin:=h.yg.ok.job j hj hgj
   have hk:j.kind=y.kd.kind:=by rw[← hin.dsk];rfl
   have hkf:y.kd.file=j.file:=by rw[← hin.dsk];rfl
   have hj2:j.kind≠2:=by rw[hk];exact hx.2
   have hJ:aO y.s j=j:=by
    unfold aO
    rw[if_neg (fun e=>hj2 e.2.1)]
   have hts:aW (aH y.s j) C y.l cr:=by
    unfold aH
    split
    ·exact aW.bV _ h.tells h.yg.ok.ch.good h.yg.ok.s h.yg.safe
    ·exact h.tells
   rw[est,hJ] at hg hv ⊢
   clear est
   split
   ·next hf =>
    rw[if_pos hf] at hg
    refine⟨hg,hts,fun b hb _=>?_,h.aj⟩
    cases hb;exact .sS hj2
   ·next hf =>
    rw[if_neg hf] at hg hv
    have hf0:dH y.s j=0:=Classical.byContradiction hf
    have hs3:j.state=3:=by
     unfold dH at hf0
     split at hf0
     ·next e=>exact e
     ·cases hf0
    unfold YV.over at hg hv ⊢
    obtain⟨d1,_,d3,d4⟩:=iH { y with s:=aH y.s j,j:=some j } (ak y.kd.file)
    have hff:0≤y.kd.file∧y.kd.file≤4:=by
     obtain⟨v,hv1⟩:=hin.ok.file hj2
     have:=SV.dK hv1
     rw[hkf];omega
    have hdk:=jG.aj (y:={ y with s:=aH y.s j,j:=some j }) h.aj h.yg.ok.top (jJ hff.1 hff.2)
    split
    ·next hd =>
     rw[if_pos hd] at hg hv
     refine⟨hg,?_,fun b hb hgb=>?_,hdk⟩
     ·have hch:=hg.ok.ch
      have hso:=hg.ok.s
      have hes:({ ({ y with s:=aH y.s j,j:=some j }:YV).aj (ak y.kd.file) with j:=(some j).map fun j=>j.at 4,l:=((aH y.s j).walk y.kd.file).1 }:YV).s=aH y.s j:=d1
      have hset:aH y.s j=y.s.bV (y.s.walk j.file).1:=by
       unfold aH
       rw[if_pos hs3,if_neg hj2]
      have hbk:j.kind=1→∀ v,y.s.file j.file=some v→v.h.b = -1:=fun e v hv1=>by
       obtain⟨u,h1,h3,_⟩:=hin.tgt.mir (by rw[← hk];exact e)
       rw[hkf,hv1] at h1
       cases h1;exact h3
      have hcj:Chain y.s C y.kd.root j.l:=by rw[hin.lst];exact h.yg.ok.ch
      have hp0:=hgo.pivots hcj hj2 hbk
      have hp:Chain (aH y.s j) C j.file (dn j):=by
       rw[hset]
       exact hp0.over (.bV _ _ _)
      have hw:((aH y.s j).walk y.kd.file).1=dn j:=by rw[hkf,hp.walk]
      show aW (YV.aj _ _).s C ((aH y.s j).walk y.kd.file).1 cr
      rw[d1,hw]
      show aW (aH y.s j) C (dn j) cr
      rw[hset,hp0.walk]
      refine aW.flushed hp0.good h.yg.ok.s h.yg.safe fun k hk1=>?_
      have h1:=(h.yg.job j hj hgj).same.done (zO hs3 hin.ok.stage) (by have:=hin.ok.c40;omega) (c:=k / 4) (i:=k % 4) (by omega) (by omega)
      show y.s.view (k / 4) (k % 4) (dn j)∈cr k
      rw[h1,hin.lst]
      exact h.tells.sec h.yg.ok.ch.good h.yg.ok.s hk1
     ·have hb':some (j.at 4)=some b:=hb
      cases hb'
      exact absurd hgb (by show ¬(4:Int)<4;decide)
    ·next hd =>
     rw[if_neg hd] at hg hv
     refine⟨hg,by rw[d1,d3];exact hts,fun b hb _=>?_,hdk⟩
     rw[d4] at hb
     cases hb
     exact .sS hj2
end Go.Proofs.YtonhoahnieoebabGreatDoor
