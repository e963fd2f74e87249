/- A yard as its guest sees it (W1): pauses, ticks, devices that are to fail, files that are made; a new yard. -/
import Derived.Test.YtonhoahnieoebabGreatDoorQYardGuest3
namespace Go.Proofs.YtonhoahnieoebabGreatDoor
open Go.RowKit
theorem YG.pause{y:YV}{C m:Nat}(h:YG y C m)(on:Bool):YG (y.pause on) C m∧mY y (y.pause on) C:=by
 have hok:=h.ok.pause on
 unfold YV.pause at hok ⊢
 split
 ·next hb =>
  rw[if_pos hb] at hok
  refine⟨⟨hok,h.safe,fun b hb' _=>?_⟩,fun _ _ _ _=>rfl⟩
  obtain⟨j,hj,hg⟩:=ny hb
  have hb2:(y.j.map fun j=>jg j on)=some b:=hb'
  rw[hj] at hb2
  have e:jg j on=b:=Option.some.inj hb2
  rw[← e]
  unfold jg
  split
  ·split
   ·exact(h.job j hj hg).at _
   ·exact h.job j hj hg
  ·split
   ·exact(h.job j hj hg).at _
   ·exact h.job j hj hg
 ·next hb=>exact⟨h,fun _ _ _ _=>rfl⟩
theorem YG.tick{y:YV}{C m:Nat}(h:YG y C m)(n:Int):YG (y.tick n) C m∧mY y (y.tick n) C:=by
 have hok:=h.ok.tick n
 unfold YV.tick at hok ⊢
 split
 ·next hb =>
  rw[if_pos hb] at hok
  refine⟨⟨hok,h.safe,fun b hb' _=>?_⟩,fun _ _ _ _=>rfl⟩
  obtain⟨j,hj,hg⟩:=ny hb
  have hb2:(y.j.map fun j=>iL j n)=some b:=hb'
  rw[hj] at hb2
  have e:iL j n=b:=Option.some.inj hb2
  rw[← e]
  have hh:=h.job j hj hg
  unfold iL
  by_cases hx:S4.inB n 100000=true
  ·rw[if_pos hx];exact⟨hh.same,hh.str,hh.com,hh.str2⟩
  ·rw[if_neg hx];exact hh
 ·next hb=>exact⟨h,fun _ _ _ _=>rfl⟩
theorem Same.of{s z:SV}{C:Nat}{j:JV}(h:Same s C j)(hv:∀ c,c<C→∀ i,i<4→z.view c i (dn j)=s.view c i (dn j)∧z.view c i j.l=s.view c i j.l):Same z C j:=fun c hc hb i hi=>by
 rw[(hv c hc i hi).1,(hv c hc i hi).2]
 exact h c hc hb i hi
theorem YG.arm{y:YV}{C m:Nat}(h:YG y C m)(f n:Int)(hn:n≤9223372036854775807):YG (y.arm f n) C m∧mY y (y.arm f n) C:=by
 have hok:=h.ok.arm f n hn
 unfold YV.arm at hok ⊢
 split
 ·next hx =>
  rw[if_pos hx] at hok
  split
  ·next e=>rw[if_pos e] at hok;exact⟨⟨hok,h.safe,h.job⟩,fun _ _ _ _=>rfl⟩
  ·next e =>
   rw[if_neg e] at hok
   cases hs:y.s f.toNat with
   | none=>rw[hs] at hok;exact⟨⟨hok,h.safe,h.job⟩,fun _ _ _ _=>rfl⟩
   | some v =>
    rw[hs] at hok
    simp only at hok ⊢
    have hfile:y.s.file f=some v:=by
     unfold SV.file
     rw[if_pos ⟨by omega,hx.2.1⟩];exact hs
    have hV:∀ c i,i<4→∀ l,y.s.good (C:Int) l→(y.s.upd f.toNat { v with d:=v.d.failing n }).view c i l=y.s.view c i l:=fun c i hi l hg=>by
     refine tZ hi fun k hk=>?_
     obtain⟨w,hw,_⟩:=hg k hk
     rw[SV.fJ hfile]
     by_cases e:k=f
     ·subst e
      exact⟨v,{ v with d:=v.d.failing n },hfile,by rw[if_pos rfl],rfl,fun _=>rfl⟩
     ·exact⟨w,w,hw,by rw[if_neg e];exact hw,rfl,fun _=>rfl⟩
    obtain⟨U,hsf⟩:=h.safe.file hfile
    refine⟨⟨hok,h.safe.upd _ ⟨U,hsf.fail n⟩,fun j hj hg=>?_⟩,fun c _ i hi=>hV c i hi _ h.ok.ch.good⟩
    have hh:=h.job j hj hg
    have hin:=h.ok.job j hj hg
    obtain⟨r,w,etl,_,_,_,hgt⟩:=(h.go hj hg).form
    exact hh.as (hh.same.of fun c hc i hi=>⟨hV c i hi _ (by rw[etl];exact hgt),hV c i hi _ hin.ok.good⟩) rfl rfl rfl
 ·exact⟨h,fun _ _ _ _=>rfl⟩
theorem YG.apart{y:YV}{C m:Nat}(h:YG y C m){f:Int}(hu:y.used f≠true){j:JV}(hj:y.j=some j)(hg:j.stage<4):f ∉ dn j:=by
 obtain⟨hn,hb⟩:=rM hu
 have hin:=h.ok.job j hj hg
 have hkf:y.kd.file=j.file:=by rw[← hin.dsk];rfl
 have hne:j.file≠f:=by rw[← hkf];exact hb (by unfold YV.busy;rw[hj];exact decide_eq_true hg)
 have hn':f ∉ j.l:=by rw[hin.lst];exact hn
 obtain⟨r,el⟩:=h.ok.ch.head
 unfold dn
 intro hm
 split at hm
 ·rw[List.mem_singleton] at hm;exact hne hm.symm
 ·split at hm
  ·rcases List.mem_cons.1 hm with e|e
   ·refine hn' ?_
    rw[e,hin.lst,el];exact List.mem_cons_self
   ·exact hn' (List.mem_of_mem_drop e)
  ·exact hn' (List.mem_of_mem_drop hm)
theorem YG.blank{y : YV}{C m : Nat}(h : YG y C m)(f back : Int)(hm : m + 20 < 1000000000) : YG (y.blank f back) C (m + 15) ∧ mY y (y.blank f back) C := by
 have hok := h.ok.blank f back hm
 refine ⟨⟨hok, ?_, fun j hj hg => ?_⟩, fun c _ i _ => by rw [(sN y f back).2.2.1]; exact zT y f back c i⟩
 ·unfold YV.blank
  split
  ·split
   ·exact h.safe
   ·split
    ·next hc =>
     obtain ⟨k1, k2⟩ := FV hc
     exact h.safe.upd _ ⟨_, AU (h.ok.dev f.toNat) k1 k2 hm hc⟩
    ·exact h.safe.gone _
  ·exact h.safe
 ·rw [(sN y f back).1] at hj
  have hh := h.job j hj hg
  have hin := h.ok.job j hj hg
  refine hh.as (hh.same.of fun c hc i hi => ⟨?_, by rw [hin.lst]; exact zT y f back c i⟩) rfl rfl rfl
  unfold YV.blank
  split
  ·next hx =>
   split
   ·rfl
   ·next hu =>
    have hap := h.apart hu hj hg
    split
    ·exact sK fun n hm => by
      show (y.s.upd f.toNat _).file n = _
      rw [pK _ hx.1 hx.2, if_neg (fun (e : n = f) => hap (e ▸ hm))]
    ·exact sK fun n hm => by
      show (y.s.gone f.toNat).file n = _
      rw [xC _ hx.1 hx.2, if_neg (fun (e : n = f) => hap (e ▸ hm))]
  ·rfl
theorem YG.snap{y:YV}{C m:Nat}(h:YG y C m)(f:Int)(hm:m+20<1000000000):YG (y.snap f) C (m+16)∧mY y (y.snap f) C:=by
 have hok:=h.ok.snap f hm
 unfold YV.snap at hok ⊢
 split
 ·next hx=>rw[if_pos hx] at hok;exact⟨⟨hok,h.safe,h.job⟩,fun _ _ _ _=>rfl⟩
 ·next hx =>
  rw[if_neg hx] at hok
  rw[not_or] at hx
  have hbn:=nN hx.1
  obtain⟨hb,hbs⟩:=h.blank f y.kd.root hm
  obtain⟨b1,b2,b3,b4⟩:=sN y f y.kd.root
  obtain⟨d1,_,d3,d4⟩:=iH (y.blank f y.kd.root) (ak f)
  split
  ·next hbf =>
   rw[if_pos hbf] at hok
   obtain⟨h0,h5,hu,hc,eb⟩:=xq hbf
   split
   ·next hdf =>
    rw[if_pos hdf] at hok
    refine⟨⟨hok,by show aZ (YV.aj _ _).s;rw[d1];exact hb.safe,fun j hj hg=>?_⟩,fun c hc i hi=>?_⟩
    ·have hj':(YV.aj _ _).j=some j:=hj
     rw[d4,b1] at hj'
     exact absurd (hbn j hj') (by omega)
    ·show(YV.aj _ _).s.view c i (f::y.l)=_
     rw[d1]
     have hff:(y.blank f y.kd.root).s.file f=some (crV (y.dev f.toNat) (y.head f y.kd.root)):=by
      rw[eb]
      show(y.s.upd f.toNat _).file f=_
      rw[pK _ h0 h5,if_pos rfl]
     rw[DW hff]
     exact zT y f y.kd.root c i
   ·next hdf =>
    rw[if_neg hdf] at hok
    refine⟨⟨hok,by rw[d1];exact hb.safe,fun j hj hg=>?_⟩,fun c hc i hi=>by rw[d1,d3];exact hbs c hc i hi⟩
    rw[d4,b1] at hj
    exact absurd (hbn j hj) (by omega)
  ·next hbf =>
   rw[if_neg hbf] at hok
   exact⟨⟨hok,hb.safe,hb.job⟩,hbs⟩
theorem YG.wipe{y:YV}{C m:Nat}(h:YG y C m){fr N:Nat}(hf:y.s.bT y.l (fr:Int) (N:Int)=0)(hm:m+10*N≤1000000000) :
  Laid y.s (y.wipe (fr:Int) (N:Int)).s C y.l fr (fr+N) (fun _=>noughts) (y.jd (fr:Int) (N:Int)=0)∧YG (y.wipe (fr:Int) (N:Int)) C (m+10*(N))∧(y.wipe (fr:Int) (N:Int)).l=y.l:=by
 obtain⟨r,el,hT⟩:=h.top
 have hok:=(h.ok.wipe (fr:Int) (N:Int) (by omega))
 have e1:y.wipe (fr:Int) (N:Int)=({ y with s:=(y.s.wipe y.l (fr:Int) (N:Int)).1 }:YV).mark fr (N):=by
  unfold YV.wipe
  rw[if_pos hf]
  rfl
 have e2:y.jd (fr:Int) (N:Int)=(y.s.wipe y.l (fr:Int) (N:Int)).2:=by
  unfold YV.jd
  rw[if_pos hf]
 have es:(y.wipe (fr:Int) (N:Int)).s=(y.s.wipe y.l (fr:Int) (N:Int)).1:=by rw[e1];rfl
 have hf':=hf
 rw[el] at hf'
 refine⟨?_,⟨hok,by rw[es];exact h.safe.wipe h.ok.s _ _ _ (by omega),fun a ha hg=>?_⟩,by rw[e1];rfl⟩
 ·rw[es,e2,el]
  exact(RF hT hf' hm).1
 ·rw[es]
  have ha':(y.j.map fun j=>dF j fr (N))=some a:=by rw[e1] at ha;exact ha
  cases hj:y.j with
  | none=>rw[hj] at ha';cases ha'
  | some j =>
   rw[hj] at ha'
   have e:dF j fr (N)=a:=Option.some.inj ha'
   obtain⟨d1,d2,d3,d4⟩:=qJ j fr (N)
   have hgj:j.stage<4:=by rw[← d3,e];exact hg
   have hgo:=h.go hj hgj
   have hh:=h.job j hj hgj
   have hin:=h.ok.job j hj hgj
   have hS:=Root.same hgo hgj (n:=y.kd.root) (r:=r) (by rw[hin.lst,el]) (L8 hT hf' hm) hh.same
   have hdeep:∀ k,(dF j fr k).deep=j.deep:=by
    intro k
    induction k with
    | zero=>rfl
    | succ k ih =>
     show(dA _ _).deep=_
     unfold dA
     split<;>exact ih
   rw[← e]
   exact hh.as (by rw[el];exact hS) d1 d2 (hdeep _)
theorem EP{c p:Int}(hk:(newH c p).ok=true)(hn:aJ (newH c p)≤200):YG (jE c p) c.toNat 20∧∀ k i,(jE c p).s.view k i (jE c p).l=noughts:=by
 have hok:=KG hk hn
 have hd:=qF (n:=aJ (newH c p)) (by unfold aJ aK;omega) hn
 have hlen:(fM (aJ (newH c p))).fl.length=aJ (newH c p):=List.length_replicate
 obtain⟨d1,_,d3,d4⟩:=iH (jr c p) (ak 0)
 have e1:(jE c p).s=SV.upd (fun _=>none) 0 (crV (fM (aJ (newH c p))) (newH c p)):=d1
 have e3:(jE c p).l=[0]:=d3
 refine⟨⟨hok,?_,fun j hj=>?_⟩,fun k i=>?_⟩
 ·rw[e1]
  exact aZ.upd (s:=fun _=>none) (fun i v e=>by cases e) 0 ⟨_,AU hd hk (by rw[hlen];exact Nat.le_refl _) (by omega) (Aw hk (Nat.le_refl _))⟩
 ·have:(jE c p).j=none:=d4
  rw[this] at hj
  cases hj
 ·rw[e1,e3]
  exact DW (s:=SV.upd (fun _=>none) 0 (crV (fM (aJ (newH c p))) (newH c p))) (f:=0) (l:=[]) rfl k i
open Go.Maps
theorem S9{a b:ByteArray}{i:Nat}(h:(i+1)*16≤a.size):chunk (a++b) i=chunk a i:=by
 rw[mW,mW,ByteArray.data_append,Array.toList_append]
 have:a.data.toList.length=a.size:=by rw[Array.length_toList];rfl
 rw[List.drop_append_of_le_length (by omega),List.take_append_of_le_length (by rw[List.length_drop];omega)]
theorem Un{a b:ByteArray}{i:Nat}(h:a.size=i*16):chunk (a++b) i=chunk b 0:=by
 rw[mW,mW,ByteArray.data_append,Array.toList_append]
 have:a.data.toList.length=i*16:=by rw[Array.length_toList];exact h
 rw[← this,List.drop_left,Nat.zero_mul,List.drop_zero]
theorem O9{s:SV}{C m:Nat}{l:List Int}(hg:s.good (C:Int) l)(hok:s.ok m)(h0:l≠[]):∀ n,n≤4*C→∀ k,k<n→chunk (s.jQ l 0 n) k=s.sec l k:=by
 intro n
 induction n with
 | zero=>intro _ k hk;omega
 | succ n ih =>
  intro hn k hk
  have hs:(s.jQ l 0 n).size=n*16:=SV.AO (fr:=0) hg hok h0 n (by omega)
  show chunk (s.jQ l 0 n++dQ (s.read l (((0+n) / 4:Nat):Int)).1 ((0+n) % 4) 1) k=_
  by_cases e:k=n
  ·subst e
   rw[Un hs,Nat.zero_add]
   have hc:k / 4<C:=by omega
   have hr:=sZ (c:=k / 4) (j:=k % 4) hg hok h0 hc (by omega)
   unfold SV.sec
   rw[← hr]
   have hz:(s.read l ((k / 4:Nat):Int)).1.size=64:=(SV.jX hg hok h0 (c:=((k / 4:Nat):Int)) ⟨by omega,by omega⟩).2
   exact DC (a:=k % 4) (n:=1) (i:=0) (by omega) (by rw[hz];omega)
  ·rw[S9 (by rw[hs];omega)]
   exact ih (by omega) k (by omega)
structure Saw(y:YV)(C m:Nat)(g:GV)(L:Nat):Prop where
 yg:YG y C m
 now:∀ k,k<4*C→y.s.sec y.l k∈g.now k
 len:∀ k,k<4*C→(g.now k).length≤L∧(g.cr k).length≤L
theorem YG.more{y:YV}{C m m':Nat}(h:YG y C m)(hm:m≤m'):YG y C m':=⟨h.ok.more hm,h.safe,h.job⟩
theorem Saw.more{y:YV}{C m m' L L':Nat}{g:GV}(h:Saw y C m g L)(hm:m≤m')(hL:L≤L'):Saw y C m' g L' :=
 ⟨h.yg.more hm,h.now,fun k hk=>⟨Nat.le_trans (h.len k hk).1 hL,Nat.le_trans (h.len k hk).2 hL⟩⟩
theorem Saw.sees{y z:YV}{C m m' L:Nat}{g:GV}(h:Saw y C m g L)(hz:YG z C m')(hs:mY y z C):Saw z C m' g L :=
 ⟨hz,fun k hk=>by
  have:z.s.sec z.l k=y.s.sec y.l k:=hs (k / 4) (by omega) (k % 4) (by omega)
  rw[this]
  exact h.now k hk,h.len⟩
theorem Saw.laid{y z:YV}{C m m' L fr N:Nat}{g:GV}{t:ByteArray}{well:Bool}{x:Nat→List UInt8}(h:Saw y C m g L)(hz:YG z C m')(hl:z.l=y.l)(hx:∀ k,fr≤k→k<fr+N→x k=chunk t (k-fr))(hd:Laid y.s z.s C y.l fr (fr+N) x (well=true)):Saw z C m' (dR g fr t well N N) (L+1):=by
 refine⟨hz,fun k hk=>?_,fun k hk=>?_⟩
 ·rw[hl]
  show _∈kV g fr t well N k
  unfold kV
  cases well with
  | true =>
   rw[hd.yes rfl k hk]
   by_cases e:fr≤k∧k<fr+N
   ·rw[if_pos e,if_pos e,if_pos rfl,hx k e.1 e.2]
    exact List.mem_singleton.2 rfl
   ·rw[if_neg e,if_neg e]
    exact h.now k hk
  | false =>
   by_cases e:fr≤k∧k<fr+N
   ·rw[if_pos e,if_neg (by decide)]
    rcases hd.any k hk with q|⟨_,q⟩
    ·rw[q]
     exact List.mem_append_left _ (h.now k hk)
    ·rw[q,hx k e.1 e.2]
     exact List.mem_append_right _ (List.mem_singleton.2 rfl)
   ·rw[if_neg e]
    rcases hd.any k hk with q|⟨q,_⟩
    ·rw[q]
     exact h.now k hk
    ·exact absurd q e
 ·have h2:=h.len k hk
  refine⟨?_,?_⟩
  ·show(kV g fr t well N k).length≤L+1
   unfold kV
   split
   ·split
    ·exact Nat.succ_le_succ (Nat.zero_le _)
    ·rw[List.length_append];simp;omega
   ·omega
  ·show(jy g fr t N k).length≤L+1
   unfold jy
   split
   ·rw[List.length_append];simp;omega
   ·omega
theorem Bz{y z:YV}{C m:Nat}(h:YG z C m∧∀ c,c<C→∀ i,i<4→z.s.view c i z.l=y.s.view c i y.l):YG z C m∧mY y z C:=h
theorem Saw.act{y y':YV}{C m L:Nat}{g g':GV}{x:aG}(h:Saw y C m g L)(hr:iW (4*C) y g x y' g')(hx:qM x)(hC:C≤32)(hm:m+8000<1000000000):Saw y' C (m+2000) g' (L+1):=by
 have one:∀ {z:YV} {m':Nat},YG z C m'∧mY y z C→m'≤m+2000→Saw z C (m+2000) g (L+1):=fun {z m'} hz hm'=>(h.sees hz.1 hz.2).more hm' (Nat.le_succ _)
 obtain⟨⟨a1,a2⟩,hs,b1,b2⟩:=hx
 cases hr with
 | write hk =>
  by_cases hf:x.s.size % 16=0∧y.s.bT y.l x.a ((x.s.size / 16:Nat):Int)=0
  ·obtain⟨_,f0,_,_⟩:=SV.jw h.yg.ok.ch.good hf.2
   have h1:y.dw x.a x.s≠1:=by
    unfold YV.dw
    rw[if_pos hf]
    exact zG h.yg.ok.ch.good h.yg.ok.s hf.1 hf.2 (by omega)
   rw[if_neg h1]
   obtain⟨fr,e⟩:∃ fr:Nat,x.a=(fr:Int):=⟨x.a.toNat,by omega⟩
   rw[e] at hf ⊢
   obtain⟨q1,q2,q3⟩:=h.yg.write hf.1 hf.2 (by omega)
   have hfr:((fr:Int)).toNat=fr:=Int.toNat_natCast fr
   rw[hfr]
   refine(h.laid (well:=decide (y.dw (fr:Int) x.s=0)) q2 q3 (fun k _ _=>rfl) ?_).more (by omega) (Nat.le_refl _)
   exact⟨fun w=>q1.yes (of_decide_eq_true w),q1.any⟩
  ·have e1:y.dw x.a x.s=1:=by unfold YV.dw;rw[if_neg hf]
   have e2:y.write x.a x.s=y:=by unfold YV.write;rw[if_neg hf]
   rw[if_pos e1,e2]
   exact h.more (by omega) (Nat.le_succ _)
 | wipe hk =>
  by_cases hf:y.s.bT y.l x.a x.b=0
  ·obtain⟨_,f0,n0,n1⟩:=SV.jw h.yg.ok.ch.good hf
   have h1:y.jd x.a x.b≠1:=by
    unfold YV.jd
    rw[if_pos hf]
    exact yY h.yg.ok.ch.good h.yg.ok.s hf (by omega)
   rw[if_neg h1]
   obtain⟨fr,e⟩:∃ fr:Nat,x.a=(fr:Int):=⟨x.a.toNat,by omega⟩
   obtain⟨N,e'⟩:∃ N:Nat,x.b=(N:Int):=⟨x.b.toNat,by omega⟩
   rw[e,e'] at hf n1 ⊢
   obtain⟨q1,q2,q3⟩:=h.yg.wipe hf (by omega)
   have hfr:((fr:Int)).toNat=fr:=Int.toNat_natCast fr
   have hN:((N:Int)).toNat=N:=Int.toNat_natCast N
   rw[hfr,hN]
   refine(h.laid (well:=decide (y.jd (fr:Int) (N:Int)=0)) q2 q3 (fun k k1 k2=>(xK (n:=N) (i:=k-fr) (by omega)).symm) ?_).more (by omega) (Nat.le_refl _)
   exact⟨fun w=>q1.yes (of_decide_eq_true w),q1.any⟩
  ·have e1:y.jd x.a x.b=1:=by unfold YV.jd;rw[if_neg hf]
   have e2:y.wipe x.a x.b=y:=by unfold YV.wipe;rw[if_neg hf]
   rw[if_pos e1,e2]
   exact h.more (by omega) (Nat.le_succ _)
 | flush hk =>
  have h1:=one h.yg.flush (by omega)
  refine⟨h1.yg,h1.now,fun k hk=>⟨(h1.len k hk).1,?_⟩⟩
  show(if k<4*C then g.now k else g.cr k).length≤L+1
  rw[if_pos hk]
  exact(h1.len k hk).1
 | blank hk=>exact one (h.yg.blank x.a (-1) (by omega)) (by omega)
 | snap hk=>exact one (h.yg.snap x.a (by omega)) (by omega)
 | start hk=>exact one (h.yg.start (d:=lV y x.a x.b x.c x.d) rfl (by omega)) (by omega)
 | pivot hk=>exact one (Bz (h.yg.pivot (by omega))) (by omega)
 | cancel hk=>exact one (h.yg.cancel (by omega)) (by omega)
 | pause hk=>exact one (h.yg.pause _) (by omega)
 | tick hk=>exact one (h.yg.tick _) (by omega)
 | fail hk=>exact one (h.yg.arm x.a x.b (by omega)) (by omega)
 | step=>exact one (Bz (h.yg.step (by omega))) (by omega)
theorem Saw.text{y:YV}{C m L:Nat}{g:GV}(h:Saw y C m g L):y.s.bT y.l 0 ((4*C:Nat):Int)=0∧(y.s.jZ y.l 0 ((4*C:Nat):Int)).size=16*(4*C)∧∀ k,k<4*C→chunk (y.s.jZ y.l 0 ((4*C:Nat):Int)) k=y.s.sec y.l k:=by
 obtain⟨r,el⟩:=h.yg.ok.ch.head
 have hl:y.l≠[]:=by rw[el];exact List.cons_ne_nil _ _
 obtain⟨v,hv,hc⟩:=h.yg.ok.ch.root
 have hcl:y.s.fU y.l=(C:Int):=h.yg.ok.ch.good.fU hl
 have hf:y.s.bT y.l 0 ((4*C:Nat):Int)=0:=by
  unfold SV.bT
  rw[if_neg hl,if_neg (by rw[hcl];omega)]
 have e:y.s.jZ y.l 0 ((4*C:Nat):Int)=y.s.jQ y.l 0 (4*C):=by
  unfold SV.jZ
  rw[if_pos hf]
  rfl
 rw[e]
 refine⟨hf,?_,O9 h.yg.ok.ch.good h.yg.ok.s hl _ (Nat.le_refl _)⟩
 rw[SV.AO (fr:=0) h.yg.ok.ch.good h.yg.ok.s hl (4*C) (by omega)]
 omega
theorem Saw.made{c p:Int}(hk:(newH c p).ok=true)(hn:aJ (newH c p)≤200):Saw (jE c p) c.toNat 20 ⟨fun _=>[noughts],fun _=>[noughts]⟩ 1:=by
 obtain⟨h1,h2⟩:=EP hk hn
 exact⟨h1,fun k _=>List.mem_singleton.2 (h2 _ _),fun k _=>⟨Nat.le_refl _,Nat.le_refl _⟩⟩
end Go.Proofs.YtonhoahnieoebabGreatDoor
namespace Go.Proofs.YtonhoahnieoebabGreatDoor
open Go.RowKit
def Falls(M:Int→Nat→List (List UInt8))(cr:Nat→List (List UInt8))(k:Nat):List Int→Prop
 | []=>noughts∈cr k
 | n::r=>(∀ s∈M n k,s≠[45]→s∈cr k)∧([45]∈M n k→Falls M cr k r)
theorem Falls.re{M M':Int→Nat→List (List UInt8)}{cr cr':Nat→List (List UInt8)}{k:Nat}(hc:∀ s∈cr k,s∈cr' k):∀ {l:List Int},Falls M cr k l→(∀ n∈l,∀ s∈M' n k,s∈M n k∨s≠[45]∧s∈cr' k)→Falls M' cr' k l:=by
 intro l
 induction l with
 | nil=>intro h _;exact hc _ h
 | cons n r ih =>
  intro h hm
  refine⟨fun s hs h45=>?_,fun h45=>?_⟩
  ·rcases hm n List.mem_cons_self s hs with h1|h1
   ·exact hc _ (h.1 s h1 h45)
   ·exact h1.2
  ·rcases hm n List.mem_cons_self _ h45 with h1|h1
   ·exact ih (h.2 h1) fun i hi=>hm i (List.mem_cons_of_mem _ hi)
   ·exact absurd rfl h1.1
theorem Kt:noughts≠[45]:=by decide
theorem tu{v:IV}{k:Nat}(h:(v.t.getD (k / 4) (0,0)).1=0):v.sh k=[45]:=by
 unfold IV.sh
 rw[if_neg (by omega),if_neg (by omega)]
theorem uJ{v:IV}{m:Nat}(hok:v.ok m){k:Nat}(hk:k<4*v.t.length)(h:v.sh k=[45]):(v.t.getD (k / 4) (0,0)).1=0:=by
 have hb:=iG (hok.ents _ (getD_mem (show k / 4<v.t.length by omega)))
 unfold IV.sh at h
 split at h
 ·next h2 =>
  exfalso
  have hp:0≤(v.t.getD (k / 4) (0,0)).2∧(v.t.getD (k / 4) (0,0)).2<v.h.p:=by
   rcases hb with hb|hb
   ·exact⟨hb.2.1,hb.2.2⟩
   ·omega
  have hbe:=(kR hok.h hok.need).2 (v.t.getD (k / 4) (0,0)).2.toNat (by omega)
  have hx:aK v.h (v.t.getD (k / 4) (0,0)).2.toNat+k % 4<v.d.seen.length:=by rw[hok.d.ok.same];omega
  have hl:=hok.d.ok.l2 _ (List.getElem_mem hx)
  rw[List.getD_eq_getElem?_getD,List.getElem?_eq_getElem hx] at h
  have h':v.d.seen[aK v.h (v.t.getD (k / 4) (0,0)).2.toNat+k % 4]=[45]:=h
  rw[h'] at hl
  cases hl
 ·split at h
  ·exact absurd h Kt
  ·omega
theorem Aq{s:SV}{n:Int}{r:List Int}{v:IV}(hf:s.file n=some v)(k:Nat):s.sec (n::r) k=if (v.t.getD (k / 4) (0,0)).1=0 then s.sec r k else v.sh k:=by
 unfold SV.sec
 rw[jH hf]
 rfl
theorem FU{s:SV}{M:Int→Nat→List (List UInt8)}{cr:Nat→List (List UInt8)}{k:Nat}:∀ {l:List Int},(∀ n∈l,∃ v,s.file n=some v∧v.sh k∈M n k∧(v.sh k=[45]→(v.t.getD (k / 4) (0,0)).1=0))→Falls M cr k l→s.sec l k∈cr k:=by
 intro l
 induction l with
 | nil=>intro _ h;exact h
 | cons n r ih =>
  intro hl h
  obtain⟨v,h1,h2,h3⟩:=hl n List.mem_cons_self
  rw[Aq h1]
  split
  ·next h0 =>
   rw[tu h0] at h2
   exact ih (fun i hi=>hl i (List.mem_cons_of_mem _ hi)) (h.2 h2)
  ·next h0=>exact h.1 _ h2 fun e=>h0 (h3 e)
theorem Sr{s:SV}{M:Int→Nat→List (List UInt8)}{cr:Nat→List (List UInt8)}{k:Nat}:∀ {l:List Int},(∀ n∈l,∃ v,s.file n=some v∧M n k=[v.sh k]∧(v.sh k=[45]→(v.t.getD (k / 4) (0,0)).1=0))→s.sec l k∈cr k→Falls M cr k l:=by
 intro l
 induction l with
 | nil=>intro _ h;exact h
 | cons n r ih =>
  intro hl h
  obtain⟨v,h1,h2,h3⟩:=hl n List.mem_cons_self
  rw[Aq h1] at h
  show(∀ s∈M n k,s≠[45]→s∈cr k)∧([45]∈M n k→Falls M cr k r)
  rw[h2]
  split at h
  ·next h0 =>
   rw[tu h0]
   exact⟨fun x hx h45=>absurd (List.mem_singleton.1 hx) h45,fun _=>ih (fun i hi=>hl i (List.mem_cons_of_mem _ hi)) h⟩
  ·next h0=>exact⟨fun x hx _=>by rw[List.mem_singleton.1 hx];exact h,fun hx=>absurd (h3 (List.mem_singleton.1 hx).symm) h0⟩
structure aW(s:SV)(C:Nat)(l:List Int)(cr:Nat→List (List UInt8)):Prop where
 ex:∃ M:Int→Nat→List (List UInt8),(∀ n∈l,∀ v,s.file n=some v→Told v (M n))∧∀ k,k<4*C→Falls M cr k l
theorem nO{s:SV}{C m:Nat}{l:List Int}(hg:s.good (C:Int) l)(hok:s.ok m){n:Int}(hn:n∈l){v:IV}(hf:s.file n=some v):v.t.length=C:=by
 obtain⟨u,h1,h2⟩:=hg n hn
 rw[hf] at h1
 cases h1
 have:=(hok.file hf).len
 omega
theorem aW.sec{s:SV}{C m:Nat}{l:List Int}{cr:Nat→List (List UInt8)}(h:aW s C l cr)(hg:s.good (C:Int) l)(hok:s.ok m){k:Nat}(hk:k<4*C):s.sec l k∈cr k:=by
 obtain⟨M,h1,h2⟩:=h.ex
 refine FU (fun n hn=>?_) (h2 k hk)
 obtain⟨v,hf,_⟩:=hg n hn
 have hl:=nO hg hok hn hf
 exact⟨v,hf,(h1 n hn v hf).now k (by omega),uJ (hok.file hf) (by omega)⟩
theorem aW.mono{s:SV}{C:Nat}{l:List Int}{cr cr':Nat→List (List UInt8)}(h:aW s C l cr)(hc:∀ k x,x∈cr k→x∈cr' k):aW s C l cr':=by
 obtain⟨M,h1,h2⟩:=h.ex
 exact⟨M,h1,fun k hk=>(h2 k hk).re (hc k) fun _ _ _ hs=>.inl hs⟩
theorem aW.other{s z:SV}{C:Nat}{l:List Int}{cr:Nat→List (List UInt8)}(h:aW s C l cr)(hz:∀ n∈l,z.file n=s.file n):aW z C l cr:=by
 obtain⟨M,h1,h2⟩:=h.ex
 exact⟨M,fun n hn v hv=>h1 n hn v (by rw[← hz n hn];exact hv),h2⟩
def lH(v u:IV):Prop:=∀ may may',Told v may→(∀ k x,x∈may k→x∈may' k)→(∀ k,k<4*v.t.length→u.sh k∈may' k)→Told u may'
theorem lH.write{v:IV}{U:List (Int × Int)}{m:Nat}(hs:Safe v U)(hok:v.ok m)(hm:m+10<1000000000)(c fr:Int)(s:ByteArray):lH v (v.write c fr s):=fun _ _ h hmay hn=>h.write hs hok hm c fr s hmay hn
theorem lH.clear{v:IV}{U:List (Int × Int)}{m:Nat}(hs:Safe v U)(hok:v.ok m)(hm:m+10<1000000000)(c:Int):lH v (v.clear c):=fun _ _ h hmay hn=>h.O8 hs hok hm c hmay hn
theorem lH.fill{v:IV}{U:List (Int × Int)}{m:Nat}(hs:Safe v U)(hok:v.ok m)(hm:m+10<1000000000)(c:Int)(s:ByteArray):lH v (v.fill c s):=fun _ _ h hmay hn=>h.Pq hs hok hm c s hmay hn
theorem lH.fail(v:IV)(n:Int):lH v { v with d:=v.d.failing n }:=fun _ _ h hmay _=>(h.mono hmay).fail n
theorem aW.act{s:SV}{C:Nat}{l:List Int}{cr cr':Nat→List (List UInt8)}{n:Int}{v u:IV}(h:aW s C l cr)(hf:s.file n=some v)(hl:n∈l→v.t.length=C)(ha:n∈l→lH v u)(hc:∀ k x,x∈cr k→x∈cr' k)
  (hsh:n∈l→∀ k,k<4*C→u.sh k=v.sh k∨u.sh k≠[45]∧u.sh k∈cr' k):aW (s.upd n.toNat u) C l cr':=by
 obtain⟨M,h1,h2⟩:=h.ex
 refine⟨fun i=>if i=n then fun k=>M n k++[u.sh k] else M i,fun i hi w hw=>?_,fun k hk=>(h2 k hk).re (hc k) fun i hi x hx=>?_⟩
 ·rw[SV.fJ hf] at hw
  by_cases e:i=n
  ·rw[if_pos e] at hw
   cases hw
   simp only[if_pos e]
   rw[e] at hi
   exact ha hi (M n) _ (h1 n hi v hf) (fun k x hx=>List.mem_append_left _ hx) fun k _=>List.mem_append_right _ (List.mem_singleton.2 rfl)
  ·rw[if_neg e] at hw
   simp only[if_neg e]
   exact h1 i hi w hw
 ·by_cases e:i=n
  ·simp only[if_pos e] at hx
   rw[e] at hi ⊢
   rcases List.mem_append.1 hx with h3|h3
   ·exact .inl h3
   ·rw[List.mem_singleton.1 h3]
    rcases hsh hi k hk with h4|h4
    ·rw[h4];exact .inl ((h1 n hi v hf).now k (by rw[hl hi];exact hk))
    ·exact .inr h4
  ·simp only[if_neg e] at hx
   exact .inl hx
theorem aW.root{s:SV}{C m m':Nat}{r:List Int}{cr cr':Nat→List (List UInt8)}{n:Int}{v u:IV}(h:aW s C (n::r) cr)(hT:Top s C m n r v)(hu:u.ok m')(hul:u.t.length=v.t.length)(ha:lH v u)(hc:∀ k x,x∈cr k→x∈cr' k)
  (h0:∀ c,(u.t.getD c (0,0)).1=0→(v.t.getD c (0,0)).1=0) (hs:∀ k,k<4*C→(s.upd n.toNat u).sec (n::r) k∈cr' k):aW (s.upd n.toNat u) C (n::r) cr':=by
 refine h.act hT.file (fun _=>hT.len) (fun _=>ha) hc fun _ k hk=>?_
 by_cases e:u.sh k=[45]
 ·left
  rw[e,tu (h0 _ (uJ hu (by rw[hul,hT.len];exact hk) e))]
 ·right
  have h1:=hs k hk
  rw[Aq (v:=u) (by rw[SV.fJ hT.file,if_pos rfl])] at h1
  split at h1
  ·next e0=>exact absurd (tu e0) e
  ·exact⟨e,h1⟩
theorem FD{v:IV}{c:Nat}{s:ByteArray}{c2:Nat}(h:((v.fill (c:Int) s).t.getD c2 (0,0)).1=0):(v.t.getD c2 (0,0)).1=0:=by
 by_cases hF:v.dJ (c:Int) s=0
 ·obtain⟨hc,q,hq⟩:=qO hF
  rw[hq,lD _ hc] at h
  split at h
  ·cases h
  ·exact h
 ·rw[qW hF] at h;exact h
theorem DU{v:IV}{c c2:Nat}(h:((v.clear (c:Int)).t.getD c2 (0,0)).1=0):(v.t.getD c2 (0,0)).1=0:=by
 by_cases hF:v.dX (c:Int)=0
 ·rw[(uK hF c2).1] at h
  split at h
  ·cases h
  ·exact h
 ·rw[uN hF] at h;exact h
theorem Ew{v:IV}{c f:Int}{s:ByteArray}{c2:Nat}(h:((v.write c f s).t.getD c2 (0,0)).1=0):(v.t.getD c2 (0,0)).1=0:=by rw[oP] at h;exact h
theorem TI(v:IV)(c:Nat)(s:ByteArray):(v.fill (c:Int) s).t.length=v.t.length:=by
 by_cases hF:v.dJ (c:Int) s=0
 ·obtain⟨hc,q,hq⟩:=qO hF
  rw[hq,List.length_set]
 ·rw[qW hF]
theorem Kr{v u:IV}{m m':Nat}(hv:v.ok m)(hu:u.ok m')(h:u.h=v.h):u.t.length=v.t.length:=by
 have h1:=hv.len
 have h2:=hu.len
 rw[h] at h2
 omega
theorem aW.lay{s:SV}{C m:Nat}{n:Int}{r:List Int}{v:IV}{U:List (Int × Int)}{cr cr':Nat→List (List UInt8)}(h:aW s C (n::r) cr)(hT:Top s C m n r v)(hS:Safe v U)(hm:m+10<1000000000)(c f:Nat)(t:ByteArray)(hc:∀ k x,x∈cr k→x∈cr' k)
  (hs:∀ k,k<4*C→(s.lay (n::r) c f t).1.sec (n::r) k∈cr' k):aW (s.lay (n::r) c f t).1 C (n::r) cr':=by
 have hL:s.lay (n::r) c f t=if (v.bH c).1=2 then (s.upd n.toNat (v.write c f t),v.dw c f t) else
   (s.upd n.toNat (v.fill c ((s.read (n::r) c).1.extract 0 (f*16)++t++(s.read (n::r) c).1.extract (f*16+t.size) 64)),v.dJ c ((s.read (n::r) c).1.extract 0 (f*16)++t++(s.read (n::r) c).1.extract (f*16+t.size) 64)):=by
  unfold SV.lay
  simp only
  rw[hT.file]
 rw[hL] at hs ⊢
 split
 ·next h2 =>
  rw[if_pos h2] at hs
  exact h.root hT (hT.vok.write _ _ _ (by omega)) (by rw[oP]) (.write hS hT.vok hm _ _ _) hc (fun _=>Ew) hs
 ·next h2 =>
  rw[if_neg h2] at hs
  exact h.root hT (hT.vok.fill _ _ (by omega)) (TI _ _ _) (.fill hS hT.vok hm _ _) hc (fun _=>FD) hs
theorem aW.bM{s:SV}{C m:Nat}{n:Int}{r:List Int}{v:IV}{U:List (Int × Int)}{cr cr':Nat→List (List UInt8)}(h:aW s C (n::r) cr)(hT:Top s C m n r v)(hS:Safe v U)(hm:m+10<1000000000)(p:Pt)(hc:∀ k x,x∈cr k→x∈cr' k)
  (hs:∀ k,k<4*C→(SV.bM (n::r) s p).1.sec (n::r) k∈cr' k):aW (SV.bM (n::r) s p).1 C (n::r) cr':=by
 have hW:SV.bM (n::r) s p=if p.n=4 then (s.upd n.toNat (v.clear p.c),v.dX p.c) else if (v.bH p.c).1=1 then (s,0) else s.lay (n::r) p.c p.f (eP (p.n*16)):=by
  unfold SV.bM
  simp only
  rw[hT.file]
 rw[hW] at hs ⊢
 split
 ·next h4 =>
  rw[if_pos h4] at hs
  exact h.root hT (hT.vok.clear _ (by omega)) (Kr hT.vok (hT.vok.clear _ (by omega)) (IV.rV _ _)) (.clear hS hT.vok hm _) hc (fun _=>DU) hs
 ·next h4 =>
  rw[if_neg h4] at hs
  split
  ·exact h.mono hc
  ·next h1 =>
   rw[if_neg h1] at hs
   exact h.lay hT hS hm _ _ _ hc hs
theorem aW.dY{op:SV→Pt→SV × Int}{C:Nat}{n:Int}{r:List Int}{fr N:Nat}{x:Nat→List UInt8}{cr:Nat→List (List UInt8)}(hN:fr+N≤4*C)(hx:∀ k,fr≤k→k<fr+N→x k∈cr k)
  (hop:∀(s:SV) (m:Nat) (p:Pt),fD s C m n r→m+10<1000000000→p.fits fr N C→Laid s (op s p).1 C (n::r) (fr+p.a) (fr+p.a+p.n) x ((op s p).2=0)∧fD (op s p).1 C (m+10) n r)
  (hpt:∀(s:SV) (m:Nat) (p:Pt),fD s C m n r→m+10<1000000000→aW s C (n::r) cr→(∀ k,k<4*C→(op s p).1.sec (n::r) k∈cr k)→aW (op s p).1 C (n::r) cr) :
  ∀(k a:Nat) (s:SV) (m:Nat),N-a≤k→fD s C m n r→m+10*k<1000000000→aW s C (n::r) cr→aW (dY op s (aN fr N a)).1 C (n::r) cr:=by
 intro k
 induction k with
 | zero =>
  intro a s m ha hs _ h
  rw[mQ (by omega)]
  exact h
 | succ k ih =>
  intro a s m ha hs hm h
  by_cases hlt:a<N
  ·have h1:=oJ (fr:=fr) hlt
   have hf:=vZ (C:=C) hlt hN
   rw[oD hlt,nM]
   generalize ep:eG fr N a=p at h1 hf ⊢
   have ea:p.a=a:=by rw[← ep];rfl
   have han:=hf.an
   obtain⟨l1,s1⟩:=hop s m p hs (by omega) hf
   have h2:aW (op s p).1 C (n::r) cr:=hpt s m p hs (by omega) h fun i hi=>by
    have hsec:s.sec (n::r) i∈cr i:=by obtain⟨v,U,hT,_⟩:=hs;exact h.sec hT.good hT.ok hi
    rcases l1.any i hi with e|⟨e1,e2⟩
    ·rw[e];exact hsec
    ·rw[e2];exact hx i (by omega) (by omega)
   split
   ·exact ih (a+p.n) (op s p).1 (m+10) (by omega) s1 (by omega) h2
   ·exact h2
  ·rw[mQ hlt]
   exact h
theorem aW.put{s:SV}{C m:Nat}{n:Int}{r:List Int}{cr cr':Nat→List (List UInt8)}(h:aW s C (n::r) cr)(hT:fD s C m n r){fr:Nat}{t:ByteArray}(ht:t.size % 16=0)(hf:s.bT (n::r) (fr:Int) ((t.size / 16:Nat):Int)=0)(hm:m+10*(t.size / 16)<1000000000)
  (hc:∀ k x,x∈cr k→x∈cr' k) (hx:∀ k,fr≤k→k<fr+t.size / 16→chunk t (k-fr)∈cr' k):aW (s.put (n::r) (fr:Int) t).1 C (n::r) cr':=by
 have hg:s.good (C:Int) (n::r):=by obtain⟨v,U,h1,_⟩:=hT;exact h1.good
 obtain⟨_,_,_,hr⟩:=SV.jw hg hf
 unfold SV.put
 rw[if_pos ht,if_pos hf,show((fr:Int)).toNat=fr by omega]
 exact aW.dY (op:=SV.iO (n::r) t) (x:=fun k=>chunk t (k-fr)) (by omega) hx (fun s m p hs hm hp=>⟨Ea hs (by omega) (by omega) hp,hs.lay (by omega) _ _ _⟩)
  (fun s m p hs hm h hv=>by obtain⟨v,U,hT,hS⟩:=hs;exact h.lay hT hS hm _ _ _ (fun _ _ e=>e) hv) (t.size / 16) 0 s m (by omega) hT hm (h.mono hc)
theorem aW.wipe{s:SV}{C m:Nat}{n:Int}{r:List Int}{cr cr':Nat→List (List UInt8)}(h:aW s C (n::r) cr)(hT:fD s C m n r){fr N:Nat}(hf:s.bT (n::r) (fr:Int) (N:Int)=0)(hm:m+10*N<1000000000)
  (hc:∀ k x,x∈cr k→x∈cr' k) (hx:∀ k,fr≤k→k<fr+N→noughts∈cr' k):aW (s.wipe (n::r) (fr:Int) (N:Int)).1 C (n::r) cr':=by
 have hg:s.good (C:Int) (n::r):=by obtain⟨v,U,h1,_⟩:=hT;exact h1.good
 obtain⟨_,_,_,hr⟩:=SV.jw hg hf
 unfold SV.wipe
 rw[if_pos hf,show((fr:Int)).toNat=fr by omega,show((N:Int)).toNat=N by omega]
 exact aW.dY (op:=SV.bM (n::r)) (x:=fun _=>noughts) (by omega) hx (fun s m p hs hm hp=>Aa hs (by omega) hp)
  (fun s m p hs hm h hv=>by obtain⟨v,U,hT,hS⟩:=hs;exact h.bM hT hS hm _ (fun _ _ e=>e) hv) N 0 s m (by omega) hT hm (h.mono hc)
theorem Pz{v:IV}{m:Nat}(hok:v.ok m)(hg:gQ v.h v.t)(hm:m+10≤1000000000){c:Nat}(hc:c<v.t.length){t:ByteArray}(ht:t.size=64){c2 j:Nat}(hc2:c2<v.t.length)(hj:j<4) :
  (v.mv (c:Int) t).1.sh (4*c2+j)=v.sh (4*c2+j)∨c=c2∧(v.mv (c:Int) t).1.sh (4*c2+j)=chunk t j:=by
 by_cases e:c=c2
 ·subst e
  by_cases hF:(v.mv (c:Int) t).2=0
  ·exact .inr ⟨rfl,(wV hok hg hm hc ht hF hj).2⟩
  ·by_cases h2:(v.t.getD c (0,0)).1=2
   ·unfold IV.mv at hF ⊢
    split
    ·next et =>
     rw[if_pos et] at hF
     exact .inl (um hF _)
    ·next et =>
     rw[if_pos (by rw[kJ];exact h2)]
     have h3:=((sQ hok hg hm (zY hc ht) h2 hc hj).2 rfl (by omega) (by omega)).2
     rw[Nat.sub_zero] at h3
     rcases h3 with h3|h3
     ·exact .inr ⟨rfl,h3⟩
     ·exact .inl h3
   ·exact .inl (Df hok hF h2 hc hj).2
 ·exact .inl (zl hok hg hm hc ht e hc2 hj).2
theorem lH.mv{v:IV}{U:List (Int × Int)}{m:Nat}(hs:Safe v U)(hok:v.ok m)(hm:m+10<1000000000)(c:Int)(t:ByteArray):lH v (v.mv c t).1:=by
 unfold IV.mv
 split
 ·exact .clear hs hok hm c
 ·split
  ·exact .write hs hok hm c 0 t
  ·exact .fill hs hok hm c t
theorem aW.move{s:SV}{C m:Nat}{l:List Int}{cr:Nat→List (List UInt8)}(h:aW s C l cr)(hg:s.good (C:Int) l)(hok:s.ok m)(hS:aZ s)(hm:m+10<1000000000)(n:Int){c:Nat}(hc:c<C){t:ByteArray}(ht:t.size=64)
  (hx:∀ j,j<4→chunk t j≠[45]∧chunk t j∈cr (4*c+j)):aW (s.move n (c:Int) t).1 C l cr:=by
 cases hf:s.file n with
 | none=>unfold SV.move;rw[hf];exact h
 | some v =>
  rw[qI hf]
  obtain⟨U,hs⟩:=hS.file hf
  have hv:=hok.file hf
  refine h.act hf (fun hn=>nO hg hok hn hf) (fun _=>.mv hs hv hm _ _) (fun _ _ e=>e) fun hn k hk=>?_
  have hl:=nO hg hok hn hf
  have:=Pz hv (hs.sub.good hs.good) (by omega) (c:=c) (by omega) ht (c2:=k / 4) (j:=k % 4) (by omega) (by omega)
  rw[show 4*(k / 4)+k % 4=k by omega] at this
  rcases this with h1|⟨h1,h2⟩
  ·exact .inl h1
  ·right
   have h3:=hx (k % 4) (by omega)
   rw[h1,show 4*(k / 4)+k % 4=k by omega] at h3
   rw[h2]
   exact h3
theorem Told.flat{v:IV}{U:List (Int × Int)}{m:Nat}(hs:Safe v U)(hok:v.ok m):Told v.flush (fun k=>[v.sh k]) :=
 uI (hs.flush hok.d.sn) hok.flush (fun i s h=>by
  rcases h with h|⟨x,hx,_⟩
  ·exact h
  ·cases hx) rfl fun k _=>List.mem_singleton.2 (Fj v k)
theorem aW.cZ{s:SV}{C m:Nat}{l:List Int}{cr:Nat→List (List UInt8)}(h:aW s C l cr)(hg:s.good (C:Int) l)(hok:s.ok m)(hS:aZ s)(n:Int):aW (s.cZ n) C l cr:=by
 unfold SV.cZ
 split
 ·exact h
 ·next v hf =>
  obtain⟨U,hs⟩:=hS.file hf
  refine h.act hf (fun hn=>nO hg hok hn hf) (fun _ may may' hT hmay hn=>?_) (fun _ _ e=>e) fun hn k hk=>.inl (Fj v k)
  exact hT.flush hs (hok.file hf) hn
theorem aW.bV{C m:Nat}{l:List Int}{cr:Nat→List (List UInt8)}:∀(q:List Int) {s:SV},aW s C l cr→s.good (C:Int) l→s.ok m→aZ s→aW (s.bV q) C l cr:=by
 intro q
 induction q with
 | nil=>intro s h _ _ _;exact h
 | cons n q ih=>intro s h hg hok hS;exact ih (h.cZ hg hok hS n) ((bI.cZ l s n).good hg) (hok.cZ n) (hS.cZ hok n)
end Go.Proofs.YtonhoahnieoebabGreatDoor
