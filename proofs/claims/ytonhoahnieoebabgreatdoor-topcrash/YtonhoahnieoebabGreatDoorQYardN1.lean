/- A crash (J7): the yard is opened, its chain is the same, and of each sector something that may be found is seen; a new yard; a yard of its chain's devices alone (W2). -/
import Derived.Test.YtonhoahnieoebabGreatDoorQTellActs
namespace Go.Proofs.YtonhoahnieoebabGreatDoor
open Go.RowKit
theorem Us{t:DV}{n m:Nat}(hp:t.pend=[])(h:t.fine n m):t.seen=t.fl:=by
 have:t.seen=nD t.pend t.fl t.pend.length:=h.sn
 rw[hp] at this
 exact this
theorem Rk{t:DV}{n m:Nat}(hp:t.pend=[])(h:t.fine n m):(ji t []).seen=t.seen:=by
 show fO t.pend [] t.fl t.pend.length=_
 rw[Us hp h,hp];rfl
theorem KE{y:YV}{n:Int}{v:IV}(h:y.s.file n=some v):y.dev n.toNat=v.d:=by
 unfold YV.dev
 rw[(SV.dK h).2.2]
theorem Bc{d:Nat→DV}{n:Int}(h0:0≤n)(h5:n<5)(hf:fG (d n.toNat)=0):(aS d).file n=some (fQ (d n.toNat)):=by
 unfold SV.file aS
 rw[if_pos ⟨h0,h5⟩,if_pos ⟨by omega,hf⟩]
theorem opens{y:YV}{C m:Nat}(h:YG y C m){d:Nat→DV}{t:DV}(hd:∀ i,(d i).fine (d i).fl.length m)(ht:t.fine t.fl.length m)(hdk:jG t y.kd.root)(hst:∀ n∈y.l,∀ v,y.s.file n=some v→fG (d n.toNat)=0∧aV (d n.toNat)=v.h) :
  mV d t=0∧YOk (kD d t) C m∧(kD d t).l=y.l∧(kD d t).kd.root=y.kd.root:=by
 have hS:bI y.l y.s (aS d):=fun n hn v hv=>by
  obtain⟨h0,h5,_⟩:=SV.dK hv
  obtain⟨e1,e2⟩:=hst n hn v hv
  exact⟨fQ (d n.toNat),Bc h0 h5 e1,e2⟩
 have hch:=h.ok.ch.over hS
 have hF:mV d t=0:=by
  unfold mV
  rw[if_pos hdk.ok,hdk.root,hch.walk]
 obtain⟨C',hY⟩:=N7 hd ht hF
 have hkr:(kD d t).kd.root=y.kd.root:=by
  show(if lY (aS d) (aF t)=true then aF t else ak (aF t).root).root=_
  split
  ·exact hdk.root
  ·exact hdk.root
 have hl:(kD d t).l=y.l:=by
  show((aS d).walk (aF t).root).1=_
  rw[hdk.root,hch.walk]
 have hC:C'=C:=by
  have h1:=hY.ch.gB
  rw[hkr] at h1
  have h2:=hch.gB
  have h3:(aS d).gB y.kd.root=(C':Int):=h1
  omega
 subst hC
 exact⟨hF,hY,hl,hkr⟩
theorem YT.crash{y:YV}{C m:Nat}{cr:Nat→List (List UInt8)}(h:YT y C m cr)(k:List (List Bool)) :
  y.Dn k=0∧(y.crash k).l=y.l∧(∀ i,i<4*C→(y.crash k).s.sec y.l i∈cr i)∧(∀ j,(y.crash k).j=some j→j.stage=2)∧∀ cr',(∀ i,i<4*C→(y.crash k).s.sec y.l i∈cr' i)→YT (y.crash k) C m cr':=by
 have hd:∀ i,(y.left k i).fine (y.left k i).fl.length m:=fun i=>yw (h.yg.ok.dev i) _
 have ht:(ji y.top []).fine (ji y.top []).fl.length m:=yw h.yg.ok.top _
 have hsn:=Rk h.aj.pend h.yg.ok.top
 have hdk:jG (ji y.top []) y.kd.root:=by
  refine⟨rfl,by rw[hsn];exact h.aj.ok,?_⟩
  have:=h.aj.root
  unfold aF at this ⊢
  rw[hsn];exact this
 have hv:∀ n,∀ v,y.s.file n=some v→y.left k n.toNat=DV.made (fO v.d.pend (k.getD n.toNat []) v.d.fl v.d.pend.length) v.d.wr:=fun n v hf=>by
  unfold YV.left
  rw[KE hf];rfl
 have hst:∀ n∈y.l,∀ v,y.s.file n=some v→fG (y.left k n.toNat)=0∧aV (y.left k n.toNat)=v.h:=fun n _ v hf=>by
  obtain⟨U,hs⟩:=h.yg.safe.file hf
  rw[hv n v hf]
  obtain⟨h1,h2,_⟩:=hs.opens (h.yg.ok.s.file hf) (d:=DV.made (fO v.d.pend (k.getD n.toNat []) v.d.fl v.d.pend.length) v.d.wr) (sF _ _ _ _) (Ik v.d _ _ (Nat.le_refl _))
  exact⟨h1,h2⟩
 obtain⟨hF,hY,hl,hkr⟩:=opens h.yg hd ht hdk hst
 have hY':YOk (y.crash k) C m:=hY
 have hl':(y.crash k).l=y.l:=hl
 have hgood:(y.crash k).s.good (C:Int) y.l:=by rw[← hl'];exact hY'.ch.good
 have hsec:∀ i,i<4*C→(y.crash k).s.sec y.l i∈cr i:=fun i hi=>by
  obtain⟨M,m1,m2⟩:=h.tells.ex
  refine FU (fun n hn=>?_) (m2 i hi)
  obtain⟨v,hf,_⟩:=h.yg.ok.ch.good n hn
  obtain⟨h0,h5,_⟩:=SV.dK hf
  obtain⟨U,hs⟩:=h.yg.safe.file hf
  have hfo:(y.crash k).s.file n=some (fQ (y.left k n.toNat)):=Bc h0 h5 (hst n hn v hf).1
  have hlen:=nO h.yg.ok.ch.good h.yg.ok.s hn hf
  refine⟨_,hfo,?_,uJ (hY'.s.file hfo) (by rw[nO hgood hY'.s hn hfo];exact hi)⟩
  have:=(m1 n hn v hf).crash hs (h.yg.ok.s.file hf) (k.getD n.toNat []) v.d.wr i (by omega)
  rw[hv n v hf]
  exact this
 have hflat:∀ i,(y.left k i).flat:=fun i=>Sz _ _
 have hsafe:aZ (y.crash k).s:=fun i v e=>by
  have e':aS (y.left k) i=some v:=e
  unfold aS at e'
  split at e'
  ·next hx=>cases e';exact⟨_,Ce (hd i) hx.2 (hflat i)⟩
  ·cases e'
 have hnew:∀ j,(y.crash k).j=some j→newF (aS (y.left k)) (aF (ji y.top []))=0∧j=iI (aS (y.left k)) (aF (ji y.top [])):=fun j hj=>by
  have hj':(if lY (aS (y.left k)) (aF (ji y.top []))=true then some (iI (aS (y.left k)) (aF (ji y.top []))) else none)=some j:=hj
  split at hj'
  ·next hg=>exact⟨(of_decide_eq_true hg).2.2,(Option.some.inj hj').symm⟩
  ·cases hj'
 have hjok:∀ j,(y.crash k).j=some j→mJ (y.crash k).s C j∧iP (y.crash k).s C j:=fun j hj=>by
  obtain⟨hn,e⟩:=hnew j hj
  have hk:=vJ hY'.s hn
  obtain⟨C',k1,k2,_⟩:=hk.jok
  have hC:C'=C:=by
   have hw:((y.crash k).s.walk (aF (ji y.top [])).root).1=y.l:=hl
   rw[hw,hgood.fU h.yg.ok.ch.ne] at k2
   omega
  subst hC
  rw[e]
  exact⟨ES hk k1,iP.new k1⟩
 refine⟨hF,hl',hsec,fun j hj=>?_,fun cr' hcr=>⟨⟨hY',hsafe,fun j hj _=>(hjok j hj).1⟩,?_,fun j hj _=>(hjok j hj).2,?_⟩⟩
 ·obtain⟨_,e⟩:=hnew j hj
  rw[e];rfl
 ·rw[hl']
  refine aW.flat hgood hY'.s (fun n hn v hf=>?_) hcr
  obtain⟨w,hw,_⟩:=h.yg.ok.ch.good n hn
  obtain⟨h0,h5,_⟩:=SV.dK hw
  have hfo:(y.crash k).s.file n=some (fQ (y.left k n.toNat)):=Bc h0 h5 (hst n hn w hw).1
  rw[hfo] at hf
  cases hf
  exact uI (Ce (hd n.toNat) (hst n hn w hw).1 (hflat n.toNat)) (hY'.s.file hfo) (hflat n.toNat) rfl fun k _=>List.mem_singleton.2 rfl
 ·have e:(y.crash k).kd.root=y.kd.root:=hkr
  rw[e]
  exact hdk
theorem YT.new{c p:Int}(hk:(newH c p).ok=true)(hn:aJ (newH c p)≤200):YT (jE c p) c.toNat 20 (fun _=>[noughts]):=by
 obtain⟨h1,_⟩:=EP hk hn
 obtain⟨d1,_,d3,d4⟩:=iH (jr c p) (ak 0)
 have hd:=qF (n:=aJ (newH c p)) (by unfold aJ aK;omega) hn
 have hlen:(fM (aJ (newH c p))).fl.length=aJ (newH c p):=List.length_replicate
 have htold:=BO hd hk (by rw[hlen];exact Nat.le_refl _) (by omega) (Aw hk (Nat.le_refl _))
 refine⟨h1,?_,fun j hj=>?_,?_⟩
 ·show aW (YV.aj _ _).s _ (YV.aj _ _).l _
  rw[d1,d3]
  refine⟨fun _ _=>[[45]],fun n hm v hv=>?_,fun k _=>⟨fun x hx h45=>absurd (List.mem_singleton.1 hx) h45,fun _=>List.mem_singleton.2 rfl⟩⟩
  have hm':n∈[(0:Int)]:=hm
  rw[List.mem_singleton] at hm'
  subst hm'
  have e:(jr c p).s.file 0=some (crV (fM (aJ (newH c p))) (newH c p)):=rfl
  rw[e] at hv
  cases hv
  exact htold
 ·have hj':(YV.aj _ _).j=some j:=hj
  rw[d4] at hj'
  cases hj'
 ·have hp:(jr c p).top.aQ=0:=by unfold DV.aQ;rw[if_neg (by show ¬(-1:Int)=0;decide)]
  have:=E5 (y:=jr c p) (qF (n:=1) (by omega) (by omega)) (jJ (r:=0) (by decide) (by decide)) hp
  have e:(jE c p).kd.root=0:=by
   show((jr c p).aj (ak 0)).kd.root=0
   rw[sH hp];rfl
  rw[e]
  exact this
open Go.Maps
structure Kno(y:YV)(C m:Nat)(g:GV)(L:Nat):Prop where
 saw:Saw y C m g L
 yt:YT y C m g.cr
theorem YT.more{y:YV}{C m m':Nat}{cr:Nat→List (List UInt8)}(h:YT y C m cr)(hm:m≤m'):YT y C m' cr:=⟨h.yg.more hm,h.tells,h.want,h.aj⟩
theorem Kno.more{y:YV}{C m m' L L':Nat}{g:GV}(h:Kno y C m g L)(hm:m≤m')(hL:L≤L'):Kno y C m' g L':=⟨h.saw.more hm hL,h.yt.more hm⟩
theorem Hg(g:GV)(fr:Nat)(t:ByteArray)(N:Nat):∀ k x,x∈g.cr k→x∈jy g fr t N k:=fun k x hx=>by
 unfold jy
 split
 ·exact List.mem_append_left _ hx
 ·exact hx
theorem Kno.act{y y':YV}{C m L:Nat}{g g':GV}{x:aG}(h:Kno y C m g L)(hr:iW (4*C) y g x y' g')(hx:qM x)(hC:C≤32)(hm:m+8000<1000000000):Kno y' C (m+2000) g' (L+1):=by
 refine⟨h.saw.act hr hx hC hm,?_⟩
 obtain⟨⟨a1,a2⟩,hs,b1,b2⟩:=hx
 have hyg:=h.saw.yg
 cases hr with
 | write hk =>
  by_cases hf:x.s.size % 16=0∧y.s.bT y.l x.a ((x.s.size / 16:Nat):Int)=0
  ·obtain⟨_,f0,_,_⟩:=SV.jw hyg.ok.ch.good hf.2
   have h1:y.dw x.a x.s≠1:=by
    unfold YV.dw
    rw[if_pos hf]
    exact zG hyg.ok.ch.good hyg.ok.s hf.1 hf.2 (by omega)
   rw[if_neg h1]
   obtain⟨fr,e⟩:∃ fr:Nat,x.a=(fr:Int):=⟨x.a.toNat,by omega⟩
   rw[e] at hf ⊢
   have hfr:((fr:Int)).toNat=fr:=Int.toNat_natCast fr
   rw[hfr]
   refine(h.yt.write (cr':=jy g fr x.s (x.s.size / 16)) hf.1 hf.2 (by omega) (Hg g fr x.s _) fun k k1 k2=>?_).more (by omega)
   unfold jy
   rw[if_pos ⟨k1,k2⟩]
   exact List.mem_append_right _ (List.mem_singleton.2 rfl)
  ·have e1:y.dw x.a x.s=1:=by unfold YV.dw;rw[if_neg hf]
   have e2:y.write x.a x.s=y:=by unfold YV.write;rw[if_neg hf]
   rw[if_pos e1,e2]
   exact h.yt.more (by omega)
 | wipe hk =>
  by_cases hf:y.s.bT y.l x.a x.b=0
  ·obtain⟨_,f0,n0,n1⟩:=SV.jw hyg.ok.ch.good hf
   have h1:y.jd x.a x.b≠1:=by
    unfold YV.jd
    rw[if_pos hf]
    exact yY hyg.ok.ch.good hyg.ok.s hf (by omega)
   rw[if_neg h1]
   obtain⟨fr,e⟩:∃ fr:Nat,x.a=(fr:Int):=⟨x.a.toNat,by omega⟩
   obtain⟨N,e'⟩:∃ N:Nat,x.b=(N:Int):=⟨x.b.toNat,by omega⟩
   rw[e,e'] at hf n1 ⊢
   have hfr:((fr:Int)).toNat=fr:=Int.toNat_natCast fr
   have hN:((N:Int)).toNat=N:=Int.toNat_natCast N
   rw[hfr,hN]
   refine(h.yt.wipe (cr':=jy g fr (eP (N*16)) N) hf (by omega) (Hg g fr _ _) fun k k1 k2=>?_).more (by omega)
   unfold jy
   rw[if_pos ⟨k1,k2⟩]
   exact List.mem_append_right _ (List.mem_singleton.2 (xK (n:=N) (i:=k-fr) (by omega)).symm)
  ·have e1:y.jd x.a x.b=1:=by unfold YV.jd;rw[if_neg hf]
   have e2:y.wipe x.a x.b=y:=by unfold YV.wipe;rw[if_neg hf]
   rw[if_pos e1,e2]
   exact h.yt.more (by omega)
 | flush hk =>
  refine(h.yt.flush (cr':=(kL g (4*C)).cr) fun k hk=>?_).more (by omega)
  show _∈(if k<4*C then g.now k else g.cr k)
  rw[if_pos hk]
  exact h.saw.now k hk
 | blank hk=>exact(h.yt.blank x.a (-1) (by omega)).more (by omega)
 | snap hk=>exact(h.yt.snap x.a (by omega)).more (by omega)
 | start hk=>exact(h.yt.start (d:=lV y x.a x.b x.c x.d) rfl (by omega)).more (by omega)
 | pivot hk=>exact(h.yt.pivot (by omega)).more (by omega)
 | cancel hk=>exact(h.yt.cancel (by omega)).more (by omega)
 | pause hk=>exact(h.yt.pause _).more (by omega)
 | tick hk=>exact(h.yt.tick _).more (by omega)
 | fail hk=>exact(h.yt.arm x.a x.b (by omega)).more (by omega)
 | step=>exact(h.yt.step (by omega)).more (by omega)
def vX(y:YV)(C:Nat)(g:GV):GV:=⟨fun k=>if k<4*C then [y.s.sec y.l k] else g.now k,fun k=>if k<4*C then [y.s.sec y.l k] else g.cr k⟩
theorem Kno.crash{y:YV}{C m L:Nat}{g:GV}(h:Kno y C m g L)(hL:1≤L)(k:List (List Bool)) :
  y.Dn k=0∧(y.crash k).l=y.l∧(∀ i,i<4*C→(y.crash k).s.sec (y.crash k).l i∈g.cr i)∧(∀ j,(y.crash k).j=some j→j.stage=2)∧Kno (y.crash k) C m (vX (y.crash k) C g) L:=by
 obtain⟨h1,h2,h3,h4,h5⟩:=h.yt.crash k
 have hy:=h5 (vX (y.crash k) C g).cr fun i hi=>by
  show _∈(if i<4*C then [(y.crash k).s.sec (y.crash k).l i] else g.cr i)
  rw[if_pos hi,h2]
  exact List.mem_singleton.2 rfl
 refine⟨h1,h2,fun i hi=>by rw[h2];exact h3 i hi,h4,⟨hy.yg,fun i hi=>?_,fun i hi=>?_⟩,hy⟩
 ·show _∈(if i<4*C then [(y.crash k).s.sec (y.crash k).l i] else g.now i)
  rw[if_pos hi]
  exact List.mem_singleton.2 rfl
 ·show(if i<4*C then [(y.crash k).s.sec (y.crash k).l i] else g.now i).length≤L∧(if i<4*C then [(y.crash k).s.sec (y.crash k).l i] else g.cr i).length≤L
  rw[if_pos hi,if_pos hi]
  exact⟨hL,hL⟩
theorem Kno.made{c p:Int}(hk:(newH c p).ok=true)(hn:aJ (newH c p)≤200):Kno (jE c p) c.toNat 20 ⟨fun _=>[noughts],fun _=>[noughts]⟩ 1:=⟨Saw.made hk hn,YT.new hk hn⟩
attribute [local go_sem ↓] Go.wp_at_zero Go.wp_at_succ
structure iK(w:World)(yp k:Nat)(hs:Nat→Hd)(D:DV)(tv:Value):Prop where
 blk:∃ cur,w.heap[yp]?=some (.cells cur 168 (0,0))∧cur.size=13∧(∀ i,i<k→cur[i]?=some (.pointer (some ⟨(hs i).p,0,none⟩)))∧cur[5]?=some tv∧(∀ i,i<5→cur[6+i]?=some (.pointer none))∧cur[11]?=some (.int .i64 0)∧cur[12]?=some (.pointer none)
 dev:∀ i,i<k→bF Gd.no w (hs i) D
 past:∀ i,i<k→∀ b,(hs i).fp b→yp<b
 apart:∀ i j,i<k→j<k→i≠j→∀ b,(hs i).fp b→¬(hs j).fp b
def setH(hs:Nat→Hd)(k:Nat)(h:Hd):Nat→Hd:=fun i=>if i=k then h else hs i
theorem iK.lt{w:World}{yp k:Nat}{hs:Nat→Hd}{D:DV}{tv:Value}(h:iK w yp k hs D tv):yp<w.heap.size:=by
 obtain⟨c,h1,_⟩:=h.blk
 exact lt_of_some h1
theorem iK.below{w w':World}{yp k:Nat}{hs:Nat→Hd}{D:DV}{tv:Value}(h:iK w yp k hs D tv)(hb:Below w.heap.size w w'):iK w' yp k hs D tv :=
 ⟨by rw[hb.block _ h.lt];exact h.blk,fun i hi=>(h.dev i hi).keep fun b hf=>hb.block b ((h.dev i hi).lt b hf).2,h.past,h.apart⟩
theorem iK.cell{w:World}{yp k:Nat}{hs:Nat→Hd}{D:DV}{tv:Value}(h:iK w yp k hs D tv)(i:Nat)(hi:i<13):(∃ v,w.cell? ⟨yp,i,none⟩=some v)∧w.frozen? ⟨yp,i,none⟩=false:=by
 obtain⟨c,h1,h2,_⟩:=h.blk
 refine⟨⟨c[i]'(by omega),?_⟩,frozen_of_row w yp i _ _ h1⟩
 rw[cell_of_row w yp i _ _ _ h1]
 exact Array.getElem?_eq_getElem (by omega)
theorem iK.Gl{w:World}{yp k:Nat}{hs:Nat→Hd}{D:DV}{tv:Value}(h:iK w yp k hs D tv){i:Nat}(hi:i<k):w.cell? ⟨yp,i,none⟩=some (.pointer (some ⟨(hs i).p,0,none⟩)):=by
 obtain⟨c,h1,h2,h3,_⟩:=h.blk
 rw[cell_of_row w yp i _ _ _ h1];exact h3 i hi
theorem iK.root{w:World}{yp k:Nat}{hs:Nat→Hd}{D:DV}{tv:Value}(h:iK w yp k hs D tv):w.cell? ⟨yp,11,none⟩=some (.int .i64 0):=by
 obtain⟨c,h1,h2,h3,h4,h5,h6,h7⟩:=h.blk
 rw[cell_of_row w yp 11 _ _ _ h1];exact h6
theorem iK.step{w w1:World}{yp k:Nat}{hs:Nat→Hd}{D:DV}{tv:Value}(h:iK w yp k hs D tv)(hk:k<5){d:Hd}(hb:Below w.heap.size w w1){N:Nat}(hN:w.heap.size≤N)(hd:aI N w1 d D) :
  iK (w1.setCell ⟨yp,k,none⟩ (.pointer (some ⟨d.p,0,none⟩))) yp (k+1) (setH hs k d) D tv:=by
 have h1:=h.below hb
 obtain⟨c,b1,b2,b3,b4,b5,b6,b7⟩:=h1.blk
 have hlt:=h.lt
 have hset:∀ b,b≠yp→(w1.setCell ⟨yp,k,none⟩ (.pointer (some ⟨d.p,0,none⟩))).heap[b]?=w1.heap[b]?:=fun b hb=>heap_setCell_other _ _ _ _ hb
 refine⟨⟨_,heap_setCell_same w1 yp k _ _ _ b1,by simpa using b2,fun i hi=>?_,?_,fun i hi=>?_,?_,?_⟩,fun i hi=>?_,fun i hi b hf=>?_,fun i j hi hj hij b hf hf2=>?_⟩
 ·unfold setH
  by_cases e:i=k
  ·rw[e,if_pos rfl,Array.getElem?_setIfInBounds_self_of_lt (by omega)]
  ·rw[if_neg e,Array.getElem?_setIfInBounds_ne (fun e2=>e e2.symm)];exact b3 i (by omega)
 ·rw[Array.getElem?_setIfInBounds_ne (by omega)];exact b4
 ·rw[Array.getElem?_setIfInBounds_ne (by omega)];exact b5 i hi
 ·rw[Array.getElem?_setIfInBounds_ne (by omega)];exact b6
 ·rw[Array.getElem?_setIfInBounds_ne (by omega)];exact b7
 ·unfold setH
  by_cases e:i=k
  ·rw[if_pos e]
   exact⟨hd.base0.keep fun b hf=>hset b (by have:=(hd.lt b hf).1;omega),fun _ _ e=>e⟩
  ·rw[if_neg e]
   exact(h1.dev i (by omega)).keep fun b hf=>hset b (by have:=h1.past i (by omega) b hf;omega)
 ·unfold setH at hf
  by_cases e:i=k
  ·rw[if_pos e] at hf;have:=(hd.lt b hf).1;omega
  ·rw[if_neg e] at hf;exact h.past i (by omega) b hf
 ·unfold setH at hf hf2
  by_cases e:i=k
  ·have e2:j≠k:=fun e2=>hij (by rw[e,e2])
   rw[if_pos e] at hf
   rw[if_neg e2] at hf2
   have q1:=(hd.lt b hf).1
   have q2:=((h.dev j (by omega)).lt b hf2).2
   omega
  ·rw[if_neg e] at hf
   by_cases e2:j=k
   ·rw[if_pos e2] at hf2
    have q1:=(hd.lt b hf2).1
    have q2:=((h.dev i (by omega)).lt b hf).2
    omega
   ·rw[if_neg e2] at hf2;exact h.apart i j (by omega) (by omega) hij b hf hf2
theorem iK.vg{w w1:World}{yp:Nat}{hs:Nat→Hd}{D:DV}{tv:Value}(h:iK w yp 5 hs D tv){d:Hd}(hb:Below w.heap.size w w1) :
  iK (w1.setCell ⟨yp,5,none⟩ (.pointer (some ⟨d.p,0,none⟩))) yp 5 hs D (.pointer (some ⟨d.p,0,none⟩)):=by
 have h1:=h.below hb
 obtain⟨c,b1,b2,b3,b4,b5,b6,b7⟩:=h1.blk
 have hset:∀ b,b≠yp→(w1.setCell ⟨yp,5,none⟩ (.pointer (some ⟨d.p,0,none⟩))).heap[b]?=w1.heap[b]?:=fun b hb=>heap_setCell_other _ _ _ _ hb
 refine⟨⟨_,heap_setCell_same w1 yp 5 _ _ _ b1,by simpa using b2,fun i hi=>?_,?_,fun i hi=>?_,?_,?_⟩,fun i hi=>?_,h1.past,h1.apart⟩
 ·rw[Array.getElem?_setIfInBounds_ne (by omega)];exact b3 i hi
 ·rw[Array.getElem?_setIfInBounds_self_of_lt (by omega)]
 ·rw[Array.getElem?_setIfInBounds_ne (by omega)];exact b5 i hi
 ·rw[Array.getElem?_setIfInBounds_ne (by omega)];exact b6
 ·rw[Array.getElem?_setIfInBounds_ne (by omega)];exact b7
 ·exact(h1.dev i hi).keep fun b hf=>hset b (by have:=h1.past i hi b hf;omega)
def vF:Jh:=⟨0,0,0,none,0⟩
theorem iK.dh{w w1:World}{yp:Nat}{hs:Nat→Hd}{c p:Int}{t:Hd}{x:Ih}(h:iK w yp 5 hs (fM (aJ (newH c p))) (.pointer (some ⟨t.p,0,none⟩)))(ht:bF Gd.no w t (fM 1))(htp:∀ b,t.fp b→yp<b)(hta:∀ i,i<5→∀ b,t.fp b→¬(hs i).fp b)
  (hm:Moved (hs 0).fp w x.fp w1) (hx:aC Gd.no w1 x (crV (fM (aJ (newH c p))) (newH c p))) (hp:x.h.p=(hs 0).p) :
  ay (w1.setCell ⟨yp,6,none⟩ (.pointer (some ⟨x.p,0,none⟩))) yp ⟨hs,t,fun _=>x,vF⟩ (jr c p)∧∀ b,fpY yp ⟨hs,t,fun _=>x,vF⟩ (jr c p) b→b=yp∨(∃ i,i<5∧(hs i).fp b)∨t.fp b∨w.heap.size≤b:=by
 obtain⟨cu,b1,b2,b3,b4,b5,b6,b7⟩:=h.blk
 have hyp:¬(hs 0).fp yp:=fun e=>by have:=h.past 0 (by omega) yp e;omega
 have hblk:w1.heap[yp]?=w.heap[yp]?:=hm.block h.lt hyp
 have hset:∀ b,b≠yp→(w1.setCell ⟨yp,6,none⟩ (.pointer (some ⟨x.p,0,none⟩))).heap[b]?=w1.heap[b]?:=fun b hb=>heap_setCell_other _ _ _ _ hb
 have hs0:(jr c p).s 0=some (crV (fM (aJ (newH c p))) (newH c p)):=rfl
 have hsn:∀ i,i≠0→(jr c p).s i=none:=fun i hi=>by
  have e:(jr c p).s i=if i=0 then some (crV (fM (aJ (newH c p))) (newH c p)) else none:=rfl
  rw[e,if_neg hi]
 have hfx:∀ b,x.fp b→(hs 0).fp b∨w.heap.size≤b:=fun b e=>hm.new b e
 have hxy:∀ b,x.fp b→b≠yp:=fun b e e2=>by
  rcases hfx b e with e3|e3
  ·exact hyp (by rw[← e2];exact e3)
  ·have:=h.lt;omega
 have hkeep:∀ i,i<5→i≠0→∀ b,(hs i).fp b→(w1.setCell ⟨yp,6,none⟩ (.pointer (some ⟨x.p,0,none⟩))).heap[b]?=w.heap[b]?:=fun i hi h0 b hf=>by
  rw[hset b (by have:=h.past i hi b hf;omega)]
  exact hm.block ((h.dev i hi).lt b hf).2 (fun e=>h.apart i 0 hi (by omega) h0 b hf e)
 refine⟨⟨⟨_,heap_setCell_same w1 yp 6 _ _ _ (hblk.trans b1),fun i hi=>?_,?_,fun i hi=>?_,?_,?_⟩,fun i v hi hv=>?_,fun i hi hv=>?_,?_,fun i j hi hj hij b hf hf2=>?_,fun i hi b hf hf2=>?_,fun j hj=>(by cases hj)⟩,fun b hf=>?_⟩
 ·rw[Array.getElem?_setIfInBounds_ne (by omega),b3 i hi]
  by_cases e:i=0
  ·subst e;rw[Yh.oZ hs0];show some (Value.pointer (some ⟨(hs 0).p,0,none⟩))=some (Value.pointer (some ⟨x.h.p,0,none⟩));rw[hp]
  ·rw[Yh.dp_none (hsn i e)]
 ·rw[Array.getElem?_setIfInBounds_ne (by omega)];exact b4
 ·by_cases e:i=0
  ·subst e;rw[Array.getElem?_setIfInBounds_self_of_lt (by omega),hs0];rfl
  ·rw[Array.getElem?_setIfInBounds_ne (by omega),b5 i hi,hsn i e];rfl
 ·rw[Array.getElem?_setIfInBounds_ne (by omega)];exact b6
 ·rw[Array.getElem?_setIfInBounds_ne (by omega)];exact b7
 ·by_cases e:i=0
  ·subst e
   rw[hs0] at hv
   cases hv
   exact hx.lW fun b hf=>hset b (hxy b hf)
  ·rw[hsn i e] at hv;cases hv
 ·by_cases e:i=0
  ·subst e;rw[hs0] at hv;cases hv
  ·exact(h.dev i hi).keep fun b hf=>hkeep i hi e b hf
 ·exact ht.keep fun b hf=>by
   rw[hset b (by have:=htp b hf;omega)]
   exact hm.block (ht.lt b hf).2 (hta 0 (by omega) b hf)
 ·have key:∀ i,i<5→i≠0→(hs i).fp b→¬x.fp b:=fun i hi h0 e e2=>by
   rcases hfx b e2 with e3|e3
   ·exact h.apart i 0 hi (by omega) h0 b e e3
   ·have:=((h.dev i hi).lt b e).2;omega
  by_cases ei:i=0
  ·have ej:j≠0:=fun e=>hij (by rw[ei,e])
   subst ei
   rw[Yh.gZ hs0] at hf
   rw[Yh.iq (hsn j ej)] at hf2
   exact key j hj ej hf2 hf
  ·rw[Yh.iq (hsn i ei)] at hf
   by_cases ej:j=0
   ·subst ej;rw[Yh.gZ hs0] at hf2;exact key i hi ei hf hf2
   ·rw[Yh.iq (hsn j ej)] at hf2;exact h.apart i j hi hj hij b hf hf2
 ·by_cases ei:i=0
  ·subst ei
   rw[Yh.gZ hs0] at hf2
   rcases hfx b hf2 with e3|e3
   ·exact hta 0 (by omega) b hf e3
   ·have:=(ht.lt b hf).2;omega
  ·rw[Yh.iq (hsn i ei)] at hf2;exact hta i hi b hf hf2
 ·rcases hf with e|⟨i,hi,e⟩|e|e
  ·exact .inl e
  ·by_cases ei:i=0
   ·subst ei
    rw[Yh.gZ hs0] at e
    rcases hfx b e with e3|e3
    ·exact .inr (.inl ⟨0,by omega,e3⟩)
    ·exact .inr (.inr (.inr e3))
   ·rw[Yh.iq (hsn i ei)] at e;exact .inr (.inl ⟨i,hi,e⟩)
  ·exact .inr (.inr (.inl e))
  ·exact absurd rfl e.1
end Go.Proofs.YtonhoahnieoebabGreatDoor
