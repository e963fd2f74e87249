/- A yard that is being opened (J2): its block, the copies of devices that it has already, and the images that stand on them. -/
import Derived.Test.YtonhoahnieoebabGreatDoorQADevCopy2
set_option maxHeartbeats 2000000
set_option maxRecDepth 100000
namespace Go.Proofs.YtonhoahnieoebabGreatDoor
open Go.RowKit Go.Maps
structure YOp(w:World)(B yp k q:Nat)(Y:Yh)(d:Nat→DV)(t:DV):Prop where
 blk:∃ cur,w.heap[yp]?=some (.cells cur 168 (0,0))∧cur.size=13∧(∀ i,i<k→cur[i]?=some (.pointer (some ⟨Y.dp (aY d) i,0,none⟩)))∧cur[5]?=some (.pointer (some ⟨Y.tp.p,0,none⟩)) ∧
  (∀ i,i<k→cur[6+i]?=some (fJ (Y.xs i) (aY d i)))∧(∀ i,q≤i→i<5→cur[6+i]?=some (.pointer none))∧cur[11]?=some (.int .i64 0)∧cur[12]?=some (.pointer none)
 img:∀ i v,i<k→aY d i=some v→aC Gd.no w (Y.xs i) v
 dev:∀ i,i<k→aY d i=none→bg Gd.no w (Y.ds i) (d i)
 top:bg Gd.no w Y.tp t
 apart:∀ i j,i<k→j<k→i≠j→∀ b,Y.fpF (aY d) i b→¬Y.fpF (aY d) j b
 apTop:∀ i,i<k→∀ b,Y.tp.fp b→¬Y.fpF (aY d) i b
 past:∀ i,i<k→∀ b,Y.fpF (aY d) i b→B≤b∧b≠yp
 pastT:∀ b,Y.tp.fp b→B≤b∧b≠yp
 pastY:B≤yp
theorem YOp.lt{w:World}{B yp k q:Nat}{Y:Yh}{d:Nat→DV}{t:DV}(h:YOp w B yp k q Y d t):yp<w.heap.size:=by
 obtain⟨c,h1,_⟩:=h.blk;exact lt_of_some h1
theorem YOp.iT{w:World}{B yp k q:Nat}{Y:Yh}{d:Nat→DV}{t:DV}(h:YOp w B yp k q Y d t){i b:Nat}(hi:i<k)(hb:Y.fpF (aY d) i b):b<w.heap.size:=by
 cases hs:aY d i with
 | none=>rw[Yh.gX hs] at hb;exact((h.dev i hi hs).lt b hb).2
 | some v=>rw[Yh.gY hs] at hb;exact(h.img i v hi hs).jJ b hb
theorem YOp.keep{w w':World}{B yp k q:Nat}{Y:Yh}{d:Nat→DV}{t:DV}(h:YOp w B yp k q Y d t)(h0:w'.heap[yp]?=w.heap[yp]?)(hf:∀ i,i<k→∀ b,Y.fpF (aY d) i b→w'.heap[b]?=w.heap[b]?)(ht:∀ b,Y.tp.fp b→w'.heap[b]?=w.heap[b]?):YOp w' B yp k q Y d t :=
 ⟨by rw[h0];exact h.blk,fun i v hi hv=>(h.img i v hi hv).lT fun b hb=>hf i hi b (by rw[Yh.gY hv];exact hb),fun i hi hv=>(h.dev i hi hv).keep fun b hb=>hf i hi b (by rw[Yh.gX hv];exact hb),h.top.keep ht,h.apart,h.apTop,h.past,h.pastT,h.pastY⟩
theorem YOp.below{w w':World}{B yp k q:Nat}{Y:Yh}{d:Nat→DV}{t:DV}(h:YOp w B yp k q Y d t)(hb:Below w.heap.size w w'):YOp w' B yp k q Y d t :=
 h.keep (hb.block _ h.lt) (fun _ hi b e=>hb.block b (h.iT hi e)) fun b e=>hb.block b (h.top.lt b e).2
theorem YOp.cell{w:World}{B yp k q:Nat}{Y:Yh}{d:Nat→DV}{t:DV}(h:YOp w B yp k q Y d t)(i:Nat)(hi:i<13):(∃ v,w.cell? ⟨yp,i,none⟩=some v)∧w.frozen? ⟨yp,i,none⟩=false:=by
 obtain⟨c,h1,h2,_⟩:=h.blk;refine⟨⟨c[i]'(by omega),?_⟩,frozen_of_row w yp i _ _ h1⟩
 rw[cell_of_row w yp i _ _ _ h1];exact Array.getElem?_eq_getElem (by omega)
theorem YOp.Tf{w:World}{B yp k q:Nat}{Y:Yh}{d:Nat→DV}{t:DV}(h:YOp w B yp k q Y d t):w.cell? ⟨yp,5,none⟩=some (.pointer (some ⟨Y.tp.p,0,none⟩)):=by
 obtain⟨c,h1,h2,h3,h4,_⟩:=h.blk;rw[cell_of_row w yp 5 _ _ _ h1];exact h4
theorem YOp.Q9{w:World}{B yp k q:Nat}{Y:Yh}{d:Nat→DV}{t:DV}(h:YOp w B yp k q Y d t)(hk:k<5)(v:Value):YOp (w.setCell ⟨yp,k,none⟩ v) B yp k q Y d t:=by
 obtain⟨c,b1,b2,b3,b4,b5,b6,b7,b8⟩:=h.blk;have hset:∀ b,b≠yp→(w.setCell ⟨yp,k,none⟩ v).heap[b]?=w.heap[b]?:=fun b hb=>heap_setCell_other _ _ _ _ hb
 refine⟨⟨_,heap_setCell_same w yp k _ _ _ b1,by simpa using b2,fun i hi=>?_,?_,fun i hi=>?_,fun i hi h5=>?_,?_,?_⟩,fun i u hi hv=>(h.img i u hi hv).lT fun b hb=>hset b (h.past i hi b (by rw[Yh.gY hv];exact hb)).2,fun i hi hv=>(h.dev i hi hv).keep fun b hb=>hset b (h.past i hi b (by rw[Yh.gX hv];exact hb)).2,h.top.keep fun b hb=>hset b (h.pastT b hb).2,h.apart,h.apTop,h.past,h.pastT,h.pastY⟩
 ·rw[Array.getElem?_setIfInBounds_ne (by omega)];exact b3 i hi
 ·rw[Array.getElem?_setIfInBounds_ne (by omega)];exact b4
 ·rw[Array.getElem?_setIfInBounds_ne (by omega)];exact b5 i hi
 ·rw[Array.getElem?_setIfInBounds_ne (by omega)];exact b6 i hi h5
 ·rw[Array.getElem?_setIfInBounds_ne (by omega)];exact b7
 ·rw[Array.getElem?_setIfInBounds_ne (by omega)];exact b8
theorem YOp.Rj{w:World}{B yp k:Nat}{Y:Yh}{d:Nat→DV}{t:DV}(h:YOp w B yp k k Y d t)(_hk:k<5)(v:Value):YOp (w.setCell ⟨yp,6+k,none⟩ v) B yp k (k+1) Y d t:=by
 obtain⟨c,b1,b2,b3,b4,b5,b6,b7,b8⟩:=h.blk;have hset:∀ b,b≠yp→(w.setCell ⟨yp,6+k,none⟩ v).heap[b]?=w.heap[b]?:=fun b hb=>heap_setCell_other _ _ _ _ hb
 refine⟨⟨_,heap_setCell_same w yp (6+k) _ _ _ b1,by simpa using b2,fun i hi=>?_,?_,fun i hi=>?_,fun i hi h5=>?_,?_,?_⟩,fun i u hi hv=>(h.img i u hi hv).lT fun b hb=>hset b (h.past i hi b (by rw[Yh.gY hv];exact hb)).2,fun i hi hv=>(h.dev i hi hv).keep fun b hb=>hset b (h.past i hi b (by rw[Yh.gX hv];exact hb)).2,h.top.keep fun b hb=>hset b (h.pastT b hb).2,h.apart,h.apTop,h.past,h.pastT,h.pastY⟩
 ·rw[Array.getElem?_setIfInBounds_ne (by omega)];exact b3 i hi
 ·rw[Array.getElem?_setIfInBounds_ne (by omega)];exact b4
 ·rw[Array.getElem?_setIfInBounds_ne (by omega)];exact b5 i hi
 ·rw[Array.getElem?_setIfInBounds_ne (by omega)];exact b6 i (by omega) h5
 ·rw[Array.getElem?_setIfInBounds_ne (by omega)];exact b7
 ·rw[Array.getElem?_setIfInBounds_ne (by omega)];exact b8
theorem YOp.next{w:World}{B yp k q:Nat}{Y Y':Yh}{d:Nat→DV}{t:DV}(h:YOp w B yp k q Y d t)(hq:q≤k+1)(_hk:k<5)(hY:Y'.tp=Y.tp∧∀ i,i≠k→Y'.ds i=Y.ds i∧Y'.xs i=Y.xs i)
  (hc:w.cell? ⟨yp,k,none⟩=some (.pointer (some ⟨Y'.dp (aY d) k,0,none⟩))) (hs:w.cell? ⟨yp,6+k,none⟩=some (fJ (Y'.xs k) (aY d k))) (hi:∀ v,aY d k=some v→aC Gd.no w (Y'.xs k) v) (hd:aY d k=none→bg Gd.no w (Y'.ds k) (d k))
  (hf:∀ b,Y'.fpF (aY d) k b→B≤b∧b≠yp∧¬Y.tp.fp b∧∀ i,i<k→¬Y.fpF (aY d) i b):YOp w B yp (k+1) (k+1) Y' d t:=by
 obtain⟨c,b1,b2,b3,b4,b5,b6,b7,b8⟩:=h.blk;obtain⟨ht,hY⟩:=hY;have cel:∀ i,w.cell? ⟨yp,i,none⟩=c[i]?:=fun i=>cell_of_row w yp _ _ _ _ b1
 have hdp:∀ i,i≠k→Y'.dp (aY d) i=Y.dp (aY d) i:=fun i e=>by unfold Yh.dp;rw[(hY i e).1,(hY i e).2]
 have hfp:∀ i,i≠k→∀ b,Y'.fpF (aY d) i b=Y.fpF (aY d) i b:=fun i e b=>by unfold Yh.fpF;rw[(hY i e).1,(hY i e).2]
 refine⟨⟨c,b1,b2,fun i hi2=>?_,by rw[ht];exact b4,fun i hi2=>?_,fun i hi2 h5=>b6 i (by omega) h5,b7,b8⟩,fun i v hi2 hv=>?_,fun i hi2 hv=>?_,by rw[ht];exact h.top,fun i j hi2 hj2 hij b e1 e2=>?_,fun i hi2 b e1 e2=>?_,fun i hi2 b e1=>?_,by rw[ht];exact h.pastT,h.pastY⟩
 ·by_cases e:i=k
  ·rw[e,← cel];exact hc
  ·rw[hdp i e];exact b3 i (by omega)
 ·by_cases e:i=k
  ·rw[e,← cel];exact hs
  ·rw[(hY i e).2];exact b5 i (by omega)
 ·by_cases e:i=k
  ·rw[e] at hv ⊢;exact hi v hv
  ·rw[(hY i e).2];exact h.img i v (by omega) hv
 ·by_cases e:i=k
  ·rw[e] at hv ⊢;exact hd hv
  ·rw[(hY i e).1];exact h.dev i (by omega) hv
 ·by_cases ei:i=k
  ·have ej:j≠k:=fun e=>hij (by rw[ei,e])
   rw[ei] at e1;rw[hfp j ej] at e2;exact(hf b e1).2.2.2 j (by omega) e2
  ·rw[hfp i ei] at e1
   by_cases ej:j=k
   ·rw[ej] at e2;exact(hf b e2).2.2.2 i (by omega) e1
   ·rw[hfp j ej] at e2;exact h.apart i j (by omega) (by omega) hij b e1 e2
 ·rw[ht] at e1
  by_cases ei:i=k
  ·rw[ei] at e2;exact(hf b e2).2.2.1 e1
  ·rw[hfp i ei] at e2;exact h.apTop i (by omega) b e1 e2
 ·by_cases ei:i=k
  ·rw[ei] at e1;exact⟨(hf b e1).1,(hf b e1).2.1⟩
  ·rw[hfp i ei] at e1;exact h.past i (by omega) b e1
structure oq(w:World)(B yp k:Nat)(Y:Yh)(d:Nat→DV)(t:DV)(h:Hd):Prop where
 op:YOp w B yp k k Y d t
 dev:bg Gd.no w h (d k)
 cell:w.cell? ⟨yp,k,none⟩=some (.pointer (some ⟨h.p,0,none⟩))
 fp:∀ b,h.fp b→B≤b∧b≠yp∧¬Y.tp.fp b∧∀ i,i<k→¬Y.fpF (aY d) i b
theorem YOp.copied{w w1:World}{B yp k:Nat}{Y:Yh}{d:Nat→DV}{t:DV}{h:Hd}(ho:YOp w B yp k k Y d t)(hk:k<5)(hB:B≤w.heap.size)(hb:Below w.heap.size w w1)(hd:aH w.heap.size w1 h (d k)):oq (w1.setCell ⟨yp,k,none⟩ (.pointer (some ⟨h.p,0,none⟩))) B yp k Y d t h:=by
 have h1:=ho.below hb;have hl:=ho.lt;have hne:∀ b,h.fp b→b≠yp:=fun b e e2=>by have:=(hd.lt b e).1;omega
 obtain⟨c,b1,b2,_⟩:=h1.blk;refine⟨h1.Q9 hk _,⟨hd.base0.keep fun b e=>heap_setCell_other _ _ _ _ (hne b e),fun _ _ e=>e⟩,?_,fun b e=>⟨?_,hne b e,fun e2=>?_,fun i hi e2=>?_⟩⟩
 ·rw[cell_of_row _ yp k _ _ _ (heap_setCell_same w1 yp k _ _ _ b1),Array.getElem?_setIfInBounds_self_of_lt (by omega)]
 ·have:=(hd.lt b e).1;omega
 ·have:=(hd.lt b e).1;have:=(ho.top.lt b e2).2;omega
 ·have:=(hd.lt b e).1;have:=ho.iT hi e2;omega
theorem oq.below{w w':World}{B yp k:Nat}{Y:Yh}{d:Nat→DV}{t:DV}{h:Hd}(hc:oq w B yp k Y d t h)(hb:Below w.heap.size w w'):oq w' B yp k Y d t h :=
 ⟨hc.op.below hb,hc.dev.keep fun b e=>hb.block b (hc.dev.lt b e).2,(World.cell?_of_block (hb.block _ hc.op.lt)).trans hc.cell,hc.fp⟩
theorem oq.OG{w:World}{B yp k:Nat}{Y:Yh}{d:Nat→DV}{t:DV}{h:Hd}(hc:oq w B yp k Y d t h)(hk:k<5)(hf:fO (d k)≠0):∃ Y',YOp w B yp (k+1) (k+1) Y' d t:=by
 have hs:aY d k=none:=by unfold aY;rw[if_neg (fun e=>hf e.2)]
 obtain⟨c,b1,b2,b3,b4,b5,b6,b7,b8⟩:=hc.op.blk;refine⟨{ Y with ds:=fun i=>if i=k then h else Y.ds i },hc.op.next (by omega) hk ⟨rfl,fun i e=>⟨if_neg e,rfl⟩⟩ ?_ ?_ (fun v e=>by rw[hs] at e;cases e) (fun _=>?_) fun b e=>?_⟩
 ·rw[Yh.dp_none hs]
  show _=some (Value.pointer (some ⟨(if k=k then h else Y.ds k).p,0,none⟩))
  rw[if_pos rfl];exact hc.cell
 ·rw[hs,cell_of_row w yp (6+k) _ _ _ b1];exact b6 k (Nat.le_refl _) hk
 ·show bg Gd.no w (if k=k then h else Y.ds k) (d k)
  rw[if_pos rfl];exact hc.dev
 ·rw[Yh.gX hs] at e
  have e':(if k=k then h else Y.ds k).fp b:=e
  rw[if_pos rfl] at e';exact hc.fp b e'
theorem oq.image{w w':World}{B yp k:Nat}{Y:Yh}{d:Nat→DV}{t:DV}{h:Hd}(hc:oq w B yp k Y d t h)(hk:k<5)(hB:B≤w.heap.size)(hf:fO (d k)=0)(hb:Below w.heap.size w w'){x:Ih}(hx:x.h=h)(hi:aC (Gd.but w h.fp) w' x (jB (d k))) :
  ∃ Y',YOp (w'.setCell ⟨yp,6+k,none⟩ (.pointer (some ⟨x.p,0,none⟩))) B yp (k+1) (k+1) Y' d t:=by
 have hs:aY d k=some (jB (d k)):=by unfold aY;rw[if_pos ⟨hk,hf⟩]
 have h1:=hc.below hb;obtain⟨c,b1,b2,_⟩:=h1.op.blk;have hl:=hc.op.lt
 have hfx:∀ b,x.fp b→h.fp b∨w.heap.size≤b:=fun b e=>by
  have:=hi.out b e
  rcases Nat.lt_or_ge b w.heap.size with q|q
  ·exact .inl (Classical.byContradiction fun e2=>this ⟨q,e2⟩)
  ·exact .inr q
 have hfp:∀ b,x.fp b→B≤b∧b≠yp∧¬Y.tp.fp b∧∀ i,i<k→¬Y.fpF (aY d) i b:=fun b e=>by
  rcases hfx b e with q|q
  ·exact hc.fp b q
  ·exact⟨by omega,by omega,fun e2=>by have:=(hc.op.top.lt b e2).2;omega,fun i hi e2=>by have:=hc.op.iT hi e2;omega⟩
 have hset:∀ b,b≠yp→(w'.setCell ⟨yp,6+k,none⟩ (.pointer (some ⟨x.p,0,none⟩))).heap[b]?=w'.heap[b]?:=fun b hb=>heap_setCell_other _ _ _ _ hb
 refine⟨{ Y with xs:=fun i=>if i=k then x else Y.xs i },(h1.op.Rj hk _).next (by omega) hk ⟨rfl,fun i e=>⟨rfl,if_neg e⟩⟩ ?_ ?_ (fun v e=>?_) (fun e=>by rw[hs] at e;cases e) fun b e=>?_⟩
 ·rw[Yh.o8 hs,World.cell?_setCell_other _ _ _ _ (by intro e;injection e with _ e;omega)]
  show _=some (Value.pointer (some ⟨(if k=k then x else Y.xs k).h.p,0,none⟩))
  rw[if_pos rfl,hx];exact h1.cell
 ·rw[hs,cell_of_row _ yp (6+k) _ _ _ (heap_setCell_same w' yp (6+k) _ _ _ b1),Array.getElem?_setIfInBounds_self_of_lt (by omega)]
  show _=some (fJ (if k=k then x else Y.xs k) (some _))
  rw[if_pos rfl];rfl
 ·rw[hs] at e
  cases e
  show aC Gd.no _ (if k=k then x else Y.xs k) _
  rw[if_pos rfl];exact(hi.re fun _ _ e=>e).lT fun b e=>hset b (hfp b e).2.1
 ·rw[Yh.gY hs] at e
  have e':(if k=k then x else Y.xs k).fp b:=e
  rw[if_pos rfl] at e';exact hfp b e'
def xq(d:Nat→DV)(t:DV):YV:=⟨d,t,aY d,ak 0,[],none⟩
theorem YOp.bW{w:World}{B yp:Nat}{Y:Yh}{d:Nat→DV}{t:DV}(h:YOp w B yp 5 5 Y d t):ay w yp { Y with jb:=uw } (xq d t)∧∀ b,fpY yp { Y with jb:=uw } (xq d t) b→B≤b:=by
 obtain⟨c,b1,b2,b3,b4,b5,b6,b7,b8⟩:=h.blk;refine⟨⟨⟨c,b1,b3,b4,b5,b7,b8⟩,h.img,h.dev,h.top,h.apart,h.apTop,fun j hj=>by cases hj⟩,fun b e=>?_⟩
 rcases e with e|⟨i,hi,e⟩|e|e
 ·rw[e];exact h.pastY
 ·exact(h.past i hi b e).1
 ·exact(h.pastT b e).1
 ·exact absurd rfl e.1
attribute [local go_sem ↓] Go.wp_at_zero Go.wp_at_succ
theorem MW:(Tryz.prog.info? 74).map (fun i=>(i.zero,i.size,i.bytes))=some (some (.pointer none),1,8):=by kernel_rfl
def mD(w:World)(g o n:Nat)(hs:Nat→Hd):Prop:=∀ k,k<n→w.cell? ⟨g,o+k,none⟩=some (.pointer (some ⟨(hs k).p,0,none⟩))
theorem mD.lt{w:World}{g o n:Nat}{hs:Nat→Hd}(h:mD w g o n hs)(hn:0<n):g<w.heap.size:=World.block_lt_of_cell? _ _ (h 0 hn)
theorem mD.keep{w w':World}{g o n:Nat}{hs:Nat→Hd}(h:mD w g o n hs)(e:w'.heap[g]?=w.heap[g]?):mD w' g o n hs:=fun k hk=>by rw[World.cell?_of_block e];exact h k hk
theorem mD.below{w w':World}{g o n:Nat}{hs:Nat→Hd}(h:mD w g o n hs)(hn:0<n)(hb:Below w.heap.size w w'):mD w' g o n hs:=h.keep (hb.block g (h.lt hn))
theorem JO{g o n cap:Nat}{hs:Nat→Hd}(w:World)(h:mD w g o n hs)(h5:n≤100) :
  Calls Tryz.prog 227 #[.slice (some ⟨g,o,none⟩) n cap,.pointer none] w fun e w'=>e=.returned (.int .i64 (-1))∧w'=w:=by
 have HP:=ah h;clear h;go_enter Tryz.func227,Tryz.ntmps227
 go_wp2
 go_loopw [8] (fun i wr=>∃ k:Nat,k≤n∧i=.int .i64 (k:Int)∧wr=w) (fun i _=>n-(intOf i).toNat)
 case atStart=>exact⟨0,Nat.zero_le _,rfl,rfl⟩
 case round =>
  obtain⟨k,hk,rfl,rfl⟩:=hrel;by_cases hlt:k<n
  ·have e1:=HP.out k hlt
   have k0:(0:Int)≤(k:Int):=by omega
   have k1:(k:Int)<(n:Int):=by omega
   have k2:((k:Int)).toNat=k:=by omega
   have gn:(some (⟨(hs k).p,0,none⟩:Addr)).isNone=false:=rfl;go_wp2
   rename_i K hK
   refine hK _ _ ?_;rw[gn];go_wp2
   go_roundw
   case rel =>
    exact⟨k+1,by omega,by go_num,trivial⟩
   case measure=>simp[intOf];omega
  ·have hke:k=n:=by omega
   subst hke;go_wp2
   go_ret
   exact⟨rfl,rfl⟩
theorem Jp{g o n cap:Nat}{hs:Nat→Hd}(w:World)(h:mD w g o n hs)(h5:n≤100) :
  Calls Tryz.prog 132 #[.slice (some ⟨g,o,none⟩) n cap,.pointer none] w fun e w'=>e=.returned (.bool false)∧w'=w:=by
 have HI:=ah (JO (cap:=cap) w h h5);clear h;go_enter Tryz.func132,Tryz.ntmps132
 go_wp2_with fail
 refine HI.out.mono ?_;rintro e w' ⟨rfl,hw⟩;have hw':=hw.symm;subst hw';clear hw HI;go_wp2
 go_ret
 exact⟨rfl,rfl⟩
theorem aH.sZ{B B':Nat}{w:World}{h:Hd}{d:DV}(hd:aH B' w h d)(hB:B≤B'):aH B w h d:=⟨hd.ok,Nat.le_trans hB hd.pB,hd.blk,ownsRow_base hd.of hB,ownsRow_base hd.os hB,ownsRow_base hd.op hB,hd.ne,hd.pn⟩
def nC(hs:Nat→Hd)(k:Nat):List Value:=(List.range k).map fun i=>.pointer (some ⟨(hs i).p,0,none⟩)
theorem PD(hs:Nat→Hd)(k:Nat)(h:Hd):nC (setH hs k h) (k+1)=nC hs k++[.pointer (some ⟨h.p,0,none⟩)]:=by
 unfold nC;rw[List.range_succ,List.map_append]
 congr 1
 ·apply List.map_congr_left
  intro i hi;have:=List.mem_range.1 hi
  unfold setH;rw[if_neg (by omega)]
 ·simp[setH]
structure iU(w:World)(B:Nat)(a:Option Addr)(k cap:Nat)(hs:Nat→Hd)(d:Nat→DV):Prop where
 row:w.ownsRow B 74 1 (.slice a k cap) k (nC hs k)
 dev:∀ i,i<k→aH B w (hs i) (d i)
theorem iU.nil(w:World)(B:Nat)(hs:Nat→Hd)(d:Nat→DV):iU w B none 0 0 hs d:=⟨World.ownsRow_nil _ _ _ _,fun i hi=>by omega⟩
theorem iU.ptrs{w:World}{B k cap:Nat}{a:Option Addr}{hs:Nat→Hd}{d:Nat→DV}(h:iU w B a k cap hs d)(hk:0<k):∃ g,a=some ⟨g,0,none⟩∧B≤g∧mD w g 0 k hs∧∃ cur,w.heap[g]?=some (.cells cur 74 (0,0)):=by
 obtain⟨g,cap2,hv,hc,_,_⟩:=rQ h.row 0 hk
 injection hv with hv1 hv2 hv3
 have hr:=h.row;rw[hv1] at hr;obtain⟨hB,cur,hcur,_⟩:=gB hr;refine⟨g,hv1,hB,fun i hi=>?_,cur,hcur⟩
 obtain⟨g',cap3,hv',hc',_,_⟩:=rQ h.row i hi
 injection hv' with hv1' hv2' hv3'
 rw[hv1] at hv1';cases hv1'
 rw[Nat.zero_add,hc'];simp[nC,hi]
theorem iU.below{w w':World}{B k cap:Nat}{a:Option Addr}{hs:Nat→Hd}{d:Nat→DV}(h:iU w B a k cap hs d)(hb:Below w.heap.size w w'):iU w' B a k cap hs d :=
 ⟨dA h.row fun q e=>hb.block q (h.row.lt q e).2,fun i hi=>(h.dev i hi).keep fun b e=>hb.block b ((h.dev i hi).lt b e).2⟩
theorem iU.snoc{w w1 w3:World}{B k cap cap3 g3:Nat}{a:Option Addr}{hs:Nat→Hd}{d:Nat→DV}{h':Hd}{row:Option Nat}(h:iU w B a k cap hs d)(hB:B≤w.heap.size)(hb:Below w.heap.size w w1)(hd:aH w.heap.size w1 h' (d k)){o:Obj}
  (hown:w3.ownsRow B 74 1 (.slice (some ⟨g3,0,none⟩) (k+1) cap3) (k+1) (nC hs k++[.pointer (some ⟨h'.p,0,none⟩)])) (hg:(w1.alloc o).grownBy w3 row) (hrow:∀ r,row=some r→∃ cur,w.heap[r]?=some (.cells cur 74 (0,0))):iU w3 B (some ⟨g3,0,none⟩) (k+1) cap3 (setH hs k h') d:=by
 have hk:Kept (fun q=>row=some q) (w1.alloc o) w3:=(Kept.refl _ _).grown hg fun q e=>.inl e
 have hal:Below w1.heap.size w1 (w1.alloc o):=(Below.refl _ _).alloc (Nat.le_refl _) _
 have key:∀(x:Hd) (D:DV),aH B w1 x D→(∀ q,x.fp q→row≠some q)→aH B w3 x D:=fun x D hx hne=>hx.keep fun q e=>by
  have hq:=(hx.lt q e).2;rw[hk.block q (Nat.lt_of_lt_of_le hq hal.size) (hne q e)];exact hal.block q hq
 refine⟨by rw[PD];exact hown,fun i hi=>?_⟩
 unfold setH;by_cases e:i=k
 ·rw[if_pos e,e]
  refine key h' (d k) (hd.sZ hB) fun q e2 e3=>?_
  obtain⟨cur,hc⟩:=hrow q e3;have:=(hd.lt q e2).1
  have:=lt_of_some hc
  omega
 ·rw[if_neg e]
  have hi':i<k:=by omega
  refine key (hs i) (d i) ((h.dev i hi').keep fun q e=>hb.block q ((h.dev i hi').lt q e).2) fun q e2 e3=>?_
  obtain⟨cur,hc⟩:=hrow q e3;exact((h.dev i hi').toG.oK hc (by decide)) e2
theorem KR(a b c:Int)(w:World):(Instr.field 103 (.agg #[.int .i64 a,.int .i64 b,.int .i64 c]) 2).run Tryz.prog w=.ok (.int .i64 c) w:=by kernel_rfl
def oQ(w:World)(yp m:Nat)(Y:Yh)(s:SV)(d:aS)(v:Value)(w':World):Prop:=Below w.heap.size w w' ∧
 ((¬(¬(d.kind=2∧s.back d.root=d.file)∧newF s d=0)∧v=.pointer none) ∨
  (¬(d.kind=2∧s.back d.root=d.file)∧newF s d=0∧∃(b:Jh) (C:Nat),v=.pointer (some ⟨b.jp,0,none⟩)∧PJ w' yp b.jp b.lp b.bp b.a b.cap Y.xs s m C (iL s d)∧(w.heap.size≤b.jp∧w.heap.size≤b.lp∧w.heap.size≤b.bp∧∀ g o,b.a=some ⟨g,o,none⟩→w.heap.size≤g)))
theorem Uw{yp m rk:Nat}{Y:Yh}{y:YV}(kind file rate burst:Int)(w:World)(h:ay w yp Y y)(hs:y.s.ok m)(hr:∃ v,y.s.file (rk:Int)=some v) :
    Calls Tryz.prog 137 #[.pointer (some ⟨yp,0,none⟩),.agg #[.int .i64 (rk:Int),.int .i64 kind,.int .i64 file,.int .i64 rate,.int .i64 burst]] w fun e w'=>∃ v,e=.returned v∧oQ w yp m Y y.s ⟨(rk:Int),kind,file,rate,burst⟩ v w':=by
  obtain⟨v,hv⟩:=hr;obtain⟨r0,r5,hv2⟩:=SV.dJ hv;have hrk:((rk:Int)).toNat=rk:=by omega
  rw[hrk] at hv2;have hbk:y.s.back (rk:Int)=v.h.b:=by unfold SV.back;rw[hv]
  have HB0:Hid (Below w.heap.size w (w.alloc (eF ⟨(rk:Int),kind,file,rate,burst⟩))):=(Below.refl _ _).alloc (Nat.le_refl _) _;have HDR:=ah (wz ⟨(rk:Int),kind,file,rate,burst⟩ w);have HDC:=ah (tV ⟨(rk:Int),kind,file,rate,burst⟩ w);have HI:Hid ((Tryz.prog.info? 47).map (·.size)=some ([.int .i64 (rk:Int),.int .i64 kind,.int .i64 file,.int .i64 rate,.int .i64 burst]:List Value).length):=uX
  have HSC:Hid (∀ W:World,Below w.heap.size w W→W.cell? ⟨yp,6+rk,none⟩=some (.pointer (some ⟨(Y.xs rk).p,0,none⟩))):=fun W hb=>by
    have:=(h.below hb).blk.cells.2.2.1 rk (by omega)
    rw[hv2] at this;exact this
  have HHD:Hid (∀ W:World,Below w.heap.size w W→Calls Tryz.prog 67 #[.pointer (some ⟨(Y.xs rk).p,0,none⟩)] W fun e w'=>e=.returned (.agg #[.int .i64 v.h.c,.int .i64 v.h.p,.int .i64 v.h.b])∧Below W.heap.size W w'):=fun W hb=>oG W ((h.img _ v (by omega) hv2).below hb)
  have HNO:Hid (kind=2∧v.h.b=file→∀ W:World,Below w.heap.size w W→oQ w yp m Y y.s ⟨(rk:Int),kind,file,rate,burst⟩ (.pointer none) W):=fun e W hb=>⟨hb,.inl ⟨fun e2=>e2.1 ⟨e.1,by show y.s.back (rk:Int)=file;rw[hbk];exact e.2⟩,rfl⟩⟩
  have HNW:Hid (¬(kind=2∧v.h.b=file)→∀ W:World,Below w.heap.size w W→Calls Tryz.prog 22 #[.pointer (some ⟨yp,6,none⟩),.agg #[.int .i64 (rk:Int),.int .i64 kind,.int .i64 file,.int .i64 rate,.int .i64 burst]] W fun e w'=>Below W.heap.size W w'∧∃(po:Option Addr) (F:Int),e=.returned (.tuple #[.pointer po,erV F])∧(F≠0→oQ w yp m Y y.s ⟨(rk:Int),kind,file,rate,burst⟩ (.pointer none) w')∧(F=0→oQ w yp m Y y.s ⟨(rk:Int),kind,file,rate,burst⟩ (.pointer po) w')):=fun hd0 W hb2=>by
    have hd:¬(kind=2∧y.s.back (rk:Int)=file):=by rw[hbk];exact hd0
    by_cases hnf:newF y.s ⟨(rk:Int),kind,file,rate,burst⟩=0
    · refine(En ⟨(rk:Int),kind,file,rate,burst⟩ W ((h.shelf hs).below hb2) hnf).mono ?_
      rintro e w' ⟨jp,lp,bp,C',a,cap,rfl,h1,⟨q1,q2,q3,q4⟩,h3,_⟩;have hz:=hb2.size;refine⟨h3,some ⟨jp,0,none⟩,0,by rw[aB],fun e=>absurd rfl e,fun _=>⟨hb2.trans (h3.mono hz),.inr ⟨hd,hnf,⟨jp,lp,bp,a,cap⟩,C',rfl,h1,Nat.le_trans hz q1,Nat.le_trans hz q2,Nat.le_trans hz q3,fun g o e=>Nat.le_trans hz (q4 g o e)⟩⟩⟩
    · refine(Em ⟨(rk:Int),kind,file,rate,burst⟩ W ((h.shelf hs).below hb2) hnf).mono ?_
      rintro e w' ⟨rfl,h3⟩;exact⟨h3,none,_,rfl,fun _=>⟨hb2.trans (h3.mono hb2.size),.inl ⟨fun e=>hnf e.2,rfl⟩⟩,fun e=>absurd e hnf⟩
  unfold eF at HB0 HDR HDC;simp only at HB0 HDR HDC;clear h hs hv hv2 hbk;have f2:=KR v.h.c v.h.p v.h.b;generalize v.h.c=hc at HHD f2;generalize v.h.p=hp at HHD f2;generalize v.h.b=hb at HHD f2 HNO HNW;generalize (Y.xs rk).p=xp at HSC HHD;have k0:(0:Int)≤(rk:Int):=by omega
  have k5:(rk:Int)<5:=by omega
  have HFD:Hid (∀ W V,oQ w yp m Y y.s ⟨(rk:Int),kind,file,rate,burst⟩ V W→∃ v,Ending.returned V=.returned v∧oQ w yp m Y y.s ⟨(rk:Int),kind,file,rate,burst⟩ v W):=fun W V hf=>⟨V,rfl,hf⟩
  generalize oQ w yp m Y y.s ⟨(rk:Int),kind,file,rate,burst⟩=FP at HNO HNW HFD ⊢;by_cases hk2:kind=2
  · have g1:(kind==2)=true:=by simpa using hk2
    by_cases hbf:hb=file
    · have g2:(file==hb)=true:=by simpa using hbf.symm
      have HNO2:=ah (HNO.out ⟨hk2,hbf⟩);clear hk2 hbf HNO HNW;go_enter Tryz.func137,Tryz.ntmps137
      go_wp2
      generalize hW0:w.alloc (.cells #[.int .i64 (rk:Int),.int .i64 kind,.int .i64 file,.int .i64 rate,.int .i64 burst] 47)=W0 at HB0 HDR HDC ⊢;clear hW0;have HBD:Hid (Below w.heap.size w W0.drew):=HB0.out.drew;have HX0:Hid (Below W0.heap.size W0 W0.drew):=(Below.refl _ _).drew;obtain⟨q0,q1,q2,q3,q4⟩:=HDC.out _ HX0.out;have q6:=HSC.out _ HBD.out;have HS0:Hid (W0.drew.cell? ⟨w.heap.size,0,none⟩=some (.int .i64 (rk:Int))∧W0.drew.cell? ⟨w.heap.size,1,none⟩=some (.int .i64 kind)∧W0.drew.cell? ⟨w.heap.size,2,none⟩=some (.int .i64 file)∧W0.drew.cell? ⟨w.heap.size,3,none⟩=some (.int .i64 rate)∧W0.drew.cell? ⟨w.heap.size,4,none⟩=some (.int .i64 burst)∧W0.drew.cell? ⟨yp,6+rk,none⟩=some (.pointer (some ⟨xp,0,none⟩))):=⟨q0,q1,q2,q3,q4,q6⟩
      go_region_held3 (fun W=>W.cell? ⟨w.heap.size,0,none⟩=some (.int .i64 (rk:Int))∧W.cell? ⟨w.heap.size,1,none⟩=some (.int .i64 kind)∧W.cell? ⟨w.heap.size,2,none⟩=some (.int .i64 file)∧W.cell? ⟨w.heap.size,3,none⟩=some (.int .i64 rate)∧W.cell? ⟨w.heap.size,4,none⟩=some (.int .i64 burst)∧W.cell? ⟨yp,6+rk,none⟩=some (.pointer (some ⟨xp,0,none⟩)))
        (first|(exact HS0.out)|assumption)
        (first
          | (go_at_call 67;refine(HHD.out _ HBD.out).mono ?_;rintro e w2 ⟨rfl,hb2⟩;have HX2:=ah (HX0.out.trans (hb2.mono HX0.out.size));have HB2:=ah (HBD.out.trans (hb2.mono HBD.out.size));have hS2:w2.cell? ⟨w.heap.size,0,none⟩=some (.int .i64 (rk:Int))∧w2.cell? ⟨w.heap.size,1,none⟩=some (.int .i64 kind)∧w2.cell? ⟨w.heap.size,2,none⟩=some (.int .i64 file)∧w2.cell? ⟨w.heap.size,3,none⟩=some (.int .i64 rate)∧w2.cell? ⟨w.heap.size,4,none⟩=some (.int .i64 burst)∧w2.cell? ⟨yp,6+rk,none⟩=some (.pointer (some ⟨xp,0,none⟩)):=by { obtain⟨t0,t1,t2,t3,t4⟩:=HDC.out _ HX2.out;exact⟨t0,t1,t2,t3,t4,HSC.out _ HB2.out⟩ };clear hb2))
      clear hS2;have HF:=ah (HFD.out _ _ (HNO2.out _ HB2.out));go_wp2
      go_ret
      exact HF.out
    · have g2:(file==hb)=false:=by simpa using fun e:file=hb=>hbf e.symm
      have HD0:Hid (¬(kind=2∧hb=file)):=fun e=>hbf e.2
      clear hk2 hbf HNO;go_enter Tryz.func137,Tryz.ntmps137
      go_wp2
      generalize hW0:w.alloc (.cells #[.int .i64 (rk:Int),.int .i64 kind,.int .i64 file,.int .i64 rate,.int .i64 burst] 47)=W0 at HB0 HDR HDC ⊢;clear hW0;have HBD:Hid (Below w.heap.size w W0.drew):=HB0.out.drew;have HX0:Hid (Below W0.heap.size W0 W0.drew):=(Below.refl _ _).drew;obtain⟨q0,q1,q2,q3,q4⟩:=HDC.out _ HX0.out;have q6:=HSC.out _ HBD.out;have HS0:Hid (W0.drew.cell? ⟨w.heap.size,0,none⟩=some (.int .i64 (rk:Int))∧W0.drew.cell? ⟨w.heap.size,1,none⟩=some (.int .i64 kind)∧W0.drew.cell? ⟨w.heap.size,2,none⟩=some (.int .i64 file)∧W0.drew.cell? ⟨w.heap.size,3,none⟩=some (.int .i64 rate)∧W0.drew.cell? ⟨w.heap.size,4,none⟩=some (.int .i64 burst)∧W0.drew.cell? ⟨yp,6+rk,none⟩=some (.pointer (some ⟨xp,0,none⟩))):=⟨q0,q1,q2,q3,q4,q6⟩
      go_region_held3 (fun W=>W.cell? ⟨w.heap.size,0,none⟩=some (.int .i64 (rk:Int))∧W.cell? ⟨w.heap.size,1,none⟩=some (.int .i64 kind)∧W.cell? ⟨w.heap.size,2,none⟩=some (.int .i64 file)∧W.cell? ⟨w.heap.size,3,none⟩=some (.int .i64 rate)∧W.cell? ⟨w.heap.size,4,none⟩=some (.int .i64 burst)∧W.cell? ⟨yp,6+rk,none⟩=some (.pointer (some ⟨xp,0,none⟩)))
        (first|(exact HS0.out)|assumption)
        (first
          | (go_at_call 67;refine(HHD.out _ HBD.out).mono ?_;rintro e w2 ⟨rfl,hb2⟩;have HX2:=ah (HX0.out.trans (hb2.mono HX0.out.size));have HB2:=ah (HBD.out.trans (hb2.mono HBD.out.size));have hS2:w2.cell? ⟨w.heap.size,0,none⟩=some (.int .i64 (rk:Int))∧w2.cell? ⟨w.heap.size,1,none⟩=some (.int .i64 kind)∧w2.cell? ⟨w.heap.size,2,none⟩=some (.int .i64 file)∧w2.cell? ⟨w.heap.size,3,none⟩=some (.int .i64 rate)∧w2.cell? ⟨w.heap.size,4,none⟩=some (.int .i64 burst)∧w2.cell? ⟨yp,6+rk,none⟩=some (.pointer (some ⟨xp,0,none⟩)):=by { obtain⟨t0,t1,t2,t3,t4⟩:=HDC.out _ HX2.out;exact⟨t0,t1,t2,t3,t4,HSC.out _ HB2.out⟩ };clear hb2))
      clear hS2;clear HS0;have HN:=ah (HNW.out HD0.out);go_wp2
      have HBN:Hid (Below w.heap.size w w2.drew):=HB2.out.drew;have HXN:Hid (Below W0.heap.size W0 w2.drew):=HX2.out.drew;have HSN:=ah (HDC.out _ HXN.out)
      go_region_held3 (fun W=>W.cell? ⟨w.heap.size,0,none⟩=some (.int .i64 (rk:Int))∧W.cell? ⟨w.heap.size,1,none⟩=some (.int .i64 kind)∧W.cell? ⟨w.heap.size,2,none⟩=some (.int .i64 file)∧W.cell? ⟨w.heap.size,3,none⟩=some (.int .i64 rate)∧W.cell? ⟨w.heap.size,4,none⟩=some (.int .i64 burst))
        (first|(exact HSN.out)|assumption)
        (first
          | (go_at_call 22;refine(HN.out _ HBN.out).mono ?_;rintro e w3 ⟨hb3,po,F,rfl,hP0,hP1⟩;have HP0:=ah hP0;have HP1:=ah hP1;have hS3:=HDC.out _ (HXN.out.trans (hb3.mono HXN.out.size));clear hb3 hP0 hP1))
      by_cases hF:F=0
      · have HE:Hid (erV F=.nilIface):=by unfold Hid;rw[hF,aB]
        rw[HE.out];have HF:=ah (HFD.out _ _ (HP1.out hF));clear HP0 HP1 hF HE;go_wp2
        go_ret
        exact HF.out
      · have HE:Hid (erV F=.iface 127 (.int .i64 F)):=aT hF
        rw[HE.out];have HF:=ah (HFD.out _ _ (HP0.out hF));clear HP0 HP1 hF HE;go_wp2
        go_ret
        exact HF.out
  · have g1:(kind==2)=false:=by simpa using hk2
    have HD0:Hid (¬(kind=2∧hb=file)):=fun e=>hk2 e.1
    clear hk2 HNO HHD;go_enter Tryz.func137,Tryz.ntmps137
    go_wp2
    generalize hW0:w.alloc (.cells #[.int .i64 (rk:Int),.int .i64 kind,.int .i64 file,.int .i64 rate,.int .i64 burst] 47)=W0 at HB0 HDR HDC ⊢;clear hW0;have HBD:Hid (Below w.heap.size w W0.drew):=HB0.out.drew;have HX0:Hid (Below W0.heap.size W0 W0.drew):=(Below.refl _ _).drew;obtain⟨q0,q1,q2,q3,q4⟩:=HDC.out _ HX0.out;have q6:=HSC.out _ HBD.out;have HS0:Hid (W0.drew.cell? ⟨w.heap.size,0,none⟩=some (.int .i64 (rk:Int))∧W0.drew.cell? ⟨w.heap.size,1,none⟩=some (.int .i64 kind)∧W0.drew.cell? ⟨w.heap.size,2,none⟩=some (.int .i64 file)∧W0.drew.cell? ⟨w.heap.size,3,none⟩=some (.int .i64 rate)∧W0.drew.cell? ⟨w.heap.size,4,none⟩=some (.int .i64 burst)∧W0.drew.cell? ⟨yp,6+rk,none⟩=some (.pointer (some ⟨xp,0,none⟩))):=⟨q0,q1,q2,q3,q4,q6⟩
    clear HS0;have p1:W0.cell? ⟨w.heap.size,1,none⟩=some (.int .i64 kind):=q1;go_quiet (fail)
    have HB2:Hid (Below w.heap.size w (W0.drewN nq)):=below_drewN HB0.out _;have HX2:Hid (Below W0.heap.size W0 (W0.drewN nq)):=below_drewN (Below.refl _ _) _;generalize W0.drewN nq=w2 at HB2 HX2 ⊢;have HN:=ah (HNW.out HD0.out);go_wp2
    have HBN:Hid (Below w.heap.size w w2.drew):=HB2.out.drew;have HXN:Hid (Below W0.heap.size W0 w2.drew):=HX2.out.drew;have HSN:=ah (HDC.out _ HXN.out)
    go_region_held3 (fun W=>W.cell? ⟨w.heap.size,0,none⟩=some (.int .i64 (rk:Int))∧W.cell? ⟨w.heap.size,1,none⟩=some (.int .i64 kind)∧W.cell? ⟨w.heap.size,2,none⟩=some (.int .i64 file)∧W.cell? ⟨w.heap.size,3,none⟩=some (.int .i64 rate)∧W.cell? ⟨w.heap.size,4,none⟩=some (.int .i64 burst))
      (first|(exact HSN.out)|assumption)
      (first
        | (go_at_call 22;refine(HN.out _ HBN.out).mono ?_;rintro e w3 ⟨hb3,po,F,rfl,hP0,hP1⟩;have HP0:=ah hP0;have HP1:=ah hP1;have hS3:=HDC.out _ (HXN.out.trans (hb3.mono HXN.out.size));clear hb3 hP0 hP1))
    by_cases hF:F=0
    · have HE:Hid (erV F=.nilIface):=by unfold Hid;rw[hF,aB]
      rw[HE.out];have HF:=ah (HFD.out _ _ (HP1.out hF));clear HP0 HP1 hF HE;go_wp2
      go_ret
      exact HF.out
    · have HE:Hid (erV F=.iface 127 (.int .i64 F)):=aT hF
      rw[HE.out];have HF:=ah (HFD.out _ _ (HP0.out hF));clear HP0 HP1 hF HE;go_wp2
      go_ret
      exact HF.out
end Go.Proofs.YtonhoahnieoebabGreatDoor
