/- A yard's parts turn: the desk's device, a file, the root, the job. -/
import Derived.Test.YtonhoahnieoebabGreatDoorQAYardMem
set_option maxHeartbeats 1000000
set_option maxRecDepth 100000
namespace Go.Proofs.YtonhoahnieoebabGreatDoor
open Go.RowKit Go.Maps
theorem bg.qY{B:Gd}{w:World}{h:Hd}{d:DV}(hd:bg B w h d):bg (Gd.but w h.fp) w h d:=⟨hd.toaH,fun _ hk hg=>hg.2 hk⟩
theorem bg.noG{B:Gd}{w:World}{h:Hd}{d:DV}(hd:bg B w h d):bg Gd.no w h d:=⟨hd.toaH,fun _ _ hg=>hg⟩
theorem bg.moved{w w':World}{h h':Hd}{d:DV}{T:Nat→Prop}(hd:bg (Gd.but w h.fp) w' h' d)(hk:Kept T w w')(ht:∀ k,T k→¬(Gd.but w h.fp).g k):Moved h.fp w h'.fp w':=qZ hk ht hd.out
theorem ay.vg{w w':World}{yp:Nat}{Y:Yh}{y:YV}(h:ay w yp Y y){t':Hd}{d':DV}(hd:bg Gd.no w' t' d')(hp:t'.p=Y.tp.p)(hm:Moved Y.tp.fp w t'.fp w') :
  ay w' yp { Y with tp:=t' } { y with top:=d' }∧Moved (fpY yp Y y) w (fpY yp { Y with tp:=t' } { y with top:=d' }) w':=by
 obtain⟨n1,n2,n3⟩:=h.oh
 have hM:Moved (fpY yp Y y) w (fpY yp { Y with tp:=t' } { y with top:=d' }) w':=⟨hm.kept.mono fun k _ hk=>.inr (.inr (.inl hk)),fun k hk=>by
  rcases hk with hk|hk|hk|hk
  ·exact .inl (.inl hk)
  ·exact .inl (.inr (.inl hk))
  ·rcases hm.new k hk with h1|h1
   ·exact .inl (.inr (.inr (.inl h1)))
   ·exact .inr h1
  ·exact .inl (.inr (.inr (.inr hk)))⟩
 have hF:∀ i,i<5→∀ k,Y.fpF y.s i k→w'.heap[k]?=w.heap[k]?:=fun i hi k hk=>hm.block (h.qH hi hk) fun e=>h.apTop i hi k e hk
 refine⟨⟨?_,fun i v hi hv=>(h.img i v hi hv).lT fun k hk=>hF i hi k (by rw[Yh.gY hv];exact hk),fun i hi hv=>(h.dev i hi hv).keep fun k hk=>hF i hi k (by rw[Yh.gX hv];exact hk),hd,h.apart,fun i hi k hk hk2=>?_,fun j hj=>?_⟩,hM⟩
 ·obtain⟨c,h1,h2,h3,h4,h5,h6⟩:=h.blk.is
  exact⟨c,(hm.block h.blk.lt n2).trans h1,h2,by rw[h3];show _=some (Value.pointer (some ⟨t'.p,0,none⟩));rw[hp],h4,h5,h6⟩
 ·rcases hm.new k hk with h1|h1
  ·exact h.apTop i hi k h1 hk2
  ·have:=h.qH hi hk2;omega
 ·obtain⟨h7,h8,h9,h10,h11⟩:=h.job j hj
  have hn:y.j≠none:=by rw[hj];intro e;cases e
  have hJ:∀ k,k=Y.jb.jp∨k=Y.jb.lp∨k=Y.jb.bp→w'.heap[k]?=w.heap[k]?:=fun k hk=>hm.block (h.iT (.inr (.inr (.inr ⟨hn,hk⟩)))) (h.pK ⟨hn,hk⟩).2
  exact⟨h7.keep (hJ _ (.inl rfl)) (hJ _ (.inr (.inl rfl))) (hJ _ (.inr (.inr rfl))),h8.moved hM h11,h9,h10,h11.moved h8 h9 hM⟩
theorem ay.xC{w w1 w2:World}{yp i:Nat}{Y Y':Yh}{y y':YV}(h:ay w yp Y y)(hi:i<5)(hm:Moved (Y.fpF y.s i) w (Y'.fpF y'.s i) w1)(h12:Kept (fun k=>k=yp) w1 w2)
  (hb:iQ w2 yp Y' y'.s y'.kd.root (ni Y'.jb y'.j)) (himg:∀ v,y'.s i=some v→aC Gd.no w2 (Y'.xs i) v) (hdev:y'.s i=none→bg Gd.no w2 (Y'.ds i) (y'.dv i))
  (hs:∀ j,j≠i→y'.s j=y.s j∧y'.dv j=y.dv j∧Y'.xs j=Y.xs j∧Y'.ds j=Y.ds j) (ht:Y'.tp=Y.tp∧Y'.jb=Y.jb∧y'.top=y.top∧y'.j=y.j) :
  ay w2 yp Y' y'∧Moved (fpY yp Y y) w (fpY yp Y' y') w2:=by
 obtain⟨n1,n2,n3⟩:=h.oh;obtain⟨t1,t2,t3,t4⟩:=ht
 have hfp:∀ j,j≠i→∀ k,Y'.fpF y'.s j k=Y.fpF y.s j k:=fun j hj k=>by
  obtain⟨e1,_,e3,e4⟩:=hs j hj;unfold Yh.fpF;rw[e1,e3,e4]
 have hblk:∀ k,k<w.heap.size→¬Y.fpF y.s i k→k≠yp→w2.heap[k]?=w.heap[k]?:=fun k hk h1 h2 =>
  (h12.block k (Nat.lt_of_lt_of_le hk hm.size) h2).trans (hm.block hk h1)
 have hM:Moved (fpY yp Y y) w (fpY yp Y' y') w2:=by
  refine⟨⟨h12.os.trans hm.kept.os,h12.tape.trans hm.kept.tape,h12.output.trans hm.kept.output,Nat.le_trans hm.size h12.size,fun k hk hs=>hblk k hk (fun e=>hs (.inr (.inl ⟨i,hi,e⟩))) (fun e=>hs (.inl e))⟩,fun k hk=>?_⟩
  rcases hk with hk|⟨j,hj,hk⟩|hk|hk
  ·exact .inl (.inl hk)
  ·by_cases e:j=i
   ·rw[e] at hk
    rcases hm.new k hk with h1|h1
    ·exact .inl (.inr (.inl ⟨i,hi,h1⟩))
    ·exact .inr h1
   ·rw[hfp j e] at hk;exact .inl (.inr (.inl ⟨j,hj,hk⟩))
  ·rw[t1] at hk;exact .inl (.inr (.inr (.inl hk)))
  ·rw[t2,t4] at hk;exact .inl (.inr (.inr (.inr hk)))
 have hF:∀ j,j<5→j≠i→∀ k,Y.fpF y.s j k→w2.heap[k]?=w.heap[k]?:=fun j hj e k hk=>hblk k (h.qH hj hk) (fun e2=>h.apart j i hj hi e k hk e2) (fun e2=>n1 j hj (by rw[← e2];exact hk))
 refine⟨⟨hb,fun j v hj hv=>?_,fun j hj hv=>?_,?_,fun a b ha hb2 hab k hk hk2=>?_,fun j hj k hk hk2=>?_,fun j hj=>?_⟩,hM⟩
 ·by_cases e:j=i
  ·rw[e] at hv ⊢;exact himg v hv
  ·obtain⟨e1,_,e3,e4⟩:=hs j e
   rw[e1] at hv;rw[e3];exact(h.img j v hj hv).lT fun k hk=>hF j hj e k (by rw[Yh.gY hv];exact hk)
 ·by_cases e:j=i
  ·rw[e] at hv ⊢;exact hdev hv
  ·obtain⟨e1,e2,e3,e4⟩:=hs j e
   rw[e1] at hv;rw[e4,e2];exact(h.dev j hj hv).keep fun k hk=>hF j hj e k (by rw[Yh.gX hv];exact hk)
 ·rw[t1,t3]
  exact h.top.keep fun k hk=>hblk k (h.top.lt k hk).2 (h.apTop i hi k hk) (fun e=>n2 (by rw[← e];exact hk))
 ·have hx:∀ j,j<5→j≠i→Y.fpF y.s j k→¬Y'.fpF y'.s i k:=fun j hj e hf hf2=>by
   rcases hm.new k hf2 with h1|h1
   ·exact h.apart j i hj hi e k hf h1
   ·have:=h.qH hj hf;omega
  by_cases ea:a=i
  ·have eb:b≠i:=fun e=>hab (by rw[ea,e])
   rw[hfp b eb] at hk2;rw[ea] at hk;exact hx b hb2 eb hk2 hk
  ·rw[hfp a ea] at hk
   by_cases eb:b=i
   ·rw[eb] at hk2;exact hx a ha ea hk hk2
   ·rw[hfp b eb] at hk2;exact h.apart a b ha hb2 hab k hk hk2
 ·rw[t1] at hk
  by_cases e:j=i
  ·rw[e] at hk2
   rcases hm.new k hk2 with h1|h1
   ·exact h.apTop i hi k hk h1
   ·have:=(h.top.lt k hk).2;omega
  ·rw[hfp j e] at hk2;exact h.apTop j hj k hk hk2
 ·rw[t4] at hj
  obtain⟨h7,h8,h9,h10,h11⟩:=h.job j hj;have hn:y.j≠none:=by rw[hj];intro e;cases e
  have hJ:∀ k,k=Y.jb.jp∨k=Y.jb.lp∨k=Y.jb.bp→w2.heap[k]?=w.heap[k]?:=fun k hk=>hblk k (h.iT (.inr (.inr (.inr ⟨hn,hk⟩)))) ((h.pK ⟨hn,hk⟩).1 i hi) (fun e=>n3 (by rw[← e];exact⟨hn,hk⟩))
  rw[t2];exact⟨h7.keep (hJ _ (.inl rfl)) (hJ _ (.inr (.inl rfl))) (hJ _ (.inr (.inr rfl))),h8.moved hM h11,h9,h10,h11.moved h8 h9 hM⟩
theorem ay.own{w w2:World}{yp:Nat}{Y:Yh}{y:YV}(h:ay w yp Y y)(hk:Kept (fun k=>k=yp) w w2){d:aS}(hb:iQ w2 yp Y y.s d.root (ni Y.jb y.j)):ay w2 yp Y { y with kd:=d }∧Moved (fpY yp Y y) w (fpY yp Y { y with kd:=d }) w2:=by
 obtain⟨n1,n2,n3⟩:=h.oh;have hM:Moved (fpY yp Y y) w (fpY yp Y { y with kd:=d }) w2:=⟨hk.mono fun k _ e=>.inl e,fun k hk=>.inl hk⟩
 have hF:∀ i,i<5→∀ k,Y.fpF y.s i k→w2.heap[k]?=w.heap[k]?:=fun i hi k hk2=>hk.block k (h.qH hi hk2) (fun e=>n1 i hi (by rw[← e];exact hk2))
 refine⟨⟨hb,fun i v hi hv=>(h.img i v hi hv).lT fun k hk=>hF i hi k (by rw[Yh.gY hv];exact hk),fun i hi hv=>(h.dev i hi hv).keep fun k hk=>hF i hi k (by rw[Yh.gX hv];exact hk),h.top.keep fun k hk2=>hk.block k (h.top.lt k hk2).2 (fun e=>n2 (by rw[← e];exact hk2)),h.apart,h.apTop,fun j hj=>?_⟩,hM⟩
 obtain⟨h7,h8,h9,h10,h11⟩:=h.job j hj;have hn:y.j≠none:=by rw[hj];intro e;cases e
 have hJ:∀ k,k=Y.jb.jp∨k=Y.jb.lp∨k=Y.jb.bp→w2.heap[k]?=w.heap[k]?:=fun k hk2=>hk.block k (h.iT (.inr (.inr (.inr ⟨hn,hk2⟩)))) (fun e=>n3 (by rw[← e];exact⟨hn,hk2⟩))
 exact⟨h7.keep (hJ _ (.inl rfl)) (hJ _ (.inr (.inl rfl))) (hJ _ (.inr (.inr rfl))),h8.moved hM h11,h9,h10,h11.moved h8 h9 hM⟩
theorem iQ.uS{w:World}{yp:Nat}{Y:Yh}{s:SV}{r:Int}{jv:Value}(h:iQ w yp Y s r jv)(r':Int):iQ (w.setCell ⟨yp,11,none⟩ (.int .i64 r')) yp Y s r' jv:=by
 obtain⟨c,h1,h2,h3,h4,h5,h6⟩:=h.is;have hl:12<c.size:=by rcases Nat.lt_or_ge 12 c.size with e|e;exact e;rw[Array.getElem?_eq_none e] at h6;cases h6
 refine⟨_,heap_setCell_same w yp 11 _ _ _ h1,fun i hi=>?_,?_,fun i hi=>?_,?_,?_⟩
 ·rw[Array.getElem?_setIfInBounds_ne (by omega)];exact h2 i hi
 ·rw[Array.getElem?_setIfInBounds_ne (by omega)];exact h3
 ·rw[Array.getElem?_setIfInBounds_ne (by omega)];exact h4 i hi
 ·rw[Array.getElem?_setIfInBounds_self_of_lt (by omega)]
 ·rw[Array.getElem?_setIfInBounds_ne (by omega)];exact h6
theorem iQ.xO{w:World}{yp:Nat}{Y:Yh}{s:SV}{r:Int}{jv:Value}(h:iQ w yp Y s r jv)(b:Jh)(v:Value):iQ (w.setCell ⟨yp,12,none⟩ v) yp { Y with jb:=b } s r v:=by
 obtain⟨c,h1,h2,h3,h4,h5,h6⟩:=h.is;have hl:12<c.size:=by rcases Nat.lt_or_ge 12 c.size with e|e;exact e;rw[Array.getElem?_eq_none e] at h6;cases h6
 refine⟨_,heap_setCell_same w yp 12 _ _ _ h1,fun i hi=>?_,?_,fun i hi=>?_,?_,?_⟩
 ·rw[Array.getElem?_setIfInBounds_ne (by omega)];exact h2 i hi
 ·rw[Array.getElem?_setIfInBounds_ne (by omega)];exact h3
 ·rw[Array.getElem?_setIfInBounds_ne (by omega)];exact h4 i hi
 ·rw[Array.getElem?_setIfInBounds_ne (by omega)];exact h5
 ·rw[Array.getElem?_setIfInBounds_self_of_lt (by omega)]
theorem iQ.Fq{w:World}{yp i:Nat}{Y Y':Yh}{s s':SV}{r:Int}{jv:Value}(h:iQ w yp Y s r jv)(hi:i<5)(hx:∀ j,j≠i→Y'.xs j=Y.xs j∧s' j=s j)(hd:∀ j,j<5→Y'.dp s' j=Y.dp s j)(ht:Y'.tp.p=Y.tp.p) :
  iQ (w.setCell ⟨yp,6+i,none⟩ (fJ (Y'.xs i) (s' i))) yp Y' s' r jv:=by
 obtain⟨c,h1,h2,h3,h4,h5,h6⟩:=h.is;have hl:12<c.size:=by rcases Nat.lt_or_ge 12 c.size with e|e;exact e;rw[Array.getElem?_eq_none e] at h6;cases h6
 refine⟨_,heap_setCell_same w yp (6+i) _ _ _ h1,fun j hj=>?_,?_,fun j hj=>?_,?_,?_⟩
 ·rw[Array.getElem?_setIfInBounds_ne (by omega),hd j hj];exact h2 j hj
 ·rw[Array.getElem?_setIfInBounds_ne (by omega),ht];exact h3
 ·by_cases e:j=i
  ·rw[e,Array.getElem?_setIfInBounds_self_of_lt (by omega)]
  ·rw[Array.getElem?_setIfInBounds_ne (by omega),(hx j e).1,(hx j e).2];exact h4 j hj
 ·rw[Array.getElem?_setIfInBounds_ne (by omega)];exact h5
 ·rw[Array.getElem?_setIfInBounds_ne (by omega)];exact h6
theorem ay.uS{w:World}{yp:Nat}{Y:Yh}{y:YV}(h:ay w yp Y y)(d:aS):ay (w.setCell ⟨yp,11,none⟩ (.int .i64 d.root)) yp Y { y with kd:=d }∧Moved (fpY yp Y y) w (fpY yp Y { y with kd:=d }) (w.setCell ⟨yp,11,none⟩ (.int .i64 d.root)) :=
 h.own (Kept.setCell (S:=fun k=>k=yp) (p:=⟨yp,11,none⟩) (Kept.refl _ w) (.inl rfl) _) (h.blk.uS d.root)
theorem ay.xO{w:World}{yp:Nat}{Y:Yh}{y:YV}{b:Jh}{j:JV}(h:ay w yp Y y)(hj:gW w b.jp yp b.lp b.bp b.a b.cap j)(hn:Nums w b.a j.l)(hne:j.l≠[])(hc:j.l.length≤b.cap)(ha:Apart b.a (fpY yp { Y with jb:=b } { y with j:=some j })) :
  ay (w.setCell ⟨yp,12,none⟩ (.pointer (some ⟨b.jp,0,none⟩))) yp { Y with jb:=b } { y with j:=some j }:=by
 obtain⟨n1,n2,n3⟩:=h.oh;obtain⟨c,h1,_⟩:=h.blk.is;have hk:Kept (fun k=>k=yp) w (w.setCell ⟨yp,12,none⟩ (.pointer (some ⟨b.jp,0,none⟩))):=Kept.setCell (S:=fun k=>k=yp) (p:=⟨yp,12,none⟩) (Kept.refl _ w) (.inl rfl) _
 have hF:∀ i,i<5→∀ k,Y.fpF y.s i k→(w.setCell ⟨yp,12,none⟩ (.pointer (some ⟨b.jp,0,none⟩))).heap[k]?=w.heap[k]?:=fun i hi k hk2=>hk.block k (h.qH hi hk2) (fun e=>n1 i hi (by rw[← e];exact hk2))
 refine⟨h.blk.xO b _,fun i v hi hv=>(h.img i v hi hv).lT fun k hk=>hF i hi k (by rw[Yh.gY hv];exact hk),fun i hi hv=>(h.dev i hi hv).keep fun k hk=>hF i hi k (by rw[Yh.gX hv];exact hk),h.top.keep fun k hk2=>hk.block k (h.top.lt k hk2).2 (fun e=>n2 (by rw[← e];exact hk2)),h.apart,h.apTop,fun j' hj'=>?_⟩
 have e:j=j':=Option.some.inj hj';subst e;have e1:=hj.blk;have e2:w.heap[b.lp]?=_:=hj.set;have e3:w.heap[b.bp]?=_:=hj.bkt;obtain⟨l1,l2,l3⟩:=hj.lts;refine⟨hj.keep (hk.block _ l1 fun e=>?_) (hk.block _ l2 fun e=>?_) (hk.block _ l3 fun e=>?_),hn.keep fun g o e=>hk.block g (hn.lt hne e) fun e2=>ha g o e (.inl e2),hne,hc,ha⟩
 ·rw[e,h1] at e1;simp at e1
 ·rw[e,h1] at e2;simp at e2
 ·rw[e,h1] at e3;simp at e3
end Go.Proofs.YtonhoahnieoebabGreatDoor
namespace Go.Proofs.YtonhoahnieoebabGreatDoor
open Go.RowKit
theorem PK(n x:Nat)(i:Int):S4.eP n (S4.eP n x i true) i true=S4.eP n x i true:=by
 refine Nat.eq_of_testBit_eq fun j=>?_
 rw[S4.pV,S4.pV];split
 ·rfl
 ·rfl
theorem JQ(j:JV)(c:Int):dD (dD j c) c=dD j c:=by
 by_cases h:j.kind=2∨4≤j.stage
 ·have e:dD j c=j:=by unfold dD;rw[if_pos h]
  rw[e,e]
 ·have e:dD j c=j.put (S4.eP j.n j.x c true):=by unfold dD;rw[if_neg h]
  rw[e];unfold dD;rw[if_neg (show ¬((j.put (S4.eP j.n j.x c true)).kind=2∨4≤(j.put (S4.eP j.n j.x c true)).stage) from h)]
  show { j with x:=_ }={ j with x:=_ }
  congr 1
  exact PK _ _ _
def jg(j:JV)(c0:Nat):Nat→JV
 | 0=>j
 | k+1=>dD (jg j c0 k) ((c0+k:Nat):Int)
theorem JR(j:JV)(fr:Nat):∀ n,dh j fr (n+1)=jg j (fr / 4) ((fr+n) / 4-fr / 4+1):=by
 intro n
 induction n with
 | zero =>
  show dD j (((fr+0) / 4:Nat):Int)=_
  rw[Nat.add_zero,Nat.sub_self];show _=dD j ((fr / 4+0:Nat):Int)
  rw[Nat.add_zero]
 | succ n ih =>
  show dD (dh j fr (n+1)) (((fr+(n+1)) / 4:Nat):Int)=_
  rw[ih];have h0:fr / 4≤(fr+n) / 4:=Nat.div_le_div_right (by omega)
  by_cases h:(fr+(n+1)) / 4=(fr+n) / 4
  ·rw[h]
   show dD (dD (jg j (fr / 4) ((fr+n) / 4-fr / 4)) ((fr / 4+((fr+n) / 4-fr / 4):Nat):Int)) _=dD (jg j (fr / 4) ((fr+n) / 4-fr / 4)) ((fr / 4+((fr+n) / 4-fr / 4):Nat):Int)
   rw[show fr / 4+((fr+n) / 4-fr / 4)=(fr+n) / 4 by omega,JQ]
  ·have e:(fr+(n+1)) / 4=(fr+n) / 4+1:=by omega
   rw[e,show(fr+n) / 4+1-fr / 4=((fr+n) / 4-fr / 4)+1 by omega]
   show _=dD (jg j (fr / 4) ((fr+n) / 4-fr / 4+1)) ((fr / 4+((fr+n) / 4-fr / 4+1):Nat):Int)
   rw[show fr / 4+((fr+n) / 4-fr / 4+1)=(fr+n) / 4+1 by omega]
theorem JW{j:JV}(h:4≤j.stage)(fr:Nat):∀ n,dh j fr n=j:=by
 intro n
 induction n with
 | zero=>rfl
 | succ n ih =>
  show dD (dh j fr n) _=j
  rw[ih];unfold dD;rw[if_pos (.inr h)]
open Go.Maps
attribute [local go_sem ↓] Go.wp_at_zero Go.wp_at_succ
def goV(b:Jh)(y:YV):Value:=if y.busy=true then .pointer (some ⟨b.jp,0,none⟩) else .pointer none
theorem og{yp:Nat}{Y:Yh}{y:YV}(w:World)(h:ay w yp Y y) :
  Calls Tryz.prog 146 #[.pointer (some ⟨yp,0,none⟩)] w fun e w'=>e=.returned (goV Y.jb y)∧w'=w:=by
 obtain⟨c0,c5,c6,c11,c12,fz⟩:=h.blk.cells;unfold goV YV.busy
 cases hj:y.j with
 | none =>
  rw[hj] at c12;unfold ni at c12;clear h c0 c5 c6 c11 fz hj;go_enter Tryz.func146,Tryz.ntmps146
  go_wp2
  go_ret
  exact⟨rfl,rfl⟩
 | some j =>
  have HG:=ah (zl w (h.job j hj).1);rw[hj] at c12;unfold ni at c12;clear h c0 c5 c6 c11 fz hj;by_cases hg:j.stage<4
  ·have e1:decide (j.stage<4)=true:=decide_eq_true hg
   show Calls _ _ _ _ fun e w'=>e=.returned (if decide (j.stage<4)=true then _ else _)∧_
   rw[e1] at HG ⊢;rw[if_pos rfl];clear e1 hg;go_enter Tryz.func146,Tryz.ntmps146
   go_wp2_with fail
   refine HG.out.mono ?_;rintro e w' ⟨rfl,hw⟩;have hw':=hw.symm;subst hw';clear hw;go_wp2
   go_ret
   exact⟨rfl,rfl⟩
  ·have e1:decide (j.stage<4)=false:=decide_eq_false hg
   show Calls _ _ _ _ fun e w'=>e=.returned (if decide (j.stage<4)=true then _ else _)∧_
   rw[e1] at HG ⊢;rw[if_neg (by decide)]
   clear e1 hg;go_enter Tryz.func146,Tryz.ntmps146
   go_wp2_with fail
   refine HG.out.mono ?_;rintro e w' ⟨rfl,hw⟩;have hw':=hw.symm;subst hw';clear hw;go_wp2
   go_ret
   exact⟨rfl,rfl⟩
theorem qQ{yp C m:Nat}{Y:Yh}{y:YV}(w:World)(h:ay w yp Y y)(hY:YOk y C m) :
    Calls Tryz.prog 143 #[.pointer (some ⟨yp,0,none⟩)] w fun e w' =>
      ∃(g o cap:Nat),e=.returned (.slice (some ⟨g,o,none⟩) y.l.length cap)∧Nums w' (some ⟨g,o,none⟩) y.l∧w.heap.size≤g∧g<w'.heap.size∧y.l.length≤cap∧Below w.heap.size w w':=by
  obtain⟨c0,c5,c6,c11,c12,fz⟩:=h.blk.cells
  have HW:Hid (∀ W:World,Below w.heap.size w W→Calls Tryz.prog 15 #[.pointer (some ⟨yp,6,none⟩),.int .i64 y.kd.root] W fun e w'=>∃(g o cap:Nat),e=.returned (.tuple #[.slice (some ⟨g,o,none⟩) y.l.length cap,.nilIface])∧Nums w' (some ⟨g,o,none⟩) y.l∧w.heap.size≤g∧g<w'.heap.size∧y.l.length≤cap∧Below w.heap.size w w'∧w'.cell? ⟨yp,11,none⟩=some (.int .i64 y.kd.root)):=fun W hb=>by
    have:=tN y.kd.root W ((h.shelf hY.s).below hb)
    rw[hY.ch.walk,aB] at this;refine this.mono ?_;rintro e w' ⟨a,cap,rfl,h1,h2,h3⟩;obtain⟨g,o,ha,_⟩:=h1 0 (List.length_pos_iff.2 hY.ch.ne);subst ha;obtain⟨h4,h5,h6⟩:=h2 g o rfl;have hb2:=hb.trans (h3.mono hb.size);exact⟨g,o,cap,rfl,h1,Nat.le_trans hb.size h4,h5,h6,hb2,(h.below hb2).blk.cells.2.2.2.1⟩
  clear h c0 c5 c6 c12 fz hY;generalize y.kd.root=r at c11 HW;generalize y.l=l at HW ⊢;have d11:w.drew.cell? ⟨yp,11,none⟩=some (.int .i64 r):=c11;have HBD:Hid (Below w.heap.size w w.drew):=(Below.refl _ _).drew;go_enter Tryz.func143,Tryz.ntmps143
  go_wp2
  go_region_held3 (fun W=>W.cell? ⟨yp,11,none⟩=some (.int .i64 r))
    (first|(exact d11)|assumption)
    (first
      | (go_at_call 15;refine(HW.out _ HBD.out).mono ?_;rintro e w1 ⟨g,o,cap,rfl,h1,h2,h3,h4,h5,hS1⟩;have H1:=ah h1;have H5:=ah h5;clear h1 h5))
  clear hS1;go_wp2
  go_ret
  exact⟨g,o,cap,rfl,H1.out,h2,h3,h4,H5.out⟩
theorem Hf{yp C m:Nat}{Y:Yh}{y:YV}(w:World)(h:ay w yp Y y)(hY:YOk y C m) :
  Calls Tryz.prog 48 #[.pointer (some ⟨yp,0,none⟩)] w fun e w' =>
   ∃(g o cap:Nat),e=.returned (.slice (some ⟨g,o,none⟩) y.l.length cap)∧Nums w' (some ⟨g,o,none⟩) y.l∧w.heap.size≤g∧g<w'.heap.size∧y.l.length≤cap∧Below w.heap.size w w':=by
 have HW:=ah (qQ w h hY);clear h hY;go_enter Tryz.func48,Tryz.ntmps48
 go_wp2_with fail
 refine HW.out.mono ?_;rintro e w' ⟨g,o,cap,rfl,h1⟩;have H1:=ah h1;clear h1 HW;go_wp2
 go_ret
 exact⟨g,o,cap,rfl,H1.out⟩
theorem Ht{yp C m:Nat}{Y:Yh}{y:YV}(w:World)(h:ay w yp Y y)(hY:YOk y C m) :
    Calls Tryz.prog 44 #[.pointer (some ⟨yp,0,none⟩)] w fun e w'=>e=.returned (.int .i64 ((4*C:Nat):Int))∧Below w.heap.size w w':=by
  obtain⟨c0,c5,c6,c11,c12,fz⟩:=h.blk.cells;obtain⟨v,hv,hc⟩:=hY.ch.root;obtain⟨r0,r5,hv2⟩:=SV.dJ hv;obtain⟨k,hk⟩:∃ k:Nat,y.kd.root=(k:Int):=⟨y.kd.root.toNat,by omega⟩
  rw[hk] at c11 hv2 r5 r0;have hkn:((k:Int)).toNat=k:=by omega
  rw[hkn] at hv2;have hcell:=c6 k (by omega)
  have HH:Hid (∀ W:World,Below w.heap.size w W→Calls Tryz.prog 67 #[.pointer (some ⟨(Y.xs k).p,0,none⟩)] W fun e w'=>e=.returned (.agg #[.int .i64 v.h.c,.int .i64 v.h.p,.int .i64 v.h.b])∧Below w.heap.size w w'∧w'.cell? ⟨yp,11,none⟩=some (.int .i64 (k:Int))∧w'.cell? ⟨yp,6+k,none⟩=some (.pointer (some ⟨(Y.xs k).p,0,none⟩))):=fun W hb=>(oG W ((h.img k v (by omega) hv2).below hb)).mono fun e w' ⟨h1,h2⟩=>by
    have hb2:=hb.trans (h2.mono hb.size);obtain⟨_,_,q6,q11,_,_⟩:=(h.below hb2).blk.cells;refine⟨h1,hb2,by rw[← hk];exact q11,?_⟩
    have:=q6 k (by omega)
    rw[hv2] at this;exact this
  have hC:v.h.c≤32:=by
    have:=(hY.s k v hv2).h
    have:=HV.fE this
    omega
  rw[hv2] at hcell;unfold fJ at hcell;rw[hc] at HH hC;have f1:=o9 (C:Int) v.h.p v.h.b;have k0:(0:Int)≤(k:Int):=r0;have k5:(k:Int)<5:=by omega
  clear h hY c0 c5 c6 c12 fz hv hv2 hk hc;generalize (Y.xs k).p=xp at HH hcell;generalize v.h.p=p1 at HH f1;generalize v.h.b=b1 at HH f1;have k1:IntKind.i64.wrap (4*(C:Int))=4*(C:Int):=IntWalk.i64_in _ (by omega)
  have d11:w.drew.cell? ⟨yp,11,none⟩=some (.int .i64 (k:Int)):=c11;have d6:w.drew.cell? ⟨yp,6+k,none⟩=some (.pointer (some ⟨xp,0,none⟩)):=hcell;have HBD:Hid (Below w.heap.size w w.drew):=(Below.refl _ _).drew;go_enter Tryz.func44,Tryz.ntmps44
  go_wp2
  go_region_held3 (fun W=>W.cell? ⟨yp,11,none⟩=some (.int .i64 (k:Int))∧W.cell? ⟨yp,6+k,none⟩=some (.pointer (some ⟨xp,0,none⟩)))
    (first|(exact⟨d11,d6⟩)|assumption)
    (first
      | (go_at_call 67;refine(HH.out _ HBD.out).mono ?_;rintro e w1 ⟨rfl,hb1,hS1⟩;have HB1:=ah hb1;clear hb1))
  clear hS1;go_wp2
  go_ret
  exact⟨uI (by omega),HB1.out⟩
theorem Hu{yp C m:Nat}{Y:Yh}{y:YV}(w:World)(h:ay w yp Y y)(hY:YOk y C m) :
  Calls Tryz.prog 47 #[.pointer (some ⟨yp,0,none⟩)] w fun e w' =>
   e=.returned (match y.j with|none=>.agg #[.int .i64 0,.int .i64 (-1),.int .i64 0,.int .i64 0] | some j=>.agg #[.int .i64 j.kind,.int .i64 j.file,.int .i64 j.state,.int .i64 (S4.cnt j.x 64:Nat)])∧Below w.heap.size w w':=by
 obtain⟨c0,c5,c6,c11,c12,fz⟩:=h.blk.cells
 cases hj:y.j with
 | none =>
  rw[hj] at c12;unfold ni at c12;have hlt:=h.blk.lt;clear h hY c0 c5 c6 c11 fz hj;have e12:(w.alloc (.cells #[.int .i64 0,.int .i64 0,.int .i64 0,.int .i64 0] 56)).cell? ⟨yp,12,none⟩=some (.pointer none):=(((Below.refl w.heap.size w).alloc (Nat.le_refl _) _).cell (p:=⟨yp,12,none⟩) hlt).trans c12;go_enter Tryz.func47,Tryz.ntmps47
  go_wp2
  exact bodyPost_ret (v:=.agg #[.int .i64 0,.int .i64 (-1),.int .i64 0,.int .i64 0]) (by simp[results,Tryz.results47,go_sem]) rfl ⟨rfl,(Below.refl _ _).alloc (Nat.le_refl _) _⟩
 | some j =>
  have hlt:=h.blk.lt;have HB0:Hid (Below w.heap.size w (w.alloc (.cells #[.int .i64 0,.int .i64 0,.int .i64 0,.int .i64 0] 56))):=(Below.refl _ _).alloc (Nat.le_refl _) _;have HG:=ah (xW _ (((h.below HB0.out).job j hj).1) (hY.set j hj).1);rw[hj] at c12;unfold ni at c12;have e12:(w.alloc (.cells #[.int .i64 0,.int .i64 0,.int .i64 0,.int .i64 0] 56)).cell? ⟨yp,12,none⟩=some (.pointer (some ⟨Y.jb.jp,0,none⟩)):=(HB0.out.cell (p:=⟨yp,12,none⟩) hlt).trans c12;clear h hY c0 c5 c6 c11 fz hj c12;go_enter Tryz.func47,Tryz.ntmps47
  go_wp2_with fail
  refine HG.out.mono ?_;rintro e w1 ⟨rfl,hb1⟩;have hk:w1.heap[w.heap.size]?=some (.cells #[.int .i64 0,.int .i64 0,.int .i64 0,.int .i64 0] 56 (0,0)):=(hb1.block _ (by simp)).trans (heap_alloc_new w _)
  have hz:w.heap.size<w1.heap.size:=lt_of_some hk;have q0:w1.cell? ⟨w.heap.size,0,none⟩=some (.int .i64 0):=by rw[cell_of_row _ _ _ _ _ _ hk];rfl
  have q1:w1.cell? ⟨w.heap.size,1,none⟩=some (.int .i64 0):=by rw[cell_of_row _ _ _ _ _ _ hk];rfl
  have q2:w1.cell? ⟨w.heap.size,2,none⟩=some (.int .i64 0):=by rw[cell_of_row _ _ _ _ _ _ hk];rfl
  have q3:w1.cell? ⟨w.heap.size,3,none⟩=some (.int .i64 0):=by rw[cell_of_row _ _ _ _ _ _ hk];rfl
  have f0:=frozen_of_row w1 w.heap.size 0 _ _ hk;have f1:=frozen_of_row w1 w.heap.size 1 _ _ hk;have f2:=frozen_of_row w1 w.heap.size 2 _ _ hk;have f3:=frozen_of_row w1 w.heap.size 3 _ _ hk;have HB1:=ah (HB0.out.trans (hb1.mono HB0.out.size));clear hb1 HG hk;go_wp2
  exact bodyPost_ret (v:=.agg #[.int .i64 j.kind,.int .i64 j.file,.int .i64 j.state,.int .i64 (S4.cnt j.x 64:Nat)]) (by simp[results,Tryz.results47,go_sem,q0,q1,q2,q3]) rfl ⟨rfl,(((HB1.out.setCell (Nat.le_refl _) _).setCell (Nat.le_refl _) _).setCell (Nat.le_refl _) _).setCell (Nat.le_refl _) _⟩
theorem Hr{yp C m:Nat}{Y:Yh}{y:YV}(fr n:Int)(w:World)(h:ay w yp Y y)(hY:YOk y C m)(hC:C≤40)(hfr : -9223372036854775808≤fr∧fr≤9223372036854775807) :
    Calls Tryz.prog 43 #[.pointer (some ⟨yp,0,none⟩),.int .i64 fr,.int .i64 n] w fun e w'=>e=.returned (.tuple #[.string (y.s.jY y.l fr n),erV (y.s.bP y.l fr n)])∧Below w.heap.size w w':=by
  have HW:Hid (∀ W:World,Below w.heap.size w W→Calls Tryz.prog 143 #[.pointer (some ⟨yp,0,none⟩)] W fun e w'=>∃(g o cap:Nat),e=.returned (.slice (some ⟨g,o,none⟩) y.l.length cap)∧Nums w' (some ⟨g,o,none⟩) y.l∧Below w.heap.size w w'):=fun W hb=>(qQ W (h.below hb) hY).mono fun e w' ⟨g,o,cap,h1,h2,_,_,_,h6⟩=>⟨g,o,cap,h1,h2,hb.trans (h6.mono hb.size)⟩
  have HG:Hid (∀(W:World) (a:Option Addr) (cap:Nat),Below w.heap.size w W→Nums W a y.l→Calls Tryz.prog 73 #[.pointer (some ⟨yp,6,none⟩),.slice a y.l.length cap,.int .i64 fr,.int .i64 n] W fun e w'=>e=.returned (.tuple #[.string (y.s.jY y.l fr n),erV (y.s.bP y.l fr n)])∧Below w.heap.size w w'):=fun W a cap hb hn =>
    (II y.l fr n W ((h.shelf hY.s).below hb) hn hY.ch.good (by have:=hY.ch.len;omega) hC hfr).mono fun e w' ⟨h1,h2⟩=>⟨h1,hb.trans (h2.mono hb.size)⟩
  clear h hY;generalize y.s.jY y.l fr n=T at HG ⊢;generalize erV (y.s.bP y.l fr n)=E at HG ⊢;generalize y.l=l at HW HG;have HBD:Hid (Below w.heap.size w w.drew):=(Below.refl _ _).drew;go_enter Tryz.func43,Tryz.ntmps43
  go_wp2
  go_region_held3 (fun _=>True)
    (first|trivial|assumption)
    (first
      | (go_at_call 143;refine(HW.out _ HBD.out).mono ?_;rintro e w1 ⟨g,o,cap,rfl,h1,h5⟩;have HC:=ah (HG.out w1 _ cap h5 h1);clear h1 h5;have hS1:=True.intro)
      | (go_at_call 73;refine HC.out.mono ?_;rintro e w2 ⟨rfl,hb2⟩;have HB2:=ah hb2;clear hb2;have hS2:=True.intro))
  go_wp2
  go_ret2
  exact⟨rfl,HB2.out⟩
end Go.Proofs.YtonhoahnieoebabGreatDoor
