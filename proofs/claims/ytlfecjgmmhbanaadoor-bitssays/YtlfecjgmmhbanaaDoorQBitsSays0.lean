/-
BitsSays: what its loop holds between two rounds; how it returns; its closed fact.
-/
import Derived.Test.YtlfecjgmmhbanaaDoorQBitsRef
namespace Go.Proofs.YtlfecjgmmhbanaaDoor.S4
open Go.RowKit Go.Shelf
attribute [local go_sem ↓] Go.wp_at_zero Go.wp_at_succ

/- The set, the document's set, the result's cell, and the marks of the loops that were gone through. -/
structure St (w W : World) (R p mb q n x y : Nat) (ds : List Nat) : Prop where
  bel : Below w.heap.size w W
  lo : w.heap.size ≤ R ∧ w.heap.size ≤ p ∧ w.heap.size ≤ mb ∧ w.heap.size ≤ q
  res : Boxed W R 4 (.bool false)
  box : Boxed W mb 36 (.pointer (some ⟨q, 0, none⟩))
  one : IsSet W p n x
  two : IsRset W q n y
  ok1 : SetOk n x
  ok2 : SetOk n y
  mrk : ∀ D ∈ ds, W.heap[D]? = some (.deferred (some [])) ∧ w.heap.size ≤ D
  nd : ds.Nodup

theorem St.kept {w W W1 : World} {R p mb q n x y : Nat} {ds : List Nat} {S : Nat → Prop} (h : St w W R p mb q n x y ds) (hk : Kept S W W1) (hR : ¬ S R) (hm : ¬ S mb) (hp : ¬ S p) (hq : ¬ S q) (hd : ∀ D ∈ ds, ¬ S D) (hS : ∀ k, S k → w.heap.size ≤ k) : St w W1 R p mb q n x y ds :=
  ⟨h.bel.trans (hk.below h.bel.size hS), h.lo, (hk.block _ h.res.lt hR).trans h.res, (hk.block _ h.box.lt hm).trans h.box, h.one.kept hk hp, h.two.kept hk hq, h.ok1, h.ok2, fun D hD => ⟨(hk.block D (lt_of_some (h.mrk D hD).1) (hd D hD)).trans (h.mrk D hD).1, (h.mrk D hD).2⟩, h.nd⟩

theorem St.below {w W W1 : World} {R p mb q n x y : Nat} {ds : List Nat} (h : St w W R p mb q n x y ds) (hb : Below W.heap.size W W1) : St w W1 R p mb q n x y ds :=
  h.kept (S := fun _ => False) (Below.kept hb) (fun f => f) (fun f => f) (fun f => f) (fun f => f) (fun _ _ f => f) (fun _ f => f.elim)

theorem St.alloc {w W : World} {R p mb q n x y : Nat} {ds : List Nat} (h : St w W R p mb q n x y ds) (o : Obj) : St w (W.alloc o) R p mb q n x y ds := h.below ((Below.refl _ W).alloc (Nat.le_refl _) o)

theorem St.alike {w W W1 : World} {R p mb q n x y : Nat} {ds : List Nat} (h : St w W R p mb q n x y ds) (ha : W1.heap = W.heap ∧ W1.os = W.os ∧ W1.tape = W.tape ∧ W1.output = W.output) : St w W1 R p mb q n x y ds :=
  h.below ⟨ha.2.1, ha.2.2.1, ha.2.2.2, by rw [ha.1]; exact Nat.le_refl _, fun k _ => by rw [ha.1]⟩

/- No two of them are one block. -/
theorem set_ne {W : World} {p n x b : Nat} {t : TypeId} {cur : Array Value} (h : IsSet W p n x) (hb : W.heap[b]? = some (.cells cur t (0, 0))) (ht : t ≠ 56) : b ≠ p := fun e => by
  rw [e, show W.heap[p]? = _ from h] at hb; injection hb with hb; injection hb with h1 h2; exact ht h2.symm
theorem set_mark {W : World} {p n x b : Nat} (h : IsSet W p n x) (hb : W.heap[b]? = some (.deferred (some []))) : b ≠ p := fun e => by
  rw [e, show W.heap[p]? = _ from h] at hb; cases hb
theorem rset_ne {W : World} {q n x b : Nat} {t : TypeId} {cur : Array Value} (h : IsRset W q n x) (hb : W.heap[b]? = some (.cells cur t (0, 0))) (ht : t ≠ 39) : b ≠ q := fun e => by
  obtain ⟨c, h1, _⟩ := h.blk
  rw [e, h1] at hb; injection hb with hb; injection hb with h1 h2; exact ht h2.symm
theorem rset_mark {W : World} {q n x b : Nat} (h : IsRset W q n x) (hb : W.heap[b]? = some (.deferred (some []))) : b ≠ q := fun e => by
  obtain ⟨c, h1, _⟩ := h.blk
  rw [e, h1] at hb; cases hb

theorem St.pq {w W : World} {R p mb q n x y : Nat} {ds : List Nat} (h : St w W R p mb q n x y ds) : q ≠ p := by
  obtain ⟨c, h1, _⟩ := h.two.blk
  exact set_ne h.one h1 (by decide)

theorem St.turn1 {w W W1 : World} {R p mb q n x y x' : Nat} {ds : List Nat} (h : St w W R p mb q n x y ds) (h1 : IsSet W1 p n x') (hok : SetOk n x') (hk : Kept (fun k => k = p) W W1) : St w W1 R p mb q n x' y ds :=
  ⟨h.bel.trans (hk.below h.bel.size (fun k e => by rw [show k = p from e]; exact h.lo.2.1)), h.lo, (hk.block _ h.res.lt (set_ne h.one h.res (by decide))).trans h.res, (hk.block _ h.box.lt (set_ne h.one h.box (by decide))).trans h.box, h1, h.two.kept hk h.pq, hok, h.ok2, fun D hD => ⟨(hk.block D (lt_of_some (h.mrk D hD).1) (set_mark h.one (h.mrk D hD).1)).trans (h.mrk D hD).1, (h.mrk D hD).2⟩, h.nd⟩

theorem St.turn2 {w W W1 : World} {R p mb q n x y y' : Nat} {ds : List Nat} (h : St w W R p mb q n x y ds) (h1 : IsRset W1 q n y') (hok : SetOk n y') (hk : Kept (fun k => k = q) W W1) : St w W1 R p mb q n x y' ds :=
  ⟨h.bel.trans (hk.below h.bel.size (fun k e => by rw [show k = q from e]; exact h.lo.2.2.2)), h.lo, (hk.block _ h.res.lt (rset_ne h.two h.res (by decide))).trans h.res, (hk.block _ h.box.lt (rset_ne h.two h.box (by decide))).trans h.box, h.one.kept hk (Ne.symm h.pq), h1, h.ok1, hok, fun D hD => ⟨(hk.block D (lt_of_some (h.mrk D hD).1) (rset_mark h.two (h.mrk D hD).1)).trans (h.mrk D hD).1, (h.mrk D hD).2⟩, h.nd⟩

/- The round's act stands. -/
theorem Box.below {W W' : World} {N : Nat} {x : ActV} (h : Box W N x) (hb : Below W.heap.size W W') : Box W' N x := ⟨(hb.block N (lt_of_some h.blk)).trans h.blk⟩
theorem Box.ne1 {W : World} {N p n z : Nat} {x : ActV} (h : Box W N x) (h1 : IsSet W p n z) : N ≠ p := set_ne h1 h.blk (by decide)
theorem Box.ne2 {W : World} {N q n z : Nat} {x : ActV} (h : Box W N x) (h1 : IsRset W q n z) : N ≠ q := rset_ne h1 h.blk (by decide)

/- How BitsSays returns. -/
theorem says_leave {w W : World} {R : Nat} {b : Bool} (ds : List Nat) (tmps : Array Value) (t4 : tmps.getD 4 undef = .pointer (some ⟨R, 0, none⟩)) (hmk : ∀ D ∈ ds, W.heap[D]? = some (.deferred (some [])) ∧ w.heap.size ≤ D) (hnd : ds.Nodup) (hR : Boxed W R 4 (.bool b)) (hb : b = true) (hbel : Below w.heap.size w W) :
    LeavesInM Fence.wide 9 Tryd.prog Tryd.f4 tmps (fun e w' => e = .returned (.bool true) ∧ Below w.heap.size w w') (ds.map fun D => { target := .collected D, args := #[] }) .returning W := by
  refine leave_marks ds W (fun D hD => (hmk D hD).1) hnd (fun W' hk => ?_)
  have hne : R ∉ ds := fun hD => by
    have h1 := (hmk R hD).1
    rw [show W.heap[R]? = _ from hR] at h1; cases h1
  have hR' : Boxed W' R 4 (.bool b) := (hk.block R hR.lt hne).trans hR
  have c1 := hR'.cell
  subst hb
  refine ⟨.bool true, ?_, rfl, hbel.trans (hk.below hbel.size (fun k e => (hmk k e).2))⟩
  have t4' : tmps[4]?.getD undef = .pointer (some ⟨R, 0, none⟩) := by simpa using t4
  simp [results, Tryd.f4, go_sem, c1, t4']

set_option maxRecDepth 100000 in
set_option maxHeartbeats 400000 in
theorem sameN (f : Int) (w : World) : Calls Tryd.prog 5 #[.nilIface, .int .i64 f] w fun e w' => e = .returned (.bool (f == 0)) ∧ w' = w := by
  go_enter Tryd.func5, Tryd.ntmps5
  go_wp2
  go_ret
  exact ⟨rfl, rfl⟩

set_option maxRecDepth 100000 in
set_option maxHeartbeats 400000 in
theorem sameE (n : Int) (w : World) (h0 : 0 < n) : Calls Tryd.prog 5 #[.iface 23 (.int .i64 n), .int .i64 n] w fun e w' => e = .returned (.bool true) ∧ w' = w := by
  have hta : ∀ w : World, (Instr.typeAssert (.iface 23 (.int .i64 n)) 27 23 true).run Tryd.prog w = .ok (.tuple #[.int .i64 n, .bool true]) w := fun _ => by kernel_rfl
  go_enter Tryd.func5, Tryd.ntmps5
  go_wp2
  go_ret
  exact ⟨rfl, rfl⟩

set_option maxRecDepth 100000 in
set_option maxHeartbeats 1000000 in
theorem counts_any (w : World) : Calls Tryd.prog 8 #[] w fun e w' => e = .returned (.bool true) ∧ Below w.heap.size w w' := by
  have o0 := set_start 9 (by omega)
  have o1 := putV_ok o0 4 true
  have e1 : putB 9 0 4 true = true := by decide
  have e2 : putV 9 0 4 true = 16 := by decide
  have e3 : hasB 9 16 4 = true := by decide
  have e4 : cnt 16 64 = 1 := by decide +kernel
  rw [e2] at o1
  go_enter Tryd.func8, Tryd.ntmps8
  go_wp2_with fail
  refine (snew_good 9 w (by omega)).mono ?_
  rintro e w1 ⟨rfl, h1, hb1⟩
  have H1 := toHid h1
  have HB1 := toHid hb1
  clear h1 hb1
  go_wp2_with fail
  refine (sput_any 4 true w1 H1.out o0).mono ?_
  rintro e w2 ⟨he, h2, hk2⟩
  rw [e1] at he
  rw [e2] at h2
  subst he
  have H2 := toHid h2
  have HK2 := toHid hk2
  clear h2 hk2
  go_wp2_with fail
  refine (shas_any 4 w2 H2.out o1).mono ?_
  rintro e w' ⟨he, hw⟩
  rw [e3] at he
  subst he
  have hw' := hw.symm
  subst hw'
  clear hw
  go_wp2_with fail
  refine (scount_any w2 H2.out o1).mono ?_
  rintro e w' ⟨he, hw⟩
  rw [e4] at he
  subst he
  have hw' := hw.symm
  subst hw'
  clear hw
  go_wp2
  go_ret
  exact ⟨rfl, HB1.out.trans (HK2.out.below HB1.out.size (fun k e => Nat.le_of_eq e.symm))⟩
end Go.Proofs.YtlfecjgmmhbanaaDoor.S4
