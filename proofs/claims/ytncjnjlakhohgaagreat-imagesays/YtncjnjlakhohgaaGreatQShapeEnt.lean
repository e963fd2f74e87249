/-
Sectors as heads (C1), in the document's answer: what HeadOf gives.
Entries of a table (C2): what may be; how many rows; in the program and in the document's answer.
-/
import Derived.Test.YtncjnjlakhohgaaGreatQShapeHead2
namespace Go.Proofs.YtncjnjlakhohgaaGreat
open Go.RowKit
attribute [local go_sem ↓] Go.wp_at_zero Go.wp_at_succ

theorem sealF_pos {s : ByteArray} (h : sealF s ≠ 0) : 0 < sealF s := by
  unfold sealF at h ⊢
  split
  · next h16 => rw [if_pos h16] at h
                split
                · next hq => rw [if_pos hq] at h; exact absurd rfl h
                · omega
  · omega

theorem kept_cell4 {w w1 w2 w3 : World} {C : Array Value} {t : TypeId} {o : Obj} (hb1 : Below (w.alloc (.cells C t)).heap.size (w.alloc (.cells C t)) w1) (hb2 : Below (w1.alloc o).drew.heap.size (w1.alloc o).drew w2) (hb3 : Below w2.heap.size w2 w3) (i : Nat) (v : Value) (hv : C[i]? = some v) :
    w3.cell? ⟨w.heap.size, i, none⟩ = some v := by
  have h2 := kept_cell hb1 hb2 i v hv
  rw [hb3.cell (World.block_lt_of_cell? w2 _ h2)]; exact h2

theorem kept_frozen {w w1 w2 : World} {C : Array Value} {t : TypeId} {o : Obj} (hb1 : Below (w.alloc (.cells C t)).heap.size (w.alloc (.cells C t)) w1) (hb2 : Below (w1.alloc o).drew.heap.size (w1.alloc o).drew w2) (i : Nat) :
    w2.frozen? ⟨w.heap.size, i, none⟩ = false := by
  have hz := hb1.size
  simp at hz
  rw [hb2.frozen (by show w.heap.size < (w1.alloc o).heap.size; simp; omega)]
  show (w1.alloc o).frozen? _ = _
  rw [World.frozen?_alloc_past _ _ _ (by show w.heap.size < w1.heap.size; omega), hb1.frozen (by simp), frozen_of_row _ _ _ _ _ (heap_alloc_new w _)]

theorem kept_frozen4 {w w1 w2 w3 : World} {C : Array Value} {t : TypeId} {o : Obj} (hb1 : Below (w.alloc (.cells C t)).heap.size (w.alloc (.cells C t)) w1) (hb2 : Below (w1.alloc o).drew.heap.size (w1.alloc o).drew w2) (hb3 : Below w2.heap.size w2 w3) (i : Nat) :
    w3.frozen? ⟨w.heap.size, i, none⟩ = false := by
  have hz := hb1.size
  have hz2 := hb2.size
  have hz3 : (w1.alloc o).drew.heap.size = w1.heap.size + 1 := by show (w1.alloc o).heap.size = _; simp
  simp at hz
  rw [hb3.frozen (by show w.heap.size < w2.heap.size; omega)]
  exact kept_frozen hb1 hb2 i

theorem box_cell {w1 w2 : World} {C : Array Value} {t : TypeId} (hb2 : Below (w1.alloc (.cells C t)).drew.heap.size (w1.alloc (.cells C t)).drew w2) (i : Nat) (v : Value) (hv : C[i]? = some v) : w2.cell? ⟨w1.heap.size, i, none⟩ = some v := by
  rw [hb2.cell (by show w1.heap.size < (w1.alloc (.cells C t)).heap.size; simp)]
  show (w1.alloc (.cells C t)).cell? _ = _
  rw [cell_of_row _ _ _ _ _ _ (heap_alloc_new w1 _)]; exact hv

theorem box_cell3 {w1 w2 w3 : World} {C : Array Value} {t : TypeId} (hb2 : Below (w1.alloc (.cells C t)).drew.heap.size (w1.alloc (.cells C t)).drew w2) (hb3 : Below w2.heap.size w2 w3) (i : Nat) (v : Value) (hv : C[i]? = some v) : w3.cell? ⟨w1.heap.size, i, none⟩ = some v := by
  have h2 := box_cell hb2 i v hv
  rw [hb3.cell (World.block_lt_of_cell? w2 _ h2)]; exact h2

theorem below4 {w w1 w2 w3 : World} {o o' : Obj} (hb1 : Below (w.alloc o).heap.size (w.alloc o) w1) (hb2 : Below (w1.alloc o').drew.heap.size (w1.alloc o').drew w2) (hb3 : Below w2.heap.size w2 w3) : Below w.heap.size w w3 :=
  (below3 hb1 hb2).trans (hb3.mono (below3 hb1 hb2).size)

set_option maxRecDepth 100000 in
set_option maxHeartbeats 1000000 in
theorem refHeadOf_unsealed (s : ByteArray) (w : World) (hs : sealF s ≠ 0) :
    Calls Tryz.prog 44 #[.string s] w fun e w' => e = .returned (.tuple #[.agg (headOf s).cells, .int .i64 (headF s)]) ∧ Below w.heap.size w w' := by
  have hch := opened_any s (w.alloc (.cells #[.int .i64 0, .int .i64 0, .int .i64 0] 23))
  have e1 : headF s = sealF s := by unfold headF; rw [if_neg hs]
  have e2 : headOf s = HV.zero := by unfold headOf; rw [if_neg (fun h => hs h.1)]
  have hp := sealF_pos hs
  rw [e1, e2]
  generalize sealF s = f at hch hp
  have hd : decide (0 < f) = true := by simpa using hp
  have HC := toHid hch
  clear hch e1 e2 hs
  go_enter Tryz.func44, Tryz.ntmps44
  go_wp2_with fail
  refine HC.out.mono ?_
  rintro e w1 ⟨rfl, hb1⟩
  obtain ⟨hc, hf⟩ := bcell hb1
  have hz : w.heap.size < w1.heap.size := by have := hb1.size; simp at this; omega
  go_wp2
  exact bodyPost_ret (v := .tuple #[.agg #[.int .i64 0, .int .i64 0, .int .i64 0], .int .i64 f]) (by simp [results, Tryz.results44, go_sem, hc]) rfl ⟨rfl, ((((((Below.refl _ _).alloc (Nat.le_refl _) _).trans (hb1.mono (by simp))).setCell (by simp) _).setCell (by simp) _).setCell (by simp) _)⟩

set_option maxRecDepth 100000 in
set_option maxHeartbeats 1000000 in
theorem refHeadOf_bad (s : ByteArray) (w : World) (hs : sealF s = 0) (hk : (headAt s).ok = false) :
    Calls Tryz.prog 44 #[.string s] w fun e w' => e = .returned (.tuple #[.agg (headOf s).cells, .int .i64 (headF s)]) ∧ Below w.heap.size w w' := by
  have hch := opened_any s (w.alloc (.cells #[.int .i64 0, .int .i64 0, .int .i64 0] 23))
  have hg : headGood s = false := by unfold headGood; rw [hk]; rfl
  have e1 : headF s = 2 := by unfold headF; rw [if_pos hs, if_neg (by rw [hg]; decide)]
  have e2 : headOf s = HV.zero := by unfold headOf; rw [if_neg (fun h => by rw [hg] at h; exact absurd h.2 (by decide))]
  have h16 : s.size = 16 := size16 hs
  obtain ⟨h2, h3, h4, b2, b3, b4⟩ := reads5 s h16
  obtain ⟨l2, u2⟩ := bAt_bd s 2
  obtain ⟨l3, u3⟩ := bAt_bd s 3
  obtain ⟨l4, u4⟩ := bAt_bd s 4
  have ef : HV.fault ⟨bAt s 2, bAt s 3, bAt s 4 - 1⟩ = 1 := if_neg (by rw [show HV.ok ⟨bAt s 2, bAt s 3, bAt s 4 - 1⟩ = false from hk]; decide)
  have HN : Hid (∀ W : World, Calls Tryz.prog 33 #[.agg #[.int .i64 (bAt s 2), .int .i64 (bAt s 3), .int .i64 (bAt s 4 - 1)]] W fun e w' => e = .returned (.int .i64 1) ∧ Below W.heap.size W w') := fun W => by have := headFault_any (bAt s 2) (bAt s 3) (bAt s 4 - 1) W; rw [ef] at this; exact this
  rw [e1, e2]
  rw [hs] at hch
  have HC := toHid hch
  clear hch e1 e2 hs hk hg h16 ef
  generalize bAt s 2 = x2 at b2 l2 u2 HN
  generalize bAt s 3 = x3 at b3 l3 u3 HN
  generalize bAt s 4 = x4 at b4 l4 u4 HN
  go_enter Tryz.func44, Tryz.ntmps44
  go_wp2_with fail
  refine HC.out.mono ?_
  rintro e w1 ⟨rfl, hb1⟩
  obtain ⟨hc, hf⟩ := bcell hb1
  have hz : w.heap.size < w1.heap.size := by have := hb1.size; simp at this; omega
  go_wp2
  go_region
  go_wp2_with fail
  refine (HN.out _).mono ?_
  rintro e w2 ⟨rfl, hb2⟩
  have q0 := kept_cell hb1 hb2 0 _ rfl
  have q1 := kept_cell hb1 hb2 1 _ rfl
  have q2 := kept_cell hb1 hb2 2 _ rfl
  have f0 := kept_frozen hb1 hb2 0
  have f1 := kept_frozen hb1 hb2 1
  have f2 := kept_frozen hb1 hb2 2
  go_wp2
  exact bodyPost_ret (v := .tuple #[.agg #[.int .i64 0, .int .i64 0, .int .i64 0], .int .i64 2]) (by simp [results, Tryz.results44, go_sem, q0, q1, q2]) rfl ⟨rfl, (((below3 hb1 hb2).setCell (Nat.le_refl _) _).setCell (Nat.le_refl _) _).setCell (Nat.le_refl _) _⟩

set_option maxRecDepth 100000 in
set_option maxHeartbeats 1000000 in
theorem refHeadOf_other (s : ByteArray) (w : World) (hs : sealF s = 0) (hk : (headAt s).ok = true) (ht : ((sealS (headAt s).bytes).toList == s.toList) = false) :
    Calls Tryz.prog 44 #[.string s] w fun e w' => e = .returned (.tuple #[.agg (headOf s).cells, .int .i64 (headF s)]) ∧ Below w.heap.size w w' := by
  have hch := opened_any s (w.alloc (.cells #[.int .i64 0, .int .i64 0, .int .i64 0] 23))
  have hg : headGood s = false := by unfold headGood; rw [ht, Bool.and_false]
  have e1 : headF s = 2 := by unfold headF; rw [if_pos hs, if_neg (by rw [hg]; decide)]
  have e2 : headOf s = HV.zero := by unfold headOf; rw [if_neg (fun h => by rw [hg] at h; exact absurd h.2 (by decide))]
  have h16 : s.size = 16 := size16 hs
  obtain ⟨h2, h3, h4, b2, b3, b4⟩ := reads5 s h16
  obtain ⟨l2, u2⟩ := bAt_bd s 2
  obtain ⟨l3, u3⟩ := bAt_bd s 3
  obtain ⟨l4, u4⟩ := bAt_bd s 4
  have ef : HV.fault ⟨bAt s 2, bAt s 3, bAt s 4 - 1⟩ = 0 := if_pos hk
  have HN : Hid (∀ W : World, Calls Tryz.prog 33 #[.agg #[.int .i64 (bAt s 2), .int .i64 (bAt s 3), .int .i64 (bAt s 4 - 1)]] W fun e w' => e = .returned (.int .i64 0) ∧ Below W.heap.size W w') := fun W => by have := headFault_any (bAt s 2) (bAt s 3) (bAt s 4 - 1) W; rw [ef] at this; exact this
  obtain ⟨X, hX⟩ : ∃ X : ByteArray, X = sealS (headAt s).bytes := ⟨_, rfl⟩
  have HX : Hid (X = sealS [83, 89, bAt s 2, bAt s 3, bAt s 4 - 1 + 1]) := hX
  have ht2 : (X.toList == s.toList) = false := by rw [hX]; exact ht
  clear hX ht
  have HM : Hid (∀ W : World, Calls Tryz.prog 38 #[.agg #[.int .i64 (bAt s 2), .int .i64 (bAt s 3), .int .i64 (bAt s 4 - 1)]] W fun e w' => e = .returned (.string X) ∧ Below W.heap.size W w') := fun W => by rw [HX.out]; exact headSector_any _ _ _ W hk
  rw [e1, e2]
  rw [hs] at hch
  have HC := toHid hch
  clear hch e1 e2 hs hk hg h16 ef HX
  generalize bAt s 2 = x2 at b2 l2 u2 HN HM
  generalize bAt s 3 = x3 at b3 l3 u3 HN HM
  generalize bAt s 4 = x4 at b4 l4 u4 HN HM
  go_enter Tryz.func44, Tryz.ntmps44
  go_wp2_with fail
  refine HC.out.mono ?_
  rintro e w1 ⟨rfl, hb1⟩
  obtain ⟨hc, hf⟩ := bcell hb1
  have hz : w.heap.size < w1.heap.size := by have := hb1.size; simp at this; omega
  go_wp2
  go_region
  go_wp2_with fail
  refine (HN.out _).mono ?_
  rintro e w2 ⟨rfl, hb2⟩
  have r0 := box_cell hb2 0 _ rfl
  have r1 := box_cell hb2 1 _ rfl
  have r2 := box_cell hb2 2 _ rfl
  go_wp2_with fail
  clear r0 r1 r2
  refine (HM.out _).mono ?_
  rintro e w3 ⟨rfl, hb3⟩
  have r0 := box_cell3 hb2 hb3 0 _ rfl
  have r1 := box_cell3 hb2 hb3 1 _ rfl
  have r2 := box_cell3 hb2 hb3 2 _ rfl
  have q0 := kept_cell4 hb1 hb2 hb3 0 _ rfl
  have q1 := kept_cell4 hb1 hb2 hb3 1 _ rfl
  have q2 := kept_cell4 hb1 hb2 hb3 2 _ rfl
  have f0 := kept_frozen4 hb1 hb2 hb3 0
  have f1 := kept_frozen4 hb1 hb2 hb3 1
  have f2 := kept_frozen4 hb1 hb2 hb3 2
  go_wp2
  exact bodyPost_ret (v := .tuple #[.agg #[.int .i64 0, .int .i64 0, .int .i64 0], .int .i64 2]) (by simp [results, Tryz.results44, go_sem, q0, q1, q2]) rfl ⟨rfl, (((below4 hb1 hb2 hb3).setCell (Nat.le_refl _) _).setCell (Nat.le_refl _) _).setCell (Nat.le_refl _) _⟩

set_option maxRecDepth 100000 in
set_option maxHeartbeats 1000000 in
theorem refHeadOf_good (s : ByteArray) (w : World) (hs : sealF s = 0) (hk : (headAt s).ok = true) (ht : ((sealS (headAt s).bytes).toList == s.toList) = true) :
    Calls Tryz.prog 44 #[.string s] w fun e w' => e = .returned (.tuple #[.agg (headOf s).cells, .int .i64 (headF s)]) ∧ Below w.heap.size w w' := by
  have hch := opened_any s (w.alloc (.cells #[.int .i64 0, .int .i64 0, .int .i64 0] 23))
  have hg : headGood s = true := by unfold headGood; rw [ht, hk]; rfl
  have e1 : headF s = 0 := by unfold headF; rw [if_pos hs, if_pos hg]
  have e2 : headOf s = ⟨bAt s 2, bAt s 3, bAt s 4 - 1⟩ := by unfold headOf; rw [if_pos ⟨hs, hg⟩]; rfl
  have h16 : s.size = 16 := size16 hs
  obtain ⟨h2, h3, h4, b2, b3, b4⟩ := reads5 s h16
  obtain ⟨l2, u2⟩ := bAt_bd s 2
  obtain ⟨l3, u3⟩ := bAt_bd s 3
  obtain ⟨l4, u4⟩ := bAt_bd s 4
  have ef : HV.fault ⟨bAt s 2, bAt s 3, bAt s 4 - 1⟩ = 0 := if_pos hk
  have HN : Hid (∀ W : World, Calls Tryz.prog 33 #[.agg #[.int .i64 (bAt s 2), .int .i64 (bAt s 3), .int .i64 (bAt s 4 - 1)]] W fun e w' => e = .returned (.int .i64 0) ∧ Below W.heap.size W w') := fun W => by have := headFault_any (bAt s 2) (bAt s 3) (bAt s 4 - 1) W; rw [ef] at this; exact this
  obtain ⟨X, hX⟩ : ∃ X : ByteArray, X = sealS (headAt s).bytes := ⟨_, rfl⟩
  have HX : Hid (X = sealS [83, 89, bAt s 2, bAt s 3, bAt s 4 - 1 + 1]) := hX
  have ht2 : (X.toList == s.toList) = true := by rw [hX]; exact ht
  clear hX ht
  have HM : Hid (∀ W : World, Calls Tryz.prog 38 #[.agg #[.int .i64 (bAt s 2), .int .i64 (bAt s 3), .int .i64 (bAt s 4 - 1)]] W fun e w' => e = .returned (.string X) ∧ Below W.heap.size W w') := fun W => by rw [HX.out]; exact headSector_any _ _ _ W hk
  rw [e1, e2]
  rw [hs] at hch
  have HC := toHid hch
  clear hch e1 e2 hs hk hg h16 ef HX
  generalize bAt s 2 = x2 at b2 l2 u2 HN HM ⊢
  generalize bAt s 3 = x3 at b3 l3 u3 HN HM ⊢
  generalize bAt s 4 = x4 at b4 l4 u4 HN HM ⊢
  go_enter Tryz.func44, Tryz.ntmps44
  go_wp2_with fail
  refine HC.out.mono ?_
  rintro e w1 ⟨rfl, hb1⟩
  obtain ⟨hc, hf⟩ := bcell hb1
  have hz : w.heap.size < w1.heap.size := by have := hb1.size; simp at this; omega
  go_wp2
  go_region
  go_wp2_with fail
  refine (HN.out _).mono ?_
  rintro e w2 ⟨rfl, hb2⟩
  have r0 := box_cell hb2 0 _ rfl
  have r1 := box_cell hb2 1 _ rfl
  have r2 := box_cell hb2 2 _ rfl
  go_wp2_with fail
  clear r0 r1 r2
  refine (HM.out _).mono ?_
  rintro e w3 ⟨rfl, hb3⟩
  have r0 := box_cell3 hb2 hb3 0 _ rfl
  have r1 := box_cell3 hb2 hb3 1 _ rfl
  have r2 := box_cell3 hb2 hb3 2 _ rfl
  have q0 := kept_cell4 hb1 hb2 hb3 0 _ rfl
  have q1 := kept_cell4 hb1 hb2 hb3 1 _ rfl
  have q2 := kept_cell4 hb1 hb2 hb3 2 _ rfl
  have f0 := kept_frozen4 hb1 hb2 hb3 0
  have f1 := kept_frozen4 hb1 hb2 hb3 1
  have f2 := kept_frozen4 hb1 hb2 hb3 2
  go_wp2
  exact bodyPost_ret (v := .tuple #[.agg #[.int .i64 x2, .int .i64 x3, .int .i64 (x4 - 1)], .int .i64 0]) (by simp [results, Tryz.results44, go_sem, q0, q1, q2]) rfl ⟨rfl, (((below4 hb1 hb2 hb3).setCell (Nat.le_refl _) _).setCell (Nat.le_refl _) _).setCell (Nat.le_refl _) _⟩

theorem refHeadOf_any (s : ByteArray) (w : World) :
    Calls Tryz.prog 44 #[.string s] w fun e w' => e = .returned (.tuple #[.agg (headOf s).cells, .int .i64 (headF s)]) ∧ Below w.heap.size w w' := by
  by_cases hs : sealF s = 0
  · cases hk : (headAt s).ok with
    | false => exact refHeadOf_bad s w hs hk
    | true =>
      cases ht : ((sealS (headAt s).bytes).toList == s.toList) with
      | false => exact refHeadOf_other s w hs hk ht
      | true => exact refHeadOf_good s w hs hk ht
  · exact refHeadOf_unsealed s w hs
end Go.Proofs.YtncjnjlakhohgaaGreat

namespace Go.Proofs.YtncjnjlakhohgaaGreat
open Go.RowKit
attribute [local go_sem ↓] Go.wp_at_zero Go.wp_at_succ

theorem ne_b {a b : Int} (h : a ≠ b) : (a == b) = false ∧ (a != b) = true := by simp [h]
theorem eq_b {a b : Int} (h : a = b) : (a == b) = true ∧ (a != b) = false := by simp [h]
theorem lt_t {a b : Int} (h : a < b) : decide (a < b) = true := decide_eq_true h
theorem lt_f {a b : Int} (h : b ≤ a) : decide (a < b) = false := decide_eq_false (by omega)

def entB (k p places : Int) : Bool := decide ((k = 2 ∧ 0 ≤ p ∧ p < places) ∨ ((k = 0 ∨ k = 1) ∧ p = 0))

theorem entB_yes {k p n : Int} (h : (k = 2 ∧ 0 ≤ p ∧ p < n) ∨ ((k = 0 ∨ k = 1) ∧ p = 0)) : entB k p n = true := decide_eq_true h
theorem entB_no {k p n : Int} (h : ¬ ((k = 2 ∧ 0 ≤ p ∧ p < n) ∨ ((k = 0 ∨ k = 1) ∧ p = 0))) : entB k p n = false := decide_eq_false h
theorem entB_of {k p n : Int} (h : entB k p n = true) : (k = 2 ∧ 0 ≤ p ∧ p < n) ∨ ((k = 0 ∨ k = 1) ∧ p = 0) := of_decide_eq_true h
theorem entB_not {k p n : Int} (h : entB k p n = false) : ¬ ((k = 2 ∧ 0 ≤ p ∧ p < n) ∨ ((k = 0 ∨ k = 1) ∧ p = 0)) := of_decide_eq_false h

set_option maxRecDepth 100000 in
set_option maxHeartbeats 400000 in
theorem isEntry_any (k p : Int) (w : World) :
    Calls Tryz.prog 94 #[.agg #[.int .i64 k, .int .i64 p]] w fun e w' => e = .returned (.bool (entB k p 40)) ∧ Below w.heap.size w w' := by
  have hbel : Below w.heap.size w (w.alloc (.cells #[.int .i64 k, .int .i64 p] 74)) := (Below.refl _ _).alloc (Nat.le_refl _) _
  by_cases h0 : k = 0
  · have HE : Hid (entB k p 40 = (p == 0)) := by
      unfold Hid
      rw [Bool.eq_iff_iff, beq_iff_eq]
      exact ⟨fun h => by have := entB_of h; omega, fun h => entB_yes (.inr ⟨.inl h0, h⟩)⟩
    obtain ⟨v1, v2⟩ := eq_b h0
    clear h0
    go_enter Tryz.func94, Tryz.ntmps94
    go_wp2
    go_ret
    exact ⟨ret_bool HE.out.symm, hbel⟩
  · by_cases h1 : k = 1
    · have HE : Hid (entB k p 40 = (p == 0)) := by
        unfold Hid
        rw [Bool.eq_iff_iff, beq_iff_eq]
        exact ⟨fun h => by have := entB_of h; omega, fun h => entB_yes (.inr ⟨.inr h1, h⟩)⟩
      obtain ⟨v1, v2⟩ := ne_b h0
      obtain ⟨v3, v4⟩ := eq_b h1
      clear h0 h1
      go_enter Tryz.func94, Tryz.ntmps94
      go_wp2
      go_ret
      exact ⟨ret_bool HE.out.symm, hbel⟩
    · obtain ⟨v1, v2⟩ := ne_b h0
      obtain ⟨v3, v4⟩ := ne_b h1
      by_cases h2 : k = 2
      · have HE : Hid (entB k p 40 = inB p 0 39) := by
          unfold Hid
          rw [Bool.eq_iff_iff]
          exact ⟨fun h => inB_yes (by have := entB_of h; omega), fun h => entB_yes (.inl ⟨h2, by have := of_decide_eq_true h; omega⟩)⟩
        obtain ⟨v5, v6⟩ := eq_b h2
        clear h0 h1 h2
        go_enter Tryz.func94, Tryz.ntmps94
        go_wp2_with (go_at_call 70; refine (within_any _ _ _ _).mono ?_; rintro e w' ⟨rfl, rfl⟩)
        go_ret
        exact ⟨ret_bool HE.out.symm, hbel⟩
      · have HE : Hid (entB k p 40 = false) := entB_no (by omega)
        obtain ⟨v5, v6⟩ := ne_b h2
        clear h0 h1 h2
        go_enter Tryz.func94, Tryz.ntmps94
        go_wp2
        go_ret
        exact ⟨ret_bool HE.out.symm, hbel⟩

set_option maxRecDepth 100000 in
set_option maxHeartbeats 400000 in
theorem entry_any (k p n : Int) (w : World) :
    Calls Tryz.prog 74 #[.agg #[.int .i64 k, .int .i64 p], .int .i64 n] w fun e w' => e = .returned (.bool (entB k p n)) ∧ Below w.heap.size w w' := by
  have hbel : Below w.heap.size w (w.alloc (.cells #[.int .i64 k, .int .i64 p] 74)) := (Below.refl _ _).alloc (Nat.le_refl _) _
  by_cases h2 : k = 2
  · obtain ⟨v5, v6⟩ := eq_b h2
    by_cases hp : 0 ≤ p
    · have HE : Hid (entB k p n = decide (p < n)) := by
        unfold Hid
        rw [Bool.eq_iff_iff, decide_eq_true_eq]
        exact ⟨fun h => by have := entB_of h; omega, fun h => entB_yes (.inl ⟨h2, hp, h⟩)⟩
      have g0 : decide (0 ≤ p) = true := decide_eq_true hp
      clear h2
      go_enter Tryz.func74, Tryz.ntmps74
      go_wp2
      go_ret
      exact ⟨ret_bool HE.out.symm, hbel⟩
    · have HE : Hid (entB k p n = false) := entB_no (by omega)
      have g0 : decide (0 ≤ p) = false := decide_eq_false hp
      clear h2
      go_enter Tryz.func74, Tryz.ntmps74
      go_wp2
      go_ret
      exact ⟨ret_bool HE.out.symm, hbel⟩
  · obtain ⟨v5, v6⟩ := ne_b h2
    by_cases h0 : k = 0
    · have HE : Hid (entB k p n = (p == 0)) := by
        unfold Hid
        rw [Bool.eq_iff_iff, beq_iff_eq]
        exact ⟨fun h => by have := entB_of h; omega, fun h => entB_yes (.inr ⟨.inl h0, h⟩)⟩
      obtain ⟨v1, v2⟩ := eq_b h0
      clear h0 h2
      go_enter Tryz.func74, Tryz.ntmps74
      go_wp2
      go_ret
      exact ⟨ret_bool HE.out.symm, hbel⟩
    · obtain ⟨v1, v2⟩ := ne_b h0
      by_cases h1 : k = 1
      · have HE : Hid (entB k p n = (p == 0)) := by
          unfold Hid
          rw [Bool.eq_iff_iff, beq_iff_eq]
          exact ⟨fun h => by have := entB_of h; omega, fun h => entB_yes (.inr ⟨.inr h1, h⟩)⟩
        obtain ⟨v3, v4⟩ := eq_b h1
        clear h0 h1 h2
        go_enter Tryz.func74, Tryz.ntmps74
        go_wp2
        go_ret
        exact ⟨ret_bool HE.out.symm, hbel⟩
      · have HE : Hid (entB k p n = false) := entB_no (by omega)
        obtain ⟨v3, v4⟩ := ne_b h1
        clear h0 h1 h2
        go_enter Tryz.func74, Tryz.ntmps74
        go_wp2
        go_ret
        exact ⟨ret_bool HE.out.symm, hbel⟩

def rowsN (n : Nat) : Nat := (n + 7) / 8

theorem rows_any (n : Nat) (w : World) (h : n ≤ 50) :
    Calls Tryz.prog 30 #[.int .i64 (n : Int)] w fun e w' => e = .returned (.int .i64 (rowsN n : Int)) ∧ w' = w := by
  go_enter Tryz.func30, Tryz.ntmps30
  go_wp2
  go_ret
  exact ⟨retI (by unfold rowsN; omega), rfl⟩

set_option maxRecDepth 100000 in
set_option maxHeartbeats 400000 in
theorem refRows_any (n : Nat) (w : World) (h : n ≤ 50) :
    Calls Tryz.prog 34 #[.int .i64 (n : Int)] w fun e w' => e = .returned (.int .i64 (rowsN n : Int)) ∧ w' = w := by
  go_enter Tryz.func34, Tryz.ntmps34
  go_wp2
  go_loop [3] (fun i => ∃ k : Nat, k ≤ rowsN n ∧ i = .int .i64 k) (fun i => rowsN n - (intOf i).toNat)
  case atStart => exact ⟨0, Nat.zero_le _, rfl⟩
  case round =>
    obtain ⟨k, hk, rfl⟩ := hrel
    by_cases hlt : k < rowsN n
    · have hb : 8 * k < n := by unfold rowsN at hlt; omega
      have hk2 : k ≤ 10 := by omega
      go_wp2
      go_round
      case rel => exact ⟨k + 1, by omega, by go_num⟩
      case measure => simp [intOf]; omega
    · have hb : n ≤ 8 * k := by unfold rowsN at hlt; omega
      have hk2 : k ≤ 10 := by unfold rowsN at hk; omega
      have hkn : k = rowsN n := by omega
      have HK : Hid (k = rowsN n) := hkn
      clear hkn hk hlt
      go_wp2
      go_ret
      exact ⟨retI (by rw [HK.out]), rfl⟩
end Go.Proofs.YtncjnjlakhohgaaGreat
