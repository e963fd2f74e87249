/-
Entries of a table (C2): what may be; how many rows; in the program and in the document's answer.
-/
import Derived.Test.YtncjnjlakhohgaaQShapeHead3
namespace Go.Proofs.Ytncjnjlakhohgaa
open Go.RowKit
attribute [local go_sem ↓] Go.wp_at_zero Go.wp_at_succ

theorem ne_b {a b : Int} (h : a ≠ b) : (a == b) = false ∧ (a != b) = true := by simp [h]
theorem eq_b {a b : Int} (h : a = b) : (a == b) = true ∧ (a != b) = false := by simp [h]
theorem lt_t {a b : Int} (h : a < b) : decide (a < b) = true := decide_eq_true h
theorem lt_f {a b : Int} (h : b ≤ a) : decide (a < b) = false := decide_eq_false (by omega)

def entB (k p places : Int) : Bool := decide ((k = 2 ∧ 0 ≤ p ∧ p < places) ∨ ((k = 0 ∨ k = 1) ∧ p = 0))

theorem entB_yes {k p n : Int} (h : (k = 2 ∧ 0 ≤ p ∧ p < n) ∨ ((k = 0 ∨ k = 1) ∧ p = 0)) : entB k p n = true := decide_eq_true h
theorem entB_no {k p n : Int} (h : ¬ ((k = 2 ∧ 0 ≤ p ∧ p < n) ∨ ((k = 0 ∨ k = 1) ∧ p = 0))) : entB k p n = false := decide_eq_false h
theorem entB_of {k p n : Int} (h : entB k p n = true) : (k = 2 ∧ 0 ≤ p ∧ p < n) ∨ ((k = 0 ∨ k = 1) ∧ p = 0) := of_decide_eq_true h
theorem entB_not {k p n : Int} (h : entB k p n = false) : ¬ ((k = 2 ∧ 0 ≤ p ∧ p < n) ∨ ((k = 0 ∨ k = 1) ∧ p = 0)) := of_decide_eq_false h

set_option maxRecDepth 100000 in
set_option maxHeartbeats 400000 in
theorem isEntry_any (k p : Int) (w : World) :
    Calls Try.prog 78 #[.agg #[.int .i64 k, .int .i64 p]] w fun e w' => e = .returned (.bool (entB k p 40)) ∧ Below w.heap.size w w' := by
  have hbel : Below w.heap.size w (w.alloc (.cells #[.int .i64 k, .int .i64 p] 78)) := (Below.refl _ _).alloc (Nat.le_refl _) _
  by_cases h0 : k = 0
  · have HE : Hid (entB k p 40 = (p == 0)) := by
      unfold Hid
      rw [Bool.eq_iff_iff, beq_iff_eq]
      exact ⟨fun h => by have := entB_of h; omega, fun h => entB_yes (.inr ⟨.inl h0, h⟩)⟩
    obtain ⟨v1, v2⟩ := eq_b h0
    clear h0
    go_enter Try.func78, Try.ntmps78
    go_wp2
    go_ret
    exact ⟨ret_bool HE.out.symm, hbel⟩
  · by_cases h1 : k = 1
    · have HE : Hid (entB k p 40 = (p == 0)) := by
        unfold Hid
        rw [Bool.eq_iff_iff, beq_iff_eq]
        exact ⟨fun h => by have := entB_of h; omega, fun h => entB_yes (.inr ⟨.inr h1, h⟩)⟩
      obtain ⟨v1, v2⟩ := ne_b h0
      obtain ⟨v3, v4⟩ := eq_b h1
      clear h0 h1
      go_enter Try.func78, Try.ntmps78
      go_wp2
      go_ret
      exact ⟨ret_bool HE.out.symm, hbel⟩
    · obtain ⟨v1, v2⟩ := ne_b h0
      obtain ⟨v3, v4⟩ := ne_b h1
      by_cases h2 : k = 2
      · have HE : Hid (entB k p 40 = inB p 0 39) := by
          unfold Hid
          rw [Bool.eq_iff_iff]
          exact ⟨fun h => inB_yes (by have := entB_of h; omega), fun h => entB_yes (.inl ⟨h2, by have := of_decide_eq_true h; omega⟩)⟩
        obtain ⟨v5, v6⟩ := eq_b h2
        clear h0 h1 h2
        go_enter Try.func78, Try.ntmps78
        go_wp2_with (go_at_call 75; refine (within_any _ _ _ _).mono ?_; rintro e w' ⟨rfl, rfl⟩)
        go_ret
        exact ⟨ret_bool HE.out.symm, hbel⟩
      · have HE : Hid (entB k p 40 = false) := entB_no (by omega)
        obtain ⟨v5, v6⟩ := ne_b h2
        clear h0 h1 h2
        go_enter Try.func78, Try.ntmps78
        go_wp2
        go_ret
        exact ⟨ret_bool HE.out.symm, hbel⟩

set_option maxRecDepth 100000 in
set_option maxHeartbeats 400000 in
theorem entry_any (k p n : Int) (w : World) :
    Calls Try.prog 79 #[.agg #[.int .i64 k, .int .i64 p], .int .i64 n] w fun e w' => e = .returned (.bool (entB k p n)) ∧ Below w.heap.size w w' := by
  have hbel : Below w.heap.size w (w.alloc (.cells #[.int .i64 k, .int .i64 p] 78)) := (Below.refl _ _).alloc (Nat.le_refl _) _
  by_cases h2 : k = 2
  · obtain ⟨v5, v6⟩ := eq_b h2
    by_cases hp : 0 ≤ p
    · have HE : Hid (entB k p n = decide (p < n)) := by
        unfold Hid
        rw [Bool.eq_iff_iff, decide_eq_true_eq]
        exact ⟨fun h => by have := entB_of h; omega, fun h => entB_yes (.inl ⟨h2, hp, h⟩)⟩
      have g0 : decide (0 ≤ p) = true := decide_eq_true hp
      clear h2
      go_enter Try.func79, Try.ntmps79
      go_wp2
      go_ret
      exact ⟨ret_bool HE.out.symm, hbel⟩
    · have HE : Hid (entB k p n = false) := entB_no (by omega)
      have g0 : decide (0 ≤ p) = false := decide_eq_false hp
      clear h2
      go_enter Try.func79, Try.ntmps79
      go_wp2
      go_ret
      exact ⟨ret_bool HE.out.symm, hbel⟩
  · obtain ⟨v5, v6⟩ := ne_b h2
    by_cases h0 : k = 0
    · have HE : Hid (entB k p n = (p == 0)) := by
        unfold Hid
        rw [Bool.eq_iff_iff, beq_iff_eq]
        exact ⟨fun h => by have := entB_of h; omega, fun h => entB_yes (.inr ⟨.inl h0, h⟩)⟩
      obtain ⟨v1, v2⟩ := eq_b h0
      clear h0 h2
      go_enter Try.func79, Try.ntmps79
      go_wp2
      go_ret
      exact ⟨ret_bool HE.out.symm, hbel⟩
    · obtain ⟨v1, v2⟩ := ne_b h0
      by_cases h1 : k = 1
      · have HE : Hid (entB k p n = (p == 0)) := by
          unfold Hid
          rw [Bool.eq_iff_iff, beq_iff_eq]
          exact ⟨fun h => by have := entB_of h; omega, fun h => entB_yes (.inr ⟨.inr h1, h⟩)⟩
        obtain ⟨v3, v4⟩ := eq_b h1
        clear h0 h1 h2
        go_enter Try.func79, Try.ntmps79
        go_wp2
        go_ret
        exact ⟨ret_bool HE.out.symm, hbel⟩
      · have HE : Hid (entB k p n = false) := entB_no (by omega)
        obtain ⟨v3, v4⟩ := ne_b h1
        clear h0 h1 h2
        go_enter Try.func79, Try.ntmps79
        go_wp2
        go_ret
        exact ⟨ret_bool HE.out.symm, hbel⟩

def rowsN (n : Nat) : Nat := (n + 7) / 8

theorem rows_any (n : Nat) (w : World) (h : n ≤ 50) :
    Calls Try.prog 46 #[.int .i64 (n : Int)] w fun e w' => e = .returned (.int .i64 (rowsN n : Int)) ∧ w' = w := by
  go_enter Try.func46, Try.ntmps46
  go_wp2
  go_ret
  exact ⟨retI (by unfold rowsN; omega), rfl⟩

set_option maxRecDepth 100000 in
set_option maxHeartbeats 400000 in
theorem refRows_any (n : Nat) (w : World) (h : n ≤ 50) :
    Calls Try.prog 47 #[.int .i64 (n : Int)] w fun e w' => e = .returned (.int .i64 (rowsN n : Int)) ∧ w' = w := by
  go_enter Try.func47, Try.ntmps47
  go_wp2
  go_loop [3] (fun i => ∃ k : Nat, k ≤ rowsN n ∧ i = .int .i64 k) (fun i => rowsN n - (intOf i).toNat)
  case atStart => exact ⟨0, Nat.zero_le _, rfl⟩
  case round =>
    obtain ⟨k, hk, rfl⟩ := hrel
    by_cases hlt : k < rowsN n
    · have hb : 8 * k < n := by unfold rowsN at hlt; omega
      have hk2 : k ≤ 10 := by omega
      go_wp2
      go_round
      case rel => exact ⟨k + 1, by omega, by go_num⟩
      case measure => simp [intOf]; omega
    · have hb : n ≤ 8 * k := by unfold rowsN at hlt; omega
      have hk2 : k ≤ 10 := by unfold rowsN at hk; omega
      have hkn : k = rowsN n := by omega
      have HK : Hid (k = rowsN n) := hkn
      clear hkn hk hlt
      go_wp2
      go_ret
      exact ⟨retI (by rw [HK.out]), rfl⟩
end Go.Proofs.Ytncjnjlakhohgaa
