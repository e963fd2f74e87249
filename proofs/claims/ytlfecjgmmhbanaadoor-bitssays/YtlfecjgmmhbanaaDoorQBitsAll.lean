/-
All numbers of a set, rising: the iterator (All and its function), held against the list of them.
-/
import Derived.Test.YtlfecjgmmhbanaaDoorQBits
import Derived.RangeFuncNested
import Derived.RangeFuncBound
import Derived.RangeFuncCalls
import Derived.RangeFuncLeaves
import Derived.Shelf.Abstract
import Derived.Shelf.RegionOpen
import Derived.OwnWalkIn
import Derived.TacticsInMore
import Derived.LoopNIn
import Derived.LoopIn
namespace Go.Proofs.YtlfecjgmmhbanaaDoor.S4
open Go.RowKit Go.Shelf
attribute [local go_sem ↓] Go.wp_at_zero Go.wp_at_succ

/- The numbers below k that are in, rising. -/
def elemsTo (x : Nat) : Nat → List Nat
  | 0 => []
  | k + 1 => elemsTo x k ++ if x.testBit k then [k] else []

def elems (x : Nat) : List Nat := elemsTo x 64

theorem elemsTo_len (x k : Nat) : (elemsTo x k).length = cnt x k := by
  induction k with
  | zero => rfl
  | succ k ih =>
    show (elemsTo x k ++ _).length = cnt x k + _
    rw [List.length_append, ih]
    split <;> rfl

theorem elemsTo_zero (k : Nat) : elemsTo 0 k = [] := by
  induction k with
  | zero => rfl
  | succ k ih => show elemsTo 0 k ++ _ = []; rw [ih]; simp

theorem elemsTo_mem (x k j : Nat) : j ∈ elemsTo x k ↔ j < k ∧ x.testBit j = true := by
  induction k with
  | zero => simp [elemsTo]
  | succ k ih =>
    show j ∈ elemsTo x k ++ _ ↔ _
    rw [List.mem_append, ih]
    by_cases h : x.testBit k = true
    · rw [if_pos h, List.mem_singleton]
      constructor
      · rintro (⟨h1, h2⟩ | rfl)
        · exact ⟨by omega, h2⟩
        · exact ⟨by omega, h⟩
      · rintro ⟨h1, h2⟩
        by_cases e : j = k
        · exact .inr e
        · exact .inl ⟨by omega, h2⟩
    · rw [if_neg h]
      constructor
      · rintro (⟨h1, h2⟩ | h1)
        · exact ⟨by omega, h2⟩
        · cases h1
      · rintro ⟨h1, h2⟩
        by_cases e : j = k
        · subst e; exact absurd h2 h
        · exact .inl ⟨by omega, h2⟩

theorem elemsTo_rise (x k : Nat) : List.Pairwise (· < ·) (elemsTo x k) := by
  induction k with
  | zero => exact List.Pairwise.nil
  | succ k ih =>
    show List.Pairwise (· < ·) (elemsTo x k ++ _)
    rw [List.pairwise_append]
    refine ⟨ih, ?_, ?_⟩
    · split
      · exact List.pairwise_singleton _ _
      · exact List.Pairwise.nil
    · intro a ha b hb
      have h1 := ((elemsTo_mem x k a).1 ha).1
      split at hb
      · rw [List.mem_singleton] at hb; omega
      · cases hb

/- The lowest one, and what is left without it. -/
theorem low_parts (x : Nat) (h0 : x ≠ 0) (hx : x < 18446744073709551616) : ∃ m, x = 2 ^ Lib.ctz 64 x * (2 * m + 1) ∧ Lib.ctz 64 x < 64 := by
  have := Lib.ctzFrom_spec 64 x (by omega) hx
  unfold Lib.ctz
  rw [if_neg h0]
  exact this

theorem low_bit (c m j : Nat) : (2 ^ c * (2 * m + 1)).testBit j = (decide (c ≤ j) && (2 * m + 1).testBit (j - c)) := Nat.testBit_two_pow_mul ..

theorem rest_bit (c m j : Nat) : ((2 ^ c * (2 * m + 1)) &&& (2 ^ c * (2 * m + 1) - 1)).testBit j = ((2 ^ c * (2 * m + 1)).testBit j && decide (j ≠ c)) := by
  have hp : 0 < 2 ^ c := Nat.pow_pos (by decide)
  have e : 2 ^ c * (2 * m + 1) - 1 = 2 ^ c * (2 * m) + (2 ^ c - 1) := by
    rw [Nat.mul_add, Nat.mul_one]; omega
  rw [Nat.testBit_and, e, Nat.testBit_two_pow_mul_add _ (by omega), low_bit]
  by_cases h : j < c
  · simp [show ¬ c ≤ j by omega]
  · rw [if_neg h]
    have h1 : decide (c ≤ j) = true := decide_eq_true (by omega)
    rw [h1, Bool.true_and]
    by_cases hj : j = c
    · subst hj
      simp [Nat.testBit_zero]
    · obtain ⟨k, hk⟩ : ∃ k, j - c = k + 1 := ⟨j - c - 1, by omega⟩
      rw [hk, Nat.testBit_succ, Nat.testBit_succ, show (2 * m + 1) / 2 = m by omega, show 2 * m / 2 = m by omega]
      simp [hj]

theorem elems_step (x : Nat) (h0 : x ≠ 0) (hx : x < 18446744073709551616) : elems x = Lib.ctz 64 x :: elems (x &&& (x - 1)) ∧ (x &&& (x - 1)) < x ∧ Lib.ctz 64 x < 64 := by
  obtain ⟨m, e, hc⟩ := low_parts x h0 hx
  generalize Lib.ctz 64 x = c at e hc
  refine ⟨?_, Nat.lt_of_le_of_lt Nat.and_le_right (by omega), hc⟩
  have hb : ∀ j, j < c → x.testBit j = false := fun j hj => by rw [e, low_bit]; simp [show ¬ c ≤ j by omega]
  have hcb : x.testBit c = true := by rw [e, low_bit]; simp [Nat.testBit_zero]
  have hr : ∀ j, (x &&& (x - 1)).testBit j = (x.testBit j && decide (j ≠ c)) := fun j => by
    rw [e]; exact rest_bit c m j
  generalize x &&& (x - 1) = y at hr
  have z1 : ∀ k, k ≤ c → elemsTo x k = [] ∧ elemsTo y k = [] := by
    intro k
    induction k with
    | zero => intro _; exact ⟨rfl, rfl⟩
    | succ k ih =>
      intro hk
      obtain ⟨i1, i2⟩ := ih (by omega)
      have b1 := hb k (by omega)
      have b2 : y.testBit k = false := by rw [hr, b1]; rfl
      refine ⟨?_, ?_⟩
      · show elemsTo x k ++ _ = []; rw [i1, b1]; rfl
      · show elemsTo y k ++ _ = []; rw [i2, b2]; rfl
  have z2 : ∀ k, elemsTo x (c + 1 + k) = c :: elemsTo y (c + 1 + k) := by
    intro k
    induction k with
    | zero =>
      obtain ⟨i1, i2⟩ := z1 c (Nat.le_refl _)
      have b2 : y.testBit c = false := by rw [hr]; simp
      show elemsTo x c ++ _ = c :: (elemsTo y c ++ _)
      rw [i1, i2, hcb, b2]; rfl
    | succ k ih =>
      have es : ∀ z, elemsTo z (c + 1 + (k + 1)) = elemsTo z (c + 1 + k) ++ if z.testBit (c + 1 + k) then [c + 1 + k] else [] := fun z => rfl
      have : decide (c + 1 + k ≠ c) = true := decide_eq_true (by omega)
      rw [es, es, ih, hr, List.cons_append, this, Bool.and_true]
  have := z2 (63 - c)
  rw [show c + 1 + (63 - c) = 64 by omega] at this
  exact this

theorem elems_zero : elems 0 = [] := elemsTo_zero 64

/- The table of Go's library, in its variable. -/
def Tab (w : World) : Prop := ∀ j, j < Lib.deBruijn64tab.length → w.cell? ⟨0, j, none⟩ = some (.int .u8 (Lib.deBruijn64tab.getD j 0 : Nat))

theorem tz_key (x a : Nat) (hx : x < 18446744073709551616) (hx0 : x ≠ 0) (hlow : x &&& (18446744073709551616 - x) = a) :
    IntKind.u64.wrap (bits BinOp.and IntKind.u64 (x : Int) (IntKind.u64.wrap (-(x : Int))) * 285870213051353865) / 288230376151711744 = ((a * 285870213051353865 % 18446744073709551616 / 288230376151711744 : Nat) : Int) := by
  have e1 : IntKind.u64.wrap (-(x : Int)) = ((18446744073709551616 - x : Nat) : Int) := by rw [IntKind.wrap_u64]; omega
  rw [e1, bits_and_u64_nat x _ hx (by omega), hlow, IntKind.wrap_u64]
  omega

set_option maxRecDepth 100000 in
set_option maxHeartbeats 1000000 in
theorem tz_core (x k idx : Nat) (w : World) (hx0 : ((x : Int) == 0) = false)
    (key : IntKind.u64.wrap (bits BinOp.and IntKind.u64 (x : Int) (IntKind.u64.wrap (-(x : Int))) * 285870213051353865) / 288230376151711744 = (idx : Int))
    (hi : idx < 64) (hk : k < 64) (hcell : w.cell? ⟨0, idx, none⟩ = some (.int .u8 (k : Int))) :
    Calls Tryd.prog 26 #[.int .u64 (x : Int)] w fun e w' => e = .returned (.int .i64 (k : Int)) ∧ w' = w := by
  go_enter Tryd.func26, Tryd.ntmps26
  go_wp2_with (simp only [key])
  go_ret
  exact ⟨rfl, rfl⟩

theorem tz_any (x : Nat) (w : World) (h0 : x ≠ 0) (hx : x < 18446744073709551616) (hT : Tab w) :
    Calls Tryd.prog 26 #[.int .u64 (x : Int)] w fun e w' => e = .returned (.int .i64 ((Lib.ctz 64 x : Nat) : Int)) ∧ w' = w := by
  obtain ⟨hlow, hk⟩ := Lib.lowest_bit 64 x h0 hx
  obtain ⟨hi, htab⟩ := Lib.deBruijn64_at _ hk
  have hcell := hT _ hi
  rw [htab] at hcell
  exact tz_core x _ _ w (by simp; omega) (tz_key x _ hx h0 hlow) hi hk hcell

set_option maxRecDepth 100000 in
set_option maxHeartbeats 400000 in
theorem sall_any {p n x : Nat} (w : World) (h : IsSet w p n x) :
    Calls Tryd.prog 16 #[.pointer (some ⟨p, 0, none⟩)] w fun e w' => e = .returned (.func (.func 25) #[] #[.pointer (some ⟨w.heap.size, 0, none⟩)]) ∧ w' = w.alloc (.cells #[.int .u64 (x : Int)] 54) := by
  have hmf : ∀ (fn : Fn) (first cap : Array Value) (w : World), (Instr.makeFunc fn first cap).run Tryd.prog w = .ok (.func fn first cap) w := fun _ _ _ _ => rfl
  obtain ⟨c0, c1, fz⟩ := h.cells
  clear h
  go_enter Tryd.func16, Tryd.ntmps16
  go_wp2
  go_ret
  exact ⟨rfl, rfl⟩
end Go.Proofs.YtlfecjgmmhbanaaDoor.S4
