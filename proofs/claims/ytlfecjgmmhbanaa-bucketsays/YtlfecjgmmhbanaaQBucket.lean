/-
A bucket of tokens (package bucket), and the document's own (package stackyardref): how each lies in memory, and what each call on it gives.
-/
import Derived.Test.YtlfecjgmmhbanaaQActs4
import Derived.Deep.RegionHeld3
import Derived.Deep.DrawnRows
namespace Go.Proofs.Ytlfecjgmmhbanaa.S4
open Go.RowKit
attribute [local go_sem ↓] Go.wp_at_zero Go.wp_at_succ

/- A block of three numbers: rate, burst, level. -/
def Three (t : TypeId) (w : World) (p : Nat) (r b l : Int) : Prop := w.heap[p]? = some (.cells #[.int .i64 r, .int .i64 b, .int .i64 l] t (0, 0))

theorem Three.cells {t : TypeId} {w : World} {p : Nat} {r b l : Int} (h : Three t w p r b l) :
    w.cell? ⟨p, 0, none⟩ = some (.int .i64 r) ∧ w.cell? ⟨p, 1, none⟩ = some (.int .i64 b) ∧ w.cell? ⟨p, 2, none⟩ = some (.int .i64 l) ∧ w.frozen? ⟨p, 2, none⟩ = false := by
  have h' : w.heap[p]? = _ := h
  refine ⟨?_, ?_, ?_, ?_⟩ <;> simp [World.cell?, World.frozen?, h']

theorem Three.set {t : TypeId} {w : World} {p : Nat} {r b l : Int} (h : Three t w p r b l) (l' : Int) : Three t (w.setCell ⟨p, 2, none⟩ (.int .i64 l')) p r b l' := by
  unfold Three
  rw [heap_setCell_same w p 2 _ _ _ h]
  rfl

theorem Three.other {t : TypeId} {w : World} {p q : Nat} {r b l : Int} (h : Three t w p r b l) (hne : p ≠ q) (o : Nat) (u : Value) : Three t (w.setCell ⟨q, o, none⟩ u) p r b l := by
  unfold Three
  rw [heap_setCell_other w ⟨q, o, none⟩ p u hne]
  exact h

theorem Three.below {t : TypeId} {w w' : World} {p : Nat} {r b l : Int} (h : Three t w p r b l) (hb : Below w.heap.size w w') : Three t w' p r b l :=
  (hb.block p (lt_of_some h)).trans h

theorem Three.ne {t t' : TypeId} {w : World} {p q : Nat} {r b l r' b' l' : Int} (h : Three t w p r b l) (h' : Three t' w q r' b' l') (ht : t ≠ t') : p ≠ q := fun e => by
  subst e
  have : some (Obj.cells _ t _) = some (Obj.cells _ t' _) := (show w.heap[p]? = _ from h).symm.trans h'
  simp at this
  exact ht this.2

theorem new_block (w : World) (o : Obj) : (w.alloc o).heap[w.heap.size]? = some o := by
  show (w.heap.push o)[w.heap.size]? = some o
  simp

def inB (n most : Int) : Bool := decide (0 ≤ n ∧ n ≤ most)

set_option maxRecDepth 100000 in
set_option maxHeartbeats 400000 in
theorem within_any (n most : Int) (w : World) : Calls Try.prog 101 #[.int .i64 n, .int .i64 most] w fun e w' => e = .returned (.bool (inB n most)) ∧ w' = w := by
  by_cases h0 : 0 ≤ n
  · have g0 : decide (0 ≤ n) = true := decide_eq_true h0
    have HF : Hid (decide (n ≤ most) = inB n most) := by unfold Hid inB; simp [h0]
    go_enter Try.func101, Try.ntmps101
    go_wp2
    go_ret
    exact ⟨ret_lb HF.out, rfl⟩
  · have g0 : decide (0 ≤ n) = false := decide_eq_false h0
    have HF : Hid (false = inB n most) := by unfold Hid inB; simp [h0]
    go_enter Try.func101, Try.ntmps101
    go_wp2
    go_ret
    exact ⟨ret_lb HF.out, rfl⟩

set_option maxRecDepth 100000 in
set_option maxHeartbeats 400000 in
theorem bnew_bad (r b : Int) (w : World) (h : (inB r 1000 && inB b 1000) = false) :
    Calls Try.prog 67 #[.int .i64 r, .int .i64 b] w fun e w' => e = .returned (.tuple #[.pointer none, .iface 121 (.int .i64 1)]) ∧ w' = w := by
  have h1 := within_any r 1000 w
  have h2 := within_any b 1000 w
  cases e1 : inB r 1000 with
  | false =>
    rw [e1] at h1
    go_enter Try.func67, Try.ntmps67
    go_wp2_with fail
    refine h1.mono ?_
    rintro e w' ⟨rfl, hw⟩
    have hw' := hw.symm
    subst hw'
    clear hw
    go_wp2
    go_ret2
    exact ⟨rfl, rfl⟩
  | true =>
    have e2 : inB b 1000 = false := by simpa [e1] using h
    rw [e1] at h1
    rw [e2] at h2
    go_enter Try.func67, Try.ntmps67
    go_wp2_with fail
    refine h1.mono ?_
    rintro e w' ⟨rfl, hw⟩
    have hw' := hw.symm
    subst hw'
    clear hw
    go_wp2_with fail
    refine h2.mono ?_
    rintro e w' ⟨rfl, hw⟩
    have hw' := hw.symm
    subst hw'
    clear hw
    go_wp2
    go_ret2
    exact ⟨rfl, rfl⟩

set_option maxRecDepth 100000 in
set_option maxHeartbeats 400000 in
theorem bnew_good (r b : Int) (w : World) (e1 : inB r 1000 = true) (e2 : inB b 1000 = true) :
    Calls Try.prog 67 #[.int .i64 r, .int .i64 b] w fun e w' => e = .returned (.tuple #[.pointer (some ⟨w.heap.size, 0, none⟩), .nilIface]) ∧ Three 156 w' w.heap.size r b b ∧ Below w.heap.size w w' := by
  have h1 := within_any r 1000 w
  have h2 := within_any b 1000 w
  rw [e1] at h1
  rw [e2] at h2
  go_enter Try.func67, Try.ntmps67
  go_wp2_with fail
  refine h1.mono ?_
  rintro e w' ⟨rfl, hw⟩
  have hw' := hw.symm
  subst hw'
  clear hw
  go_wp2_with fail
  refine h2.mono ?_
  rintro e w' ⟨rfl, hw⟩
  have hw' := hw.symm
  subst hw'
  clear hw h1 h2
  go_wp2
  go_ret2
  exact ⟨rfl, new_block w _, (Below.refl _ w).alloc (Nat.le_refl _) _⟩

set_option maxRecDepth 100000 in
set_option maxHeartbeats 400000 in
theorem level_any {p : Nat} {r b l : Int} (w : World) (h : Three 156 w p r b l) :
    Calls Try.prog 72 #[.pointer (some ⟨p, 0, none⟩)] w fun e w' => e = .returned (.int .i64 l) ∧ w' = w := by
  obtain ⟨c0, c1, c2, fz⟩ := h.cells
  clear h
  go_enter Try.func72, Try.ntmps72
  go_wp2
  go_ret
  exact ⟨rfl, rfl⟩

set_option maxRecDepth 100000 in
set_option maxHeartbeats 400000 in
theorem tick_bad {p : Nat} (n : Int) (w : World) (h : inB n 100000 = false) :
    Calls Try.prog 69 #[.pointer (some ⟨p, 0, none⟩), .int .i64 n] w fun e w' => e = .returned (.iface 121 (.int .i64 1)) ∧ w' = w := by
  have h1 := within_any n 100000 w
  rw [h] at h1
  go_enter Try.func69, Try.ntmps69
  go_wp2_with fail
  refine h1.mono ?_
  rintro e w' ⟨rfl, hw⟩
  have hw' := hw.symm
  subst hw'
  clear hw
  go_wp2
  go_ret
  exact ⟨rfl, rfl⟩

def tickV (r b l n : Int) : Int := if b < l + n * r then b else l + n * r

theorem Three.kept {t : TypeId} {w w' : World} {p : Nat} {r b l : Int} {S : Nat → Prop} (h : Three t w p r b l) (hk : Kept S w w') (hs : ¬ S p) : Three t w' p r b l :=
  (hk.block p (lt_of_some h) hs).trans h

theorem Three.drew {t : TypeId} {w : World} {p : Nat} {r b l : Int} (h : Three t w p r b l) : Three t w.drew p r b l := h

set_option maxRecDepth 100000 in
set_option maxHeartbeats 400000 in
theorem tick_good {p : Nat} {r b l : Int} (n : Int) (w : World) (h : Three 156 w p r b l) (hn : inB n 100000 = true) (hr : 0 ≤ r ∧ r ≤ 1000) (hl : 0 ≤ l ∧ l ≤ 1000) :
    Calls Try.prog 69 #[.pointer (some ⟨p, 0, none⟩), .int .i64 n] w fun e w' => e = .returned .nilIface ∧ Three 156 w' p r b (tickV r b l n) ∧ Kept (fun k => k = p) w w' := by
  have HH : Hid (Three 156 w p r b l) := h
  obtain ⟨c0, c1, c2, fz⟩ := h.cells
  clear h
  have h1 := within_any n 100000 w
  rw [hn] at h1
  have hn' : 0 ≤ n ∧ n ≤ 100000 := by unfold inB at hn; simpa using hn
  have e1 : IntKind.i64.wrap (n * r) = n * r := by
    have : 0 ≤ n * r := Int.mul_nonneg hn'.1 hr.1
    have : n * r ≤ 100000 * 1000 := Int.mul_le_mul hn'.2 hr.2 hr.1 (by omega)
    exact IntWalk.i64_in _ (by omega)
  have e2 : IntKind.i64.wrap (l + n * r) = l + n * r := by
    have : 0 ≤ n * r := Int.mul_nonneg hn'.1 hr.1
    have : n * r ≤ 100000 * 1000 := Int.mul_le_mul hn'.2 hr.2 hr.1 (by omega)
    exact IntWalk.i64_in _ (by omega)
  by_cases hb : b < l + n * r
  · have HV : Hid (tickV r b l n = b) := by unfold Hid tickV; rw [if_pos hb]
    go_enter Try.func69, Try.ntmps69
    go_wp2_with fail
    refine h1.mono ?_
    rintro e w' ⟨rfl, hw⟩
    have hw' := hw.symm
    subst hw'
    clear hw
    go_wp2_with fail
    go_region
    go_wp2
    go_ret
    exact ⟨rfl, by rw [HV.out]; exact (HH.out.set _).drew, (Kept.setCell (S := fun k => k = p) (Kept.refl _ w) (p := ⟨p, 2, none⟩) (.inl rfl) _).drew⟩
  · have HV : Hid (tickV r b l n = l + n * r) := by unfold Hid tickV; rw [if_neg hb]
    go_enter Try.func69, Try.ntmps69
    go_wp2_with fail
    refine h1.mono ?_
    rintro e w' ⟨rfl, hw⟩
    have hw' := hw.symm
    subst hw'
    clear hw
    go_wp2_with fail
    go_region
    go_wp2
    go_ret
    exact ⟨rfl, by rw [HV.out]; exact (HH.out.set _).drew, (Kept.setCell (S := fun k => k = p) (Kept.refl _ w) (p := ⟨p, 2, none⟩) (.inl rfl) _).drew⟩

def takeV (l n : Int) : Int := if inB n l then l - n else l

set_option maxRecDepth 100000 in
set_option maxHeartbeats 400000 in
theorem take_any {p : Nat} {r b l : Int} (n : Int) (w : World) (h : Three 156 w p r b l) (hl : 0 ≤ l ∧ l ≤ 1000) :
    Calls Try.prog 70 #[.pointer (some ⟨p, 0, none⟩), .int .i64 n] w fun e w' => e = .returned (.bool (inB n l)) ∧ Three 156 w' p r b (takeV l n) ∧ Kept (fun k => k = p) w w' := by
  have HH : Hid (Three 156 w p r b l) := h
  obtain ⟨c0, c1, c2, fz⟩ := h.cells
  clear h
  have h1 := within_any n l w
  cases hn : inB n l with
  | false =>
    rw [hn] at h1
    have HV : Hid (takeV l n = l) := by unfold Hid takeV; simp [hn]
    go_enter Try.func70, Try.ntmps70
    go_wp2_with fail
    refine h1.mono ?_
    rintro e w' ⟨rfl, hw⟩
    have hw' := hw.symm
    subst hw'
    clear hw
    go_wp2
    go_ret
    exact ⟨rfl, by rw [HV.out]; exact HH.out, Kept.refl _ w⟩
  | true =>
    rw [hn] at h1
    have hn' : 0 ≤ n ∧ n ≤ l := by unfold inB at hn; simpa using hn
    have HV : Hid (takeV l n = l - n) := by unfold Hid takeV; simp [hn]
    have e2 : IntKind.i64.wrap (l - n) = l - n := IntWalk.i64_in _ (by omega)
    go_enter Try.func70, Try.ntmps70
    go_wp2_with fail
    refine h1.mono ?_
    rintro e w' ⟨rfl, hw⟩
    have hw' := hw.symm
    subst hw'
    clear hw
    go_wp2
    go_ret
    exact ⟨rfl, by rw [HV.out]; exact HH.out.set _, Kept.setCell (S := fun k => k = p) (Kept.refl _ w) (p := ⟨p, 2, none⟩) (.inl rfl) _⟩
end Go.Proofs.Ytlfecjgmmhbanaa.S4
