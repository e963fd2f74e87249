/-
BitsSays: its walk.
-/
import Derived.Test.YtlfecjgmmhbanaaDoorQBitsFrame
namespace Go.Proofs.YtlfecjgmmhbanaaDoor.S4
open Go.RowKit Go.Shelf
attribute [local go_sem ↓] Go.wp_at_zero Go.wp_at_succ
attribute [local go_sem] Oper.semAt_some

set_option maxRecDepth 100000 in
set_option maxHeartbeats 1000000 in
theorem bits_early (n : Int) (la : Option Addr) (len cap : Nat) (xs : List ActV) (w : World) (hT : Acts w la len xs) (hlen : len ≤ maxLen) (h2 : lightB xs 80 = false) :
    Calls Tryd.prog 4 #[.int .i64 n, .slice la len cap] w fun e w' => e = .returned (.bool true) ∧ Below w.heap.size w w' := by
  have HT0 : Hid (Acts w la len xs) := hT
  clear hT
  refine (callsIn_wide (n := 9)).1 (callsIn_of_wp_marks Tryd.func4 rfl trivial (wpIn_wide.2 ?_) rfl)
  simp only [Tryd.ntmps4, List.size_toArray, List.length_cons, List.length_nil, Nat.reduceAdd, Nat.reduceSub, Array.replicate_succ, Array.replicate_zero, List.push_toArray, List.append_toArray, List.nil_append, List.cons_append]
  have HR : Hid (Boxed (w.alloc (.cells #[.bool false] 4)) w.heap.size 4 (.bool false)) := Boxed.new w _ _
  have HB : Hid (Below w.heap.size w (w.alloc (.cells #[.bool false] 4))) := (Below.refl _ w).alloc (Nat.le_refl _) _
  go_wp2_with fail
  generalize w.alloc (.cells #[.bool false] 4) = w0 at HR HB ⊢
  refine (counts_any w0).mono ?_
  rintro e w1 ⟨rfl, hb1⟩
  have HR1 : Hid (Boxed w1 w.heap.size 4 (.bool false)) := (hb1.block _ HR.out.lt).trans HR.out
  have HB1 : Hid (Below w.heap.size w w1) := HB.out.trans (hb1.mono HB.out.size)
  clear hb1
  go_wp2_with fail
  refine (light_any la len cap 80 xs w1 (HT0.out.below HB1.out) hlen (by omega)).mono ?_
  rintro e w' ⟨he, hw⟩
  have hw' := hw.symm
  subst hw'
  clear hw
  rw [h2] at he
  subst he
  have c1 := HR1.out.cell
  have f1 := HR1.out.frozen
  go_wp2
  exact says_leave [] _ rfl (fun D h => by cases h) List.nodup_nil (HR1.out.set _) rfl (HB1.out.setCell (p := ⟨w.heap.size, 0, none⟩) (Nat.le_refl _) _)

set_option maxRecDepth 100000 in
set_option maxHeartbeats 1000000 in
theorem bits_bad (n : Int) (la : Option Addr) (len cap : Nat) (xs : List ActV) (w : World) (hT : Acts w la len xs) (hlen : len ≤ maxLen) (h2 : lightB xs 80 = true) (hn : n < 0 ∨ 64 < n) :
    Calls Tryd.prog 4 #[.int .i64 n, .slice la len cap] w fun e w' => e = .returned (.bool true) ∧ Below w.heap.size w w' := by
  have HT0 : Hid (Acts w la len xs) := hT
  clear hT
  refine (callsIn_wide (n := 9)).1 (callsIn_of_wp_marks Tryd.func4 rfl trivial (wpIn_wide.2 ?_) rfl)
  simp only [Tryd.ntmps4, List.size_toArray, List.length_cons, List.length_nil, Nat.reduceAdd, Nat.reduceSub, Array.replicate_succ, Array.replicate_zero, List.push_toArray, List.append_toArray, List.nil_append, List.cons_append]
  have HR : Hid (Boxed (w.alloc (.cells #[.bool false] 4)) w.heap.size 4 (.bool false)) := Boxed.new w _ _
  have HB : Hid (Below w.heap.size w (w.alloc (.cells #[.bool false] 4))) := (Below.refl _ w).alloc (Nat.le_refl _) _
  go_wp2_with fail
  generalize w.alloc (.cells #[.bool false] 4) = w0 at HR HB ⊢
  refine (counts_any w0).mono ?_
  rintro e w1 ⟨rfl, hb1⟩
  have HR1 : Hid (Boxed w1 w.heap.size 4 (.bool false)) := (hb1.block _ HR.out.lt).trans HR.out
  have HB1 : Hid (Below w.heap.size w w1) := HB.out.trans (hb1.mono HB.out.size)
  clear hb1
  go_wp2_with fail
  refine (light_any la len cap 80 xs w1 (HT0.out.below HB1.out) hlen (by omega)).mono ?_
  rintro e w' ⟨he, hw⟩
  have hw' := hw.symm
  subst hw'
  clear hw
  rw [h2] at he
  subst he
  have c1 := HR1.out.cell
  have f1 := HR1.out.frozen
  go_wp2_with fail
  refine (snew_bad n w1 hn).mono ?_
  rintro e w' ⟨rfl, hw⟩
  have hw' := hw.symm
  subst hw'
  clear hw
  by_cases q1 : n < 0
  · have g1 : decide (n < 0) = true := decide_eq_true q1
    go_wp2_with fail
    refine (sameE 1 _ (by omega)).mono ?_
    rintro e w' ⟨rfl, hw⟩
    have hw' := hw.symm
    subst hw'
    clear hw
    go_wp2
    exact says_leave [] _ rfl (fun D h => by cases h) List.nodup_nil (HR1.out.set _) rfl (HB1.out.setCell (p := ⟨w.heap.size, 0, none⟩) (Nat.le_refl _) _)
  · have g1 : decide (n < 0) = false := decide_eq_false q1
    have g2 : decide (64 < n) = true := decide_eq_true (by omega)
    go_wp2_with fail
    refine (sameE 1 _ (by omega)).mono ?_
    rintro e w' ⟨rfl, hw⟩
    have hw' := hw.symm
    subst hw'
    clear hw
    go_wp2
    exact says_leave [] _ rfl (fun D h => by cases h) List.nodup_nil (HR1.out.set _) rfl (HB1.out.setCell (p := ⟨w.heap.size, 0, none⟩) (Nat.le_refl _) _)
end Go.Proofs.YtlfecjgmmhbanaaDoor.S4
