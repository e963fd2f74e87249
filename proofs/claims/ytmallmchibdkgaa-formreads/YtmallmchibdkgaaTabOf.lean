/-
A table of rows (C2), in the document's answer: what TableOf gives.
-/
import Derived.Test.YtmallmchibdkgaaTabRead2
namespace Go.Proofs.Ytmallmchibdkgaa
open Go.RowKit
attribute [local go_sem ↓] Go.wp_at_zero Go.wp_at_succ

/- Is an entry's like among the first? -/
def dupB (acc : List (Int × Int)) (e : Int × Int) (j : Nat) : Bool := (acc.take j).any fun x => decide (e.1 = 2 ∧ x = e)

theorem dupB_succ (acc : List (Int × Int)) (e : Int × Int) (j : Nat) (hj : j < acc.length) : dupB acc e (j + 1) = (dupB acc e j || decide (e.1 = 2 ∧ acc.getD j (0, 0) = e)) := by
  unfold dupB
  have : acc.take (j + 1) = acc.take j ++ [acc.getD j (0, 0)] := by
    rw [List.take_succ_eq_append_getElem hj]; simp [List.getD, List.getElem?_eq_getElem hj]
  rw [this, List.any_append]
  simp

theorem dupB_all (acc : List (Int × Int)) (e : Int × Int) : dupB acc e acc.length = decide (e.1 = 2 ∧ e ∈ acc) := by
  unfold dupB
  rw [List.take_length, Bool.eq_iff_iff, List.any_eq_true]
  constructor
  · rintro ⟨x, hx, h⟩
    have h2 := of_decide_eq_true h
    exact decide_eq_true ⟨h2.1, h2.2 ▸ hx⟩
  · intro h
    have h2 := of_decide_eq_true h
    exact ⟨e, h2.2, decide_eq_true ⟨h2.1, rfl⟩⟩

theorem dup_step (B x : Bool) (h : x = true) : (B && !x) = false := by rw [h]; cases B <;> rfl

/- The slice that is being made, and the boxes beside it. -/
structure IsOf (B : Nat) (w : World) (v : Value) (acc : List (Int × Int)) : Prop where
  own : w.ownsRow B 78 2 v acc.length (entV acc)

theorem IsOf.below {B : Nat} {w w' : World} {v : Value} {acc : List (Int × Int)} (h : IsOf B w v acc) (hb : Below w.heap.size w w') : IsOf B w' v acc :=
  ⟨ownsRow_stay h.own (fun q e => hb.block q (h.own.lt q e).2)⟩

theorem IsOf.ents {B : Nat} {w : World} {v : Value} {acc : List (Int × Int)} (h : IsOf B w v acc) : ∃ a cap, v = .slice a acc.length cap ∧ Ents w a acc.length acc := by
  have ho := h.own
  rcases ho.2 with ⟨h0, hn⟩ | ⟨g, cp2, cur, hv2, _⟩
  · have e : acc = [] := List.length_eq_zero_iff.1 hn
    subst e
    exact ⟨none, 0, h0, ents_nil _⟩
  · rw [hv2] at ho
    exact ⟨_, cp2, hv2, ents_of_owns ho _ (by rw [List.take_of_length_le (by rw [entV_len]; exact Nat.le_refl _)]) (Nat.le_refl _) rfl⟩

set_option maxRecDepth 100000 in
set_option maxHeartbeats 1000000 in
theorem tableOf_head (c p b : Int) (la : Option Addr) (len cap : Nat) (rows : List ByteArray) (w : World) (hk : HV.ok ⟨c, p, b⟩ = false) :
    Calls Try.prog 55 #[.agg #[.int .i64 c, .int .i64 p, .int .i64 b], .slice la len cap] w fun e w' =>
      ∃ lt cp, e = .returned (.tuple #[.slice lt (tableT ⟨c, p, b⟩ rows).length cp, .int .i64 (tableF ⟨c, p, b⟩ rows)]) ∧ Ents w' lt (tableT ⟨c, p, b⟩ rows).length (tableT ⟨c, p, b⟩ rows) ∧ Below w.heap.size w w' := by
  have hi : tableIn ⟨c, p, b⟩ rows = false := by unfold tableIn; rw [hk]; rfl
  obtain ⟨e1, e2⟩ := tableF_no hi
  rw [e1, e2]
  have ef : HV.fault ⟨c, p, b⟩ = 1 := if_neg (by rw [hk]; decide)
  have HC : Hid (∀ W : World, Calls Try.prog 37 #[.agg #[.int .i64 c, .int .i64 p, .int .i64 b]] W fun e w' => e = .returned (.int .i64 1) ∧ Below W.heap.size W w') := fun W => by have := headFault_any c p b W; rw [ef] at this; exact this
  clear hk hi e1 e2 ef
  go_enter Try.func55, Try.ntmps55
  go_wp2_with fail
  refine (HC.out _).mono ?_
  rintro e w1 ⟨rfl, hb1⟩
  go_wp2
  go_ret2
  exact ⟨none, 0, rfl, ents_nil _, ((Below.refl _ _).alloc (Nat.le_refl _) _).trans (hb1.mono (by simp))⟩

set_option maxRecDepth 100000 in
set_option maxHeartbeats 1000000 in
theorem tableOf_rows (c p b : Int) (la : Option Addr) (len cap : Nat) (rows : List ByteArray) (w : World) (hT : Texts w la len rows) (hk : HV.ok ⟨c, p, b⟩ = true) (hr : len ≠ rowsN c.toNat) :
    Calls Try.prog 55 #[.agg #[.int .i64 c, .int .i64 p, .int .i64 b], .slice la len cap] w fun e w' =>
      ∃ lt cp, e = .returned (.tuple #[.slice lt (tableT ⟨c, p, b⟩ rows).length cp, .int .i64 (tableF ⟨c, p, b⟩ rows)]) ∧ Ents w' lt (tableT ⟨c, p, b⟩ rows).length (tableT ⟨c, p, b⟩ rows) ∧ Below w.heap.size w w' := by
  have hi : tableIn ⟨c, p, b⟩ rows = false := by unfold tableIn; rw [hk, hT.1, decide_eq_false hr]; rfl
  obtain ⟨e1, e2⟩ := tableF_no hi
  rw [e1, e2]
  have ef : HV.fault ⟨c, p, b⟩ = 0 := if_pos hk
  have HC : Hid (∀ W : World, Calls Try.prog 37 #[.agg #[.int .i64 c, .int .i64 p, .int .i64 b]] W fun e w' => e = .returned (.int .i64 0) ∧ Below W.heap.size W w') := fun W => by have := headFault_any c p b W; rw [ef] at this; exact this
  obtain ⟨g1, g2, _⟩ := HV.of_ok hk
  simp only at g1 g2
  have HR : Hid (∀ W : World, Calls Try.prog 46 #[.int .i64 c] W fun e w' => e = .returned (.int .i64 (rowsN c.toNat : Int)) ∧ w' = W) := fun W => by have := refRows_any c.toNat W (by omega); rw [show ((c.toNat : Nat) : Int) = c by omega] at this; exact this
  have hne : ((len : Int) != (rowsN c.toNat : Int)) = true := by simp; omega
  generalize rowsN c.toNat = rn at HR hne
  clear hk hi e1 e2 ef hT hr g1 g2
  go_enter Try.func55, Try.ntmps55
  go_wp2_with fail
  refine (HC.out _).mono ?_
  rintro e w1 ⟨rfl, hb1⟩
  have x0 := new_cell hb1 0 _ rfl
  go_wp2_with (go_at_call 46; refine (HR.out _).mono ?_; rintro e w' ⟨rfl, hw⟩; have hw' := hw.symm; subst hw'; clear hw)
  go_ret2
  exact ⟨none, 0, rfl, ents_nil _, ((Below.refl _ _).alloc (Nat.le_refl _) _).trans (hb1.mono (by simp))⟩
end Go.Proofs.Ytmallmchibdkgaa
