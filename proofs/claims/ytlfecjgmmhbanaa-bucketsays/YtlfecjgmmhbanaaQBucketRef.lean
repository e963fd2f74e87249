/-
The document's own bucket (package stackyardref): what its calls give.
-/
import Derived.Test.YtlfecjgmmhbanaaQBucket
namespace Go.Proofs.Ytlfecjgmmhbanaa.S4
open Go.RowKit
attribute [local go_sem ↓] Go.wp_at_zero Go.wp_at_succ

theorem tickV_end {r b l n : Int} {k : Nat} (hr : 0 ≤ r) (hk : (k : Int) ≤ n) (h : (k : Int) = n ∨ b ≤ tickV r b l k ∨ r ≤ 0) : tickV r b l k = tickV r b l n := by
  rcases h with h | h | h
  · rw [h]
  · have h1 : (k : Int) * r ≤ n * r := Int.mul_le_mul_of_nonneg_right hk hr
    have h0 : 0 ≤ (k : Int) * r := Int.mul_nonneg (by omega) hr
    unfold tickV at h ⊢
    split at h <;> split <;> split <;> omega
  · have : r = 0 := by omega
    subst this
    unfold tickV; simp

theorem tickV_next {r b l : Int} {k : Nat} (h : tickV r b l k < b) : (if tickV r b l k + r < b then tickV r b l k + r else b) = tickV r b l ((k : Int) + 1) := by
  have e : ((k : Int) + 1) * r = (k : Int) * r + r := by rw [Int.add_mul, Int.one_mul]
  unfold tickV at h ⊢
  rw [e]
  split at h
  · omega
  · rename_i q
    rw [if_neg q]
    split <;> split <;> omega

theorem tickV_in {r b l n : Int} (hr : 0 ≤ r) (hl : 0 ≤ l) (hb : 0 ≤ b) (hn : 0 ≤ n) : 0 ≤ tickV r b l n ∧ tickV r b l n ≤ b := by
  have h0 : 0 ≤ n * r := Int.mul_nonneg hn hr
  unfold tickV
  split <;> omega

theorem KeptD.set {a w : World} {q : Nat} {u : Value} (h : Kept (fun k => k = q) a w) : Kept (fun k => k = q) a (w.setCell ⟨q, 2, none⟩ u) := Kept.setCell (S := fun k => k = q) h (p := ⟨q, 2, none⟩) (.inl rfl) _

set_option maxRecDepth 100000 in
set_option maxHeartbeats 1000000 in
theorem rtick_any {q : Nat} {r b l : Int} (n : Nat) (w : World) (h : Three 115 w q r b l) (hn : n ≤ 100000) (hr : 0 ≤ r ∧ r ≤ 1000) (hl : 0 ≤ l ∧ l ≤ b) (hb : b ≤ 1000) :
    Calls Try.prog 68 #[.pointer (some ⟨q, 0, none⟩), .int .i64 (n : Int)] w fun e w' => (∃ v, e = .returned v) ∧ Three 115 w' q r b (tickV r b l n) ∧ Kept (fun k => k = q) w w' := by
  have e0 : tickV r b l ((0 : Nat) : Int) = l := by unfold tickV; simp; omega
  have HH : Hid (Three 115 w q r b (tickV r b l ((0 : Nat) : Int))) := by rw [e0]; exact h
  clear h e0
  go_enter Try.func68, Try.ntmps68
  go_wp2_with fail
  go_loopw [4] (fun i wr => ∃ k : Nat, k ≤ n ∧ i = .int .i64 k ∧ Three 115 wr q r b (tickV r b l k) ∧ Kept (fun k => k = q) w wr) (fun i _ => n - (intOf i).toNat)
  case atStart => exact ⟨0, Nat.zero_le _, rfl, HH.out, Kept.refl _ _⟩
  case round =>
    clear HH
    obtain ⟨k, hk, rfl, h3, hkp⟩ := hrel
    have H3 : Hid (Three 115 wr q r b (tickV r b l k)) := h3
    have HK : Hid (Kept (fun k => k = q) w wr) := hkp
    have hin := tickV_in (r := r) (b := b) (l := l) (n := (k : Int)) hr.1 hl.1 (by omega) (by omega)
    have HE : Hid ((k : Int) = n ∨ b ≤ tickV r b l k ∨ r ≤ 0 → tickV r b l k = tickV r b l n) := tickV_end hr.1 (by omega)
    have HN : Hid (tickV r b l k < b → (if tickV r b l k + r < b then tickV r b l k + r else b) = tickV r b l ((k : Int) + 1)) := tickV_next
    obtain ⟨c0, c1, c2, fz⟩ := h3.cells
    clear h3 hkp
    generalize hv : tickV r b l k = v at H3 hin HE HN c2
    clear hv
    by_cases hlt : k < n
    · have g1 : decide ((k : Int) < (n : Int)) = true := decide_eq_true (by omega)
      by_cases hvb : v < b
      · have g2 : decide (v < b) = true := decide_eq_true hvb
        by_cases hr0 : 0 < r
        · have g3 : decide (0 < r) = true := decide_eq_true hr0
          have q1 : IntKind.i64.wrap (v + r) = v + r := IntWalk.i64_in _ (by omega)
          have HN' := toHid (HN.out hvb)
          clear HN HE
          by_cases h5 : v + r < b
          · rw [if_pos h5] at HN'
            as_aux_lemma =>
              go_wp2_with fail
              go_region
              go_wp2_with fail
              go_region
              go_wp2
              go_roundw
              case rel => exact ⟨k + 1, by omega, by go_num, by rw [show ((k + 1 : Nat) : Int) = (k : Int) + 1 by omega, ← HN'.out]; first | exact (H3.out.set _) | exact (H3.out.drew.set _).drew, by first | exact KeptD.set HK.out | exact (KeptD.set HK.out).drew | exact (KeptD.set HK.out.drew).drew⟩
              case measure => simp [intOf]; omega
          · rw [if_neg h5] at HN'
            as_aux_lemma =>
              go_wp2_with fail
              go_region
              go_wp2_with fail
              go_region
              go_wp2
              go_roundw
              case rel => exact ⟨k + 1, by omega, by go_num, by rw [show ((k + 1 : Nat) : Int) = (k : Int) + 1 by omega, ← HN'.out]; first | exact (H3.out.set _) | exact (H3.out.drew.set _).drew, by first | exact KeptD.set HK.out | exact (KeptD.set HK.out).drew | exact (KeptD.set HK.out.drew).drew⟩
              case measure => simp [intOf]; omega
        · have g3 : decide (0 < r) = false := decide_eq_false hr0
          have HV := toHid (HE.out (.inr (.inr (by omega))))
          clear HN HE
          as_aux_lemma =>
            go_wp2_with fail
            go_region
            go_wp2
            go_end0
            exact ⟨⟨_, rfl⟩, by rw [← HV.out]; exact H3.out, by first | exact HK.out | exact HK.out.drew⟩
      · have g2 : decide (v < b) = false := decide_eq_false hvb
        have HV := toHid (HE.out (.inr (.inl (by omega))))
        clear HN HE
        as_aux_lemma =>
          go_wp2_with fail
          go_region
          go_wp2
          go_end0
          exact ⟨⟨_, rfl⟩, by rw [← HV.out]; exact H3.out, by first | exact HK.out | exact HK.out.drew⟩
    · have g1 : decide ((k : Int) < (n : Int)) = false := decide_eq_false (by omega)
      have HV := toHid (HE.out (.inl (by omega)))
      clear HN HE
      as_aux_lemma =>
        go_wp2_with fail
        go_region
        go_wp2
        go_end0
        exact ⟨⟨_, rfl⟩, by rw [← HV.out]; exact H3.out, by first | exact HK.out | exact HK.out.drew⟩

set_option maxRecDepth 100000 in
set_option maxHeartbeats 400000 in
theorem rtake_any {p : Nat} {r b l : Int} (n : Int) (w : World) (h : Three 115 w p r b l) (hl : 0 ≤ l ∧ l ≤ 1000) :
    Calls Try.prog 71 #[.pointer (some ⟨p, 0, none⟩), .int .i64 n] w fun e w' => e = .returned (.bool (inB n l)) ∧ Three 115 w' p r b (takeV l n) ∧ Kept (fun k => k = p) w w' := by
  have HH : Hid (Three 115 w p r b l) := h
  obtain ⟨c0, c1, c2, fz⟩ := h.cells
  clear h
  by_cases h1 : n < 0
  · have g1 : decide (n < 0) = true := decide_eq_true h1
    have hn : inB n l = false := by unfold inB; simp; omega
    have HV : Hid (takeV l n = l) := by unfold Hid takeV; simp [hn]
    rw [hn]
    go_enter Try.func71, Try.ntmps71
    go_wp2
    go_ret
    exact ⟨rfl, by rw [HV.out]; exact HH.out, Kept.refl _ w⟩
  · have g1 : decide (n < 0) = false := decide_eq_false h1
    by_cases h2 : l < n
    · have g2 : decide (l < n) = true := decide_eq_true h2
      have hn : inB n l = false := by unfold inB; simp; omega
      have HV : Hid (takeV l n = l) := by unfold Hid takeV; simp [hn]
      rw [hn]
      go_enter Try.func71, Try.ntmps71
      go_wp2
      go_ret
      exact ⟨rfl, by rw [HV.out]; exact HH.out, Kept.refl _ w⟩
    · have g2 : decide (l < n) = false := decide_eq_false h2
      have hn : inB n l = true := by unfold inB; simp; omega
      have HV : Hid (takeV l n = l - n) := by unfold Hid takeV; simp [hn]
      have e2 : IntKind.i64.wrap (l - n) = l - n := IntWalk.i64_in _ (by omega)
      rw [hn]
      go_enter Try.func71, Try.ntmps71
      go_wp2
      go_ret
      exact ⟨rfl, by rw [HV.out]; exact HH.out.set _, Kept.setCell (S := fun k => k = p) (Kept.refl _ w) (p := ⟨p, 2, none⟩) (.inl rfl) _⟩
end Go.Proofs.Ytlfecjgmmhbanaa.S4
