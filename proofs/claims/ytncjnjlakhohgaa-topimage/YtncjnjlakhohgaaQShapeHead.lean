/-
Is a sector sealed; heads (C1): in the program and in the document's answer: what each call gives.
-/
import Derived.Test.YtncjnjlakhohgaaQShapeSeal2
namespace Go.Proofs.Ytncjnjlakhohgaa
open Go.RowKit
attribute [local go_sem ↓] Go.wp_at_zero Go.wp_at_succ

theorem toHid {p : Prop} (h : p) : Hid p := h

theorem erV_0 : erV 0 = .nilIface := by simp [erV]
theorem erV_1 : erV 1 = .iface 112 (.int .i64 1) := by simp [erV]
theorem erV_2 : erV 2 = .iface 112 (.int .i64 2) := by simp [erV]
theorem erV_3 : erV 3 = .iface 112 (.int .i64 3) := by simp [erV]
theorem ret_v {a b : Value} (h : a = b) : Ending.returned a = .returned b := by rw [h]
theorem retI {a b : Int} (h : a = b) : Ending.returned (.int .i64 a) = .returned (.int .i64 b) := by rw [h]

/- A sealed sector's sum and its four bytes, as letters. -/
theorem seal_letters (s : ByteArray) (h16 : s.size = 16) : ∃ (T : Nat) (F : ByteArray), T < 4294967296 ∧ (sealedB s = (F.toList == (s.extract 12 s.size).toList)) ∧
    (∀ (b : Nat) (W : World), W.cell? ⟨b, 0, none⟩ = some (.string (s.extract 0 12)) → Calls Try.prog 14 #[.slice (some ⟨b, 0, none⟩) 1 1] W fun e w' => e = .returned (.int .u32 T) ∧ w' = W) ∧
    (∀ W : World, Calls Try.prog 13 #[.int .u32 T] W fun e w' => e = .returned (.string F) ∧ Below W.heap.size W w') ∧
    (∀ W : World, Calls Try.prog 12 #[.string (s.extract 0 12)] W fun e w' => e = .returned (.int .u32 T) ∧ w' = W) ∧
    (∀ W : World, Calls Try.prog 93 #[.int .u32 T] W fun e w' => e = .returned (.string F) ∧ Below W.heap.size W w') := by
  have hx : (s.extract 0 12).size ≤ 12 := by rw [ByteArray.size_extract]; omega
  have htl := Crc.total_lt (s.extract 0 12).data.toList
  exact ⟨Crc.total (s.extract 0 12).data.toList, four (Crc.total (s.extract 0 12).data.toList), htl, rfl, fun b W h => of_one _ b 1 W (by unfold maxLen; omega) h, fun W => bytes_any _ W htl, fun W => ref_any _ W (by omega), fun W => refFour_any _ W htl⟩

set_option maxRecDepth 100000 in
set_option maxHeartbeats 400000 in
theorem checkSeal_any (s : ByteArray) (w : World) :
    Calls Try.prog 76 #[.string s] w fun e w' => e = .returned (erV (sealF s)) ∧ Below w.heap.size w w' := by
  by_cases h16 : s.size = 16
  · have g1 : ((s.size : Int) != 16) = false := by simp; omega
    have g2 : (12 : Int) ≤ (s.size : Int) := by omega
    have hb0 : Below w.heap.size w w.drew := (Below.refl _ _).drew
    obtain ⟨T, F, htl, hq0, hOf, hBy, hSu, hFo⟩ := seal_letters s h16
    have HOf := toHid hOf
    have HBy := toHid hBy
    have HSu := toHid hSu
    have HFo := toHid hFo
    clear hOf hBy hSu hFo
    cases hq : sealedB s with
    | true =>
      have HF : Hid (erV (sealF s) = .nilIface) := by unfold Hid sealF; rw [if_pos h16, if_pos hq]; exact erV_0
      rw [hq0] at hq
      clear h16 hq0
      go_enter Try.func76, Try.ntmps76
      go_wp2
      go_region_held3 (fun W => Below w.heap.size w W) (first | (exact hb0) | assumption | (exact Below.alloc (by assumption) (Below.size (by assumption)) _))
        (first
          | (go_at_call 14; refine (HOf.out _ _ (cell_of_row _ _ _ _ _ _ (heap_alloc_new _ _))).mono ?_; rintro e w' ⟨rfl, rfl⟩)
          | (go_at_call 13; refine (HBy.out _).mono ?_; rintro e w5 ⟨rfl, hb5⟩; have hb6 := Below.trans (by assumption : Below w.heap.size w _) (hb5.mono (Below.size (by assumption)))))
      all_goals
        go_wp2
        go_ret
        exact ⟨ret_v HF.out.symm, by assumption⟩
    | false =>
      have HF : Hid (erV (sealF s) = .iface 112 (.int .i64 3)) := by unfold Hid sealF; rw [if_pos h16, if_neg (by rw [hq]; decide)]; exact erV_3
      rw [hq0] at hq
      clear h16 hq0
      go_enter Try.func76, Try.ntmps76
      go_wp2
      go_region_held3 (fun W => Below w.heap.size w W) (first | (exact hb0) | assumption | (exact Below.alloc (by assumption) (Below.size (by assumption)) _))
        (first
          | (go_at_call 14; refine (HOf.out _ _ (cell_of_row _ _ _ _ _ _ (heap_alloc_new _ _))).mono ?_; rintro e w' ⟨rfl, rfl⟩)
          | (go_at_call 13; refine (HBy.out _).mono ?_; rintro e w5 ⟨rfl, hb5⟩; have hb6 := Below.trans (by assumption : Below w.heap.size w _) (hb5.mono (Below.size (by assumption)))))
      all_goals
        go_wp2
        go_ret
        exact ⟨ret_v HF.out.symm, by assumption⟩
  · have g1 : ((s.size : Int) != 16) = true := by simp; omega
    have HF : Hid (erV (sealF s) = .iface 112 (.int .i64 1)) := by unfold Hid sealF; rw [if_neg h16]; exact erV_1
    clear h16
    go_enter Try.func76, Try.ntmps76
    go_wp2
    go_ret
    exact ⟨ret_v HF.out.symm, Below.refl _ _⟩

set_option maxRecDepth 100000 in
set_option maxHeartbeats 400000 in
theorem opened_any (s : ByteArray) (w : World) :
    Calls Try.prog 81 #[.string s] w fun e w' => e = .returned (.int .i64 (sealF s)) ∧ Below w.heap.size w w' := by
  by_cases h16 : s.size = 16
  · have g1 : ((s.size : Int) != 16) = false := by simp; omega
    have g2 : (12 : Int) ≤ (s.size : Int) := by omega
    have hb0 : Below w.heap.size w w.drew := (Below.refl _ _).drew
    obtain ⟨T, F, htl, hq0, hOf, hBy, hSu, hFo⟩ := seal_letters s h16
    have HOf := toHid hOf
    have HBy := toHid hBy
    have HSu := toHid hSu
    have HFo := toHid hFo
    clear hOf hBy hSu hFo
    cases hq : sealedB s with
    | true =>
      have HF : Hid (sealF s = 0) := by unfold Hid sealF; rw [if_pos h16, if_pos hq]
      rw [hq0] at hq
      clear h16 hq0
      go_enter Try.func81, Try.ntmps81
      go_wp2
      go_region_held3 (fun W => Below w.heap.size w W) (first | (exact hb0) | assumption)
        (first
          | (go_at_call 12; refine (HSu.out _).mono ?_; rintro e w' ⟨rfl, rfl⟩)
          | (go_at_call 93; refine (HFo.out _).mono ?_; rintro e w5 ⟨rfl, hb5⟩; have hb6 := Below.trans (by assumption : Below w.heap.size w _) (hb5.mono (Below.size (by assumption)))))
      all_goals
        go_wp2
        go_ret
        exact ⟨retI HF.out.symm, by assumption⟩
    | false =>
      have HF : Hid (sealF s = 3) := by unfold Hid sealF; rw [if_pos h16, if_neg (by rw [hq]; decide)]
      rw [hq0] at hq
      clear h16 hq0
      go_enter Try.func81, Try.ntmps81
      go_wp2
      go_region_held3 (fun W => Below w.heap.size w W) (first | (exact hb0) | assumption)
        (first
          | (go_at_call 12; refine (HSu.out _).mono ?_; rintro e w' ⟨rfl, rfl⟩)
          | (go_at_call 93; refine (HFo.out _).mono ?_; rintro e w5 ⟨rfl, hb5⟩; have hb6 := Below.trans (by assumption : Below w.heap.size w _) (hb5.mono (Below.size (by assumption)))))
      all_goals
        go_wp2
        go_ret
        exact ⟨retI HF.out.symm, by assumption⟩
  · have g1 : ((s.size : Int) != 16) = true := by simp; omega
    have HF : Hid (sealF s = 1) := by unfold Hid sealF; rw [if_neg h16]
    clear h16
    go_enter Try.func81, Try.ntmps81
    go_wp2
    go_ret
    exact ⟨retI HF.out.symm, Below.refl _ _⟩

theorem inB_yes {n lo hi : Int} (h : lo ≤ n ∧ n ≤ hi) : inB n lo hi = true := decide_eq_true h
theorem inB_no {n lo hi : Int} (h : ¬ (lo ≤ n ∧ n ≤ hi)) : inB n lo hi = false := decide_eq_false h

set_option maxHeartbeats 400000 in
theorem checkHead_any (c p b : Int) (w : World) :
    Calls Try.prog 40 #[.agg #[.int .i64 c, .int .i64 p, .int .i64 b]] w fun e w' => e = .returned (erV (HV.fault ⟨c, p, b⟩)) ∧ Below w.heap.size w w' := by
  have hbel : Below w.heap.size w (w.alloc (.cells #[.int .i64 c, .int .i64 p, .int .i64 b] 67)) := (Below.refl _ _).alloc (Nat.le_refl _) _
  have hcase : (∃ H : Hid (erV (HV.fault ⟨c, p, b⟩) = .nilIface), inB c 1 32 = true ∧ inB p 0 40 = true ∧ inB b (-1) 4 = true) ∨ ∃ H : Hid (erV (HV.fault ⟨c, p, b⟩) = .iface 112 (.int .i64 1)), (inB c 1 32 = false) ∨ (inB c 1 32 = true ∧ inB p 0 40 = false) ∨ (inB c 1 32 = true ∧ inB p 0 40 = true ∧ inB b (-1) 4 = false) := by
    unfold Hid HV.fault HV.ok
    simp only [decide_eq_true_eq]
    by_cases h1 : 1 ≤ c ∧ c ≤ 32
    · by_cases h2 : 0 ≤ p ∧ p ≤ 40
      · by_cases h3 : -1 ≤ b ∧ b ≤ 4
        · exact .inl ⟨by rw [if_pos ⟨h1.1, h1.2, h2.1, h2.2, h3.1, h3.2⟩]; exact erV_0, inB_yes h1, inB_yes h2, inB_yes h3⟩
        · exact .inr ⟨by rw [if_neg (by omega)]; exact erV_1, .inr (.inr ⟨inB_yes h1, inB_yes h2, inB_no h3⟩)⟩
      · exact .inr ⟨by rw [if_neg (by omega)]; exact erV_1, .inr (.inl ⟨inB_yes h1, inB_no h2⟩)⟩
    · exact .inr ⟨by rw [if_neg (by omega)]; exact erV_1, .inl (inB_no h1)⟩
  rcases hcase with ⟨HF, g1, g2, g3⟩ | ⟨HF, g1 | ⟨g1, g2⟩ | ⟨g1, g2, g3⟩⟩
  · go_enter Try.func40, Try.ntmps40
    go_wp2_with (go_at_call 75; refine (within_any _ _ _ _).mono ?_; rintro e w' ⟨rfl, rfl⟩)
    go_ret
    exact ⟨ret_v HF.out.symm, hbel⟩
  all_goals
    go_enter Try.func40, Try.ntmps40
    go_wp2_with (go_at_call 75; refine (within_any _ _ _ _).mono ?_; rintro e w' ⟨rfl, rfl⟩)
    go_ret
    exact ⟨ret_v HF.out.symm, hbel⟩

set_option maxHeartbeats 400000 in
theorem headFault_any (c p b : Int) (w : World) :
    Calls Try.prog 38 #[.agg #[.int .i64 c, .int .i64 p, .int .i64 b]] w fun e w' => e = .returned (.int .i64 (HV.fault ⟨c, p, b⟩)) ∧ Below w.heap.size w w' := by
  have hbel : Below w.heap.size w (w.alloc (.cells #[.int .i64 c, .int .i64 p, .int .i64 b] 67)) := (Below.refl _ _).alloc (Nat.le_refl _) _
  by_cases h1 : 1 ≤ c ∧ c ≤ 32 ∧ 0 ≤ p ∧ p ≤ 40 ∧ -1 ≤ b ∧ b ≤ 4
  · have HF : Hid (HV.fault ⟨c, p, b⟩ = 0) := if_pos (decide_eq_true h1)
    have g1 : decide (c < 1) = false := by simp; omega
    have g2 : decide (32 < c) = false := by simp; omega
    have g3 : decide (p < 0) = false := by simp; omega
    have g4 : decide (40 < p) = false := by simp; omega
    have g5 : decide (b < -1) = false := by simp; omega
    have g6 : decide (4 < b) = false := by simp; omega
    clear h1
    go_enter Try.func38, Try.ntmps38
    go_wp2
    go_ret
    exact ⟨retI HF.out.symm, hbel⟩
  · have HF : Hid (HV.fault ⟨c, p, b⟩ = 1) := if_neg (fun h => h1 (of_decide_eq_true h))
    have hcase : decide (c < 1) = true ∨ (decide (c < 1) = false ∧ decide (32 < c) = true) ∨ (decide (c < 1) = false ∧ decide (32 < c) = false ∧ decide (p < 0) = true) ∨ (decide (c < 1) = false ∧ decide (32 < c) = false ∧ decide (p < 0) = false ∧ decide (40 < p) = true) ∨
        (decide (c < 1) = false ∧ decide (32 < c) = false ∧ decide (p < 0) = false ∧ decide (40 < p) = false ∧ decide (b < -1) = true) ∨ (decide (c < 1) = false ∧ decide (32 < c) = false ∧ decide (p < 0) = false ∧ decide (40 < p) = false ∧ decide (b < -1) = false ∧ decide (4 < b) = true) := by
      simp only [decide_eq_true_eq, decide_eq_false_iff_not]; omega
    clear h1
    rcases hcase with g1 | ⟨g1, g2⟩ | ⟨g1, g2, g3⟩ | ⟨g1, g2, g3, g4⟩ | ⟨g1, g2, g3, g4, g5⟩ | ⟨g1, g2, g3, g4, g5, g6⟩
    all_goals
      go_enter Try.func38, Try.ntmps38
      go_wp2
      go_ret
      exact ⟨retI HF.out.symm, hbel⟩
end Go.Proofs.Ytncjnjlakhohgaa
