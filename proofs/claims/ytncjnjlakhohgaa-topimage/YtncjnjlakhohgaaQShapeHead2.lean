/-
Heads as sectors, and sectors as heads (C1): in the program and in the document's answer: what each call gives.
-/
import Derived.Test.YtncjnjlakhohgaaQShapeHead
import Derived.BigRegion
namespace Go.Proofs.Ytncjnjlakhohgaa
open Go.RowKit
attribute [local go_sem ↓] Go.wp_at_zero Go.wp_at_succ

theorem bcell {W w1 : World} (hb : Below W.heap.size W w1) : (∀ b o, b < W.heap.size → w1.cell? ⟨b, o, none⟩ = W.cell? ⟨b, o, none⟩) ∧ (∀ b o, b < W.heap.size → w1.frozen? ⟨b, o, none⟩ = W.frozen? ⟨b, o, none⟩) :=
  ⟨fun b o h => hb.cell (p := ⟨b, o, none⟩) h, fun b o h => hb.frozen (p := ⟨b, o, none⟩) h⟩

theorem HV.of_ok {h : HV} (hk : h.ok = true) : 1 ≤ h.c ∧ h.c ≤ 32 ∧ 0 ≤ h.p ∧ h.p ≤ 40 ∧ -1 ≤ h.b ∧ h.b ≤ 4 := of_decide_eq_true hk

theorem cells_row (w : World) (l : List Int) (t : TypeId) (j : Nat) (hj : j < l.length) : (w.alloc (.cells (byV l).toArray t)).cell? ⟨w.heap.size, j, none⟩ = some (.int .u8 (l.getD j 0)) := by
  rw [cell_of_row _ _ _ _ _ _ (heap_alloc_new w _), List.getElem?_toArray]
  exact byV_at l j hj

theorem owns_row (w : World) (l : List Int) (N : Nat) (hN : w.heap.size = N) (hl : l.length ≤ 12) : (w.alloc (.cells (byV l).toArray 5)).ownsRow N 5 1 (.slice (some ⟨N, 0, none⟩) l.length l.length) l.length (byV l) := by
  subst hN
  refine ⟨by simp [byV], .inr ⟨w.heap.size, l.length, (byV l).toArray, rfl, Nat.le_refl _, heap_alloc_new w _, Nat.le_refl _, by unfold maxLen; omega, by simp [byV], ?_⟩⟩
  rw [List.take_of_length_le (by simp [byV])]

set_option maxRecDepth 100000 in
set_option maxHeartbeats 400000 in
theorem head_yes (c p b : Int) (w : World) (hk : HV.ok ⟨c, p, b⟩ = true) :
    Calls Try.prog 39 #[.agg #[.int .i64 c, .int .i64 p, .int .i64 b]] w fun e w' => e = .returned (.tuple #[.string (sealS [83, 89, c, p, b + 1]), .nilIface]) ∧ Below w.heap.size w w' := by
  have hch := checkHead_any c p b (w.alloc (.cells #[.int .i64 c, .int .i64 p, .int .i64 b] 67))
  have e0 : erV (HV.fault ⟨c, p, b⟩) = .nilIface := by unfold HV.fault; rw [if_pos hk]; exact erV_0
  rw [e0] at hch
  obtain ⟨g1, g2, g3, g4, g5, g6⟩ := HV.of_ok hk
  simp only at g1 g2 g3 g4 g5 g6
  have HC := toHid hch
  clear hch e0 hk
  go_enter Try.func39, Try.ntmps39
  go_wp2_with fail
  refine HC.out.mono ?_
  rintro e w1 ⟨rfl, hb1⟩
  obtain ⟨hc, hf⟩ := bcell hb1
  have hz : w.heap.size < w1.heap.size := by have := hb1.size; simp at this; omega
  go_wp2_with fail
  refine (sealed_any [83, 89, c, p, b + 1] _ 5 _ (by simp) ?_ (cells_row w1 [83, 89, c, p, b + 1] 5)).mono ?_
  · simp
  rintro e w2 ⟨rfl, hb2⟩
  go_wp2
  go_ret2
  exact ⟨rfl, ((((Below.refl _ _).alloc (Nat.le_refl _) _).trans (hb1.mono (by simp))).alloc (by omega) _).trans (hb2.mono (by simp; omega))⟩

set_option maxRecDepth 100000 in
set_option maxHeartbeats 400000 in
theorem head_no (c p b : Int) (w : World) (hk : HV.ok ⟨c, p, b⟩ = false) :
    Calls Try.prog 39 #[.agg #[.int .i64 c, .int .i64 p, .int .i64 b]] w fun e w' => e = .returned (.tuple #[.string ⟨#[]⟩, .iface 112 (.int .i64 1)]) ∧ Below w.heap.size w w' := by
  have hch := checkHead_any c p b (w.alloc (.cells #[.int .i64 c, .int .i64 p, .int .i64 b] 67))
  have e0 : erV (HV.fault ⟨c, p, b⟩) = .iface 112 (.int .i64 1) := by unfold HV.fault; rw [if_neg (by rw [hk]; decide)]; exact erV_1
  rw [e0] at hch
  have HC := toHid hch
  clear hch e0 hk
  go_enter Try.func39, Try.ntmps39
  go_wp2_with fail
  refine HC.out.mono ?_
  rintro e w1 ⟨rfl, hb1⟩
  go_wp2
  go_ret2
  exact ⟨rfl, ((Below.refl _ _).alloc (Nat.le_refl _) _).trans (hb1.mono (by simp))⟩

set_option maxRecDepth 100000 in
set_option maxHeartbeats 400000 in
theorem headSector_any (c p b : Int) (w : World) (hk : HV.ok ⟨c, p, b⟩ = true) :
    Calls Try.prog 42 #[.agg #[.int .i64 c, .int .i64 p, .int .i64 b]] w fun e w' => e = .returned (.string (sealS [83, 89, c, p, b + 1])) ∧ Below w.heap.size w w' := by
  obtain ⟨g1, g2, g3, g4, g5, g6⟩ := HV.of_ok hk
  simp only at g1 g2 g3 g4 g5 g6
  clear hk
  go_enter Try.func42, Try.ntmps42
  go_wp2_with fail
  refine (refSealed_any [83, 89, c, p, b + 1] (w.heap.size + 1) _ 5 _ (by simp) ?_ (owns_row (w.alloc (.cells #[.int .i64 c, .int .i64 p, .int .i64 b] 67)) [83, 89, c, p, b + 1] (w.heap.size + 1) (by simp) (by simp))).mono ?_
  · simp
  rintro e w2 ⟨rfl, hb2⟩
  go_wp2
  go_ret
  exact ⟨rfl, (((Below.refl _ _).alloc (Nat.le_refl _) _).alloc (by simp) _).trans (hb2.mono (by omega))⟩

theorem kept_cell {w w1 w2 : World} {C : Array Value} {t : TypeId} {o : Obj} (hb1 : Below (w.alloc (.cells C t)).heap.size (w.alloc (.cells C t)) w1) (hb2 : Below (w1.alloc o).drew.heap.size (w1.alloc o).drew w2) (i : Nat) (v : Value) (hv : C[i]? = some v) :
    w2.cell? ⟨w.heap.size, i, none⟩ = some v := by
  have hz := hb1.size
  simp at hz
  rw [hb2.cell (by show w.heap.size < (w1.alloc o).heap.size; simp; omega)]
  show (w1.alloc o).cell? _ = _
  rw [World.cell?_alloc_past _ _ _ (by show w.heap.size < w1.heap.size; omega), hb1.cell (by simp), cell_of_row _ _ _ _ _ _ (heap_alloc_new w _)]
  exact hv

theorem below3 {w w1 w2 : World} {o o' : Obj} (hb1 : Below (w.alloc o).heap.size (w.alloc o) w1) (hb2 : Below (w1.alloc o').drew.heap.size (w1.alloc o').drew w2) : Below w.heap.size w w2 := by
  have hz := hb1.size
  simp at hz
  have h1 : Below w.heap.size w w1 := ((Below.refl _ _).alloc (Nat.le_refl _) _).trans (hb1.mono (by simp))
  have h2 : Below w.heap.size w (w1.alloc o').drew := (h1.alloc h1.size _).drew
  exact h2.trans (hb2.mono h2.size)

theorem size16 {s : ByteArray} (hs : sealF s = 0) : s.size = 16 := by
  unfold sealF at hs
  split at hs
  · assumption
  · omega

/- What a sector's bytes are, as the walk asks it. -/
theorem reads5 (s : ByteArray) (h : s.size = 16) : ∃ (h2 : 2 < s.size) (h3 : 3 < s.size) (h4 : 4 < s.size), ((s[2]'h2).toNat : Int) = bAt s 2 ∧ ((s[3]'h3).toNat : Int) = bAt s 3 ∧ ((s[4]'h4).toNat : Int) = bAt s 4 :=
  ⟨by omega, by omega, by omega, bAt_eq s 2 _, bAt_eq s 3 _, bAt_eq s 4 _⟩

set_option maxRecDepth 100000 in
set_option maxHeartbeats 400000 in
theorem readHead_unsealed (s : ByteArray) (w : World) (hs : sealF s ≠ 0) :
    Calls Try.prog 41 #[.string s] w fun e w' => e = .returned (.tuple #[.agg (headOf s).cells, erV (headF s)]) ∧ Below w.heap.size w w' := by
  have hch := checkSeal_any s (w.alloc (.cells #[.int .i64 0, .int .i64 0, .int .i64 0] 67))
  have e1 : headF s = sealF s := by unfold headF; rw [if_neg hs]
  have e2 : headOf s = HV.zero := by unfold headOf; rw [if_neg (fun h => hs h.1)]
  have e3 : erV (sealF s) = .iface 112 (.int .i64 (sealF s)) := by unfold erV; rw [if_neg hs]
  rw [e1, e2, e3]
  rw [e3] at hch
  generalize sealF s = f at hch
  have HC := toHid hch
  clear hch e1 e2 e3 hs
  go_enter Try.func41, Try.ntmps41
  go_wp2_with fail
  refine HC.out.mono ?_
  rintro e w1 ⟨rfl, hb1⟩
  obtain ⟨hc, hf⟩ := bcell hb1
  have hz : w.heap.size < w1.heap.size := by have := hb1.size; simp at this; omega
  go_wp2
  exact bodyPost_ret (v := .tuple #[.agg #[.int .i64 0, .int .i64 0, .int .i64 0], .iface 112 (.int .i64 f)]) (by simp [results, Try.results41, go_sem, hc]) rfl ⟨rfl, ((((((Below.refl _ _).alloc (Nat.le_refl _) _).trans (hb1.mono (by simp))).setCell (by simp) _).setCell (by simp) _).setCell (by simp) _)⟩

set_option maxRecDepth 100000 in
set_option maxHeartbeats 1000000 in
theorem readHead_bad (s : ByteArray) (w : World) (hs : sealF s = 0) (hk : (headAt s).ok = false) :
    Calls Try.prog 41 #[.string s] w fun e w' => e = .returned (.tuple #[.agg (headOf s).cells, erV (headF s)]) ∧ Below w.heap.size w w' := by
  have hch := checkSeal_any s (w.alloc (.cells #[.int .i64 0, .int .i64 0, .int .i64 0] 67))
  have hg : headGood s = false := by unfold headGood; rw [hk]; rfl
  have e1 : headF s = 2 := by unfold headF; rw [if_pos hs, if_neg (by rw [hg]; decide)]
  have e2 : headOf s = HV.zero := by unfold headOf; rw [if_neg (fun h => by rw [hg] at h; exact absurd h.2 (by decide))]
  have h16 : s.size = 16 := size16 hs
  obtain ⟨h2, h3, h4, b2, b3, b4⟩ := reads5 s h16
  obtain ⟨l2, u2⟩ := bAt_bd s 2
  obtain ⟨l3, u3⟩ := bAt_bd s 3
  obtain ⟨l4, u4⟩ := bAt_bd s 4
  have HN : Hid (∀ W : World, Calls Try.prog 39 #[.agg #[.int .i64 (bAt s 2), .int .i64 (bAt s 3), .int .i64 (bAt s 4 - 1)]] W fun e w' => e = .returned (.tuple #[.string ⟨#[]⟩, .iface 112 (.int .i64 1)]) ∧ Below W.heap.size W w') := fun W => head_no _ _ _ W hk
  rw [e1, e2, erV_2]
  rw [hs, erV_0] at hch
  have HC := toHid hch
  clear hch e1 e2 hs hk hg h16
  generalize bAt s 2 = x2 at b2 l2 u2 HN
  generalize bAt s 3 = x3 at b3 l3 u3 HN
  generalize bAt s 4 = x4 at b4 l4 u4 HN
  go_enter Try.func41, Try.ntmps41
  go_wp2_with fail
  refine HC.out.mono ?_
  rintro e w1 ⟨rfl, hb1⟩
  obtain ⟨hc, hf⟩ := bcell hb1
  have hz : w.heap.size < w1.heap.size := by have := hb1.size; simp at this; omega
  go_wp2
  go_region
  go_wp2_with fail
  refine (HN.out _).mono ?_
  rintro e w2 ⟨rfl, hb2⟩
  obtain ⟨hc2, hf2⟩ := bcell hb2
  have hz2 : w1.heap.size < w2.heap.size := by have := hb2.size; simp at this; omega
  go_wp2
  have q0 := kept_cell hb1 hb2 0 _ rfl
  have q1 := kept_cell hb1 hb2 1 _ rfl
  have q2 := kept_cell hb1 hb2 2 _ rfl
  exact bodyPost_ret (v := .tuple #[.agg #[.int .i64 0, .int .i64 0, .int .i64 0], .iface 112 (.int .i64 2)]) (by simp [results, Try.results41, go_sem, q0, q1, q2]) rfl ⟨rfl, (((below3 hb1 hb2).setCell (Nat.le_refl _) _).setCell (Nat.le_refl _) _).setCell (Nat.le_refl _) _⟩

set_option maxRecDepth 100000 in
set_option maxHeartbeats 1000000 in
theorem readHead_other (s : ByteArray) (w : World) (hs : sealF s = 0) (hk : (headAt s).ok = true) (ht : ((sealS (headAt s).bytes).toList == s.toList) = false) :
    Calls Try.prog 41 #[.string s] w fun e w' => e = .returned (.tuple #[.agg (headOf s).cells, erV (headF s)]) ∧ Below w.heap.size w w' := by
  have hch := checkSeal_any s (w.alloc (.cells #[.int .i64 0, .int .i64 0, .int .i64 0] 67))
  have hg : headGood s = false := by unfold headGood; rw [ht, Bool.and_false]
  have e1 : headF s = 2 := by unfold headF; rw [if_pos hs, if_neg (by rw [hg]; decide)]
  have e2 : headOf s = HV.zero := by unfold headOf; rw [if_neg (fun h => by rw [hg] at h; exact absurd h.2 (by decide))]
  have h16 : s.size = 16 := size16 hs
  obtain ⟨h2, h3, h4, b2, b3, b4⟩ := reads5 s h16
  obtain ⟨l2, u2⟩ := bAt_bd s 2
  obtain ⟨l3, u3⟩ := bAt_bd s 3
  obtain ⟨l4, u4⟩ := bAt_bd s 4
  obtain ⟨X, hX⟩ : ∃ X : ByteArray, X = sealS (headAt s).bytes := ⟨_, rfl⟩
  have HX : Hid (X = sealS [83, 89, bAt s 2, bAt s 3, bAt s 4 - 1 + 1]) := hX
  have ht2 : (X.toList == s.toList) = false := by rw [hX]; exact ht
  clear hX ht
  have HN : Hid (∀ W : World, Calls Try.prog 39 #[.agg #[.int .i64 (bAt s 2), .int .i64 (bAt s 3), .int .i64 (bAt s 4 - 1)]] W fun e w' => e = .returned (.tuple #[.string X, .nilIface]) ∧ Below W.heap.size W w') := fun W => by rw [HX.out]; exact head_yes _ _ _ W hk
  rw [e1, e2, erV_2]
  rw [hs, erV_0] at hch
  have HC := toHid hch
  clear hch e1 e2 hs hk hg h16 HX
  generalize bAt s 2 = x2 at b2 l2 u2 HN
  generalize bAt s 3 = x3 at b3 l3 u3 HN
  generalize bAt s 4 = x4 at b4 l4 u4 HN
  go_enter Try.func41, Try.ntmps41
  go_wp2_with fail
  refine HC.out.mono ?_
  rintro e w1 ⟨rfl, hb1⟩
  obtain ⟨hc, hf⟩ := bcell hb1
  have hz : w.heap.size < w1.heap.size := by have := hb1.size; simp at this; omega
  go_wp2
  go_region
  go_wp2_with fail
  refine (HN.out _).mono ?_
  rintro e w2 ⟨rfl, hb2⟩
  obtain ⟨hc2, hf2⟩ := bcell hb2
  have hz2 : w1.heap.size < w2.heap.size := by have := hb2.size; simp at this; omega
  go_wp2
  have q0 := kept_cell hb1 hb2 0 _ rfl
  have q1 := kept_cell hb1 hb2 1 _ rfl
  have q2 := kept_cell hb1 hb2 2 _ rfl
  exact bodyPost_ret (v := .tuple #[.agg #[.int .i64 0, .int .i64 0, .int .i64 0], .iface 112 (.int .i64 2)]) (by simp [results, Try.results41, go_sem, q0, q1, q2]) rfl ⟨rfl, (((below3 hb1 hb2).setCell (Nat.le_refl _) _).setCell (Nat.le_refl _) _).setCell (Nat.le_refl _) _⟩

set_option maxRecDepth 100000 in
set_option maxHeartbeats 1000000 in
theorem readHead_good (s : ByteArray) (w : World) (hs : sealF s = 0) (hk : (headAt s).ok = true) (ht : ((sealS (headAt s).bytes).toList == s.toList) = true) :
    Calls Try.prog 41 #[.string s] w fun e w' => e = .returned (.tuple #[.agg (headOf s).cells, erV (headF s)]) ∧ Below w.heap.size w w' := by
  have hch := checkSeal_any s (w.alloc (.cells #[.int .i64 0, .int .i64 0, .int .i64 0] 67))
  have hg : headGood s = true := by unfold headGood; rw [ht, hk]; rfl
  have e1 : headF s = 0 := by unfold headF; rw [if_pos hs, if_pos hg]
  have e2 : headOf s = ⟨bAt s 2, bAt s 3, bAt s 4 - 1⟩ := by unfold headOf; rw [if_pos ⟨hs, hg⟩]; rfl
  have h16 : s.size = 16 := size16 hs
  obtain ⟨h2, h3, h4, b2, b3, b4⟩ := reads5 s h16
  obtain ⟨l2, u2⟩ := bAt_bd s 2
  obtain ⟨l3, u3⟩ := bAt_bd s 3
  obtain ⟨l4, u4⟩ := bAt_bd s 4
  obtain ⟨X, hX⟩ : ∃ X : ByteArray, X = sealS (headAt s).bytes := ⟨_, rfl⟩
  have HX : Hid (X = sealS [83, 89, bAt s 2, bAt s 3, bAt s 4 - 1 + 1]) := hX
  have ht2 : (X.toList == s.toList) = true := by rw [hX]; exact ht
  clear hX ht
  have HN : Hid (∀ W : World, Calls Try.prog 39 #[.agg #[.int .i64 (bAt s 2), .int .i64 (bAt s 3), .int .i64 (bAt s 4 - 1)]] W fun e w' => e = .returned (.tuple #[.string X, .nilIface]) ∧ Below W.heap.size W w') := fun W => by rw [HX.out]; exact head_yes _ _ _ W hk
  rw [e1, e2, erV_0]
  rw [hs, erV_0] at hch
  have HC := toHid hch
  clear hch e1 e2 hs hk hg h16 HX
  generalize bAt s 2 = x2 at b2 l2 u2 HN ⊢
  generalize bAt s 3 = x3 at b3 l3 u3 HN ⊢
  generalize bAt s 4 = x4 at b4 l4 u4 HN ⊢
  go_enter Try.func41, Try.ntmps41
  go_wp2_with fail
  refine HC.out.mono ?_
  rintro e w1 ⟨rfl, hb1⟩
  obtain ⟨hc, hf⟩ := bcell hb1
  have hz : w.heap.size < w1.heap.size := by have := hb1.size; simp at this; omega
  go_wp2
  go_region
  go_wp2_with fail
  refine (HN.out _).mono ?_
  rintro e w2 ⟨rfl, hb2⟩
  obtain ⟨hc2, hf2⟩ := bcell hb2
  have hz2 : w1.heap.size < w2.heap.size := by have := hb2.size; simp at this; omega
  go_wp2
  have q0 := kept_cell hb1 hb2 0 _ rfl
  have q1 := kept_cell hb1 hb2 1 _ rfl
  have q2 := kept_cell hb1 hb2 2 _ rfl
  exact bodyPost_ret (v := .tuple #[.agg #[.int .i64 x2, .int .i64 x3, .int .i64 (x4 - 1)], .nilIface]) (by simp [results, Try.results41, go_sem, q0, q1, q2]) rfl ⟨rfl, (((below3 hb1 hb2).setCell (Nat.le_refl _) _).setCell (Nat.le_refl _) _).setCell (Nat.le_refl _) _⟩

theorem readHead_any (s : ByteArray) (w : World) :
    Calls Try.prog 41 #[.string s] w fun e w' => e = .returned (.tuple #[.agg (headOf s).cells, erV (headF s)]) ∧ Below w.heap.size w w' := by
  by_cases hs : sealF s = 0
  · cases hk : (headAt s).ok with
    | false => exact readHead_bad s w hs hk
    | true =>
      cases ht : ((sealS (headAt s).bytes).toList == s.toList) with
      | false => exact readHead_other s w hs hk ht
      | true => exact readHead_good s w hs hk ht
  · exact readHead_unsealed s w hs
end Go.Proofs.Ytncjnjlakhohgaa
