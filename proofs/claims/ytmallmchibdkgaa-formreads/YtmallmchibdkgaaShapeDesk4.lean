/-
Sectors as desks (C3), in the document's answer: what DeskOf gives.
-/
import Derived.Test.YtmallmchibdkgaaShapeDesk3
namespace Go.Proofs.Ytmallmchibdkgaa
open Go.RowKit
attribute [local go_sem ↓] Go.wp_at_zero Go.wp_at_succ

set_option maxRecDepth 100000 in
set_option maxHeartbeats 2000000 in
theorem refDeskOf_unsealed (s : ByteArray) (w : World) (hs : sealF s ≠ 0) :
    Calls Try.prog 53 #[.string s] w fun e w' => e = .returned (.tuple #[.agg (deskOf s).cells, .int .i64 (deskF s)]) ∧ Below w.heap.size w w' := by
  have hch := opened_any s (w.alloc (.cells #[.int .i64 0, .int .i64 0, .int .i64 0, .int .i64 0, .int .i64 0] 70))
  have e1 : deskF s = sealF s := by unfold deskF; rw [if_neg hs]
  have e2 : deskOf s = KV.zero := by unfold deskOf; rw [if_neg (fun h => hs h.1)]
  have hp := sealF_pos hs
  rw [e1, e2]
  generalize sealF s = f at hch hp
  have hd : decide (0 < f) = true := by simpa using hp
  have HC := toHid hch
  clear hch e1 e2 hs
  go_enter Try.func53, Try.ntmps53
  go_wp2_with fail
  refine HC.out.mono ?_
  rintro e w1 ⟨rfl, hb1⟩
  obtain ⟨hc, hf⟩ := bcell hb1
  have hz : w.heap.size < w1.heap.size := by have := hb1.size; simp at this; omega
  go_wp2
  exact bodyPost_ret (v := .tuple #[.agg #[.int .i64 0, .int .i64 0, .int .i64 0, .int .i64 0, .int .i64 0], .int .i64 f]) (by simp [results, Try.results53, go_sem, hc]) rfl ⟨rfl, ((((((((Below.refl _ _).alloc (Nat.le_refl _) _).trans (hb1.mono (by simp))).setCell (by simp) _).setCell (by simp) _).setCell (by simp) _).setCell (by simp) _).setCell (by simp) _)⟩

set_option maxRecDepth 100000 in
set_option maxHeartbeats 2000000 in
theorem refDeskOf_bad (s : ByteArray) (w : World) (hs : sealF s = 0) (hk : (deskAt s).fault ≠ 0) :
    Calls Try.prog 53 #[.string s] w fun e w' => e = .returned (.tuple #[.agg (deskOf s).cells, .int .i64 (deskF s)]) ∧ Below w.heap.size w w' := by
  have hch := opened_any s (w.alloc (.cells #[.int .i64 0, .int .i64 0, .int .i64 0, .int .i64 0, .int .i64 0] 70))
  have hg : deskGood s = false := by unfold deskGood; rw [decide_eq_false hk]; rfl
  have e1 : deskF s = 2 := by unfold deskF; rw [if_pos hs, if_neg (by rw [hg]; decide)]
  have e2 : deskOf s = KV.zero := by unfold deskOf; rw [if_neg (fun h => by rw [hg] at h; exact absurd h.2 (by decide))]
  have h16 : s.size = 16 := size16 hs
  obtain ⟨h2, h3, h4, b2, b3, b4⟩ := reads5 s h16
  obtain ⟨h5, h6, h7, h8, b5, b6, b7, b8⟩ := reads9 s h16
  obtain ⟨l2, u2⟩ := bAt_bd s 2
  obtain ⟨l3, u3⟩ := bAt_bd s 3
  obtain ⟨l4, u4⟩ := bAt_bd s 4
  obtain ⟨l5, u5⟩ := bAt_bd s 5
  obtain ⟨l6, u6⟩ := bAt_bd s 6
  obtain ⟨l7, u7⟩ := bAt_bd s 7
  obtain ⟨l8, u8⟩ := bAt_bd s 8
  have hp : 0 < KV.fault ⟨bAt s 2, bAt s 3, bAt s 4 - 1, bAt s 5 + bAt s 6 * 256, bAt s 7 + bAt s 8 * 256⟩ := KV.fault_pos hk
  have HN : Hid (∀ W : World, Calls Try.prog 47 #[.agg #[.int .i64 (bAt s 2), .int .i64 (bAt s 3), .int .i64 (bAt s 4 - 1), .int .i64 (bAt s 5 + bAt s 6 * 256), .int .i64 (bAt s 7 + bAt s 8 * 256)]] W fun e w' => e = .returned (.int .i64 (KV.fault ⟨bAt s 2, bAt s 3, bAt s 4 - 1, bAt s 5 + bAt s 6 * 256, bAt s 7 + bAt s 8 * 256⟩)) ∧ Below W.heap.size W w') := fun W => deskFault_any _ _ _ _ _ W
  generalize KV.fault ⟨bAt s 2, bAt s 3, bAt s 4 - 1, bAt s 5 + bAt s 6 * 256, bAt s 7 + bAt s 8 * 256⟩ = fl at HN hp
  have hd : decide (0 < fl) = true := by simpa using hp
  rw [e1, e2]
  rw [hs] at hch
  have HC := toHid hch
  clear hch e1 e2 hs hk hg h16
  generalize bAt s 2 = x2 at b2 l2 u2 HN
  generalize bAt s 3 = x3 at b3 l3 u3 HN
  generalize bAt s 4 = x4 at b4 l4 u4 HN
  generalize bAt s 5 = x5 at b5 l5 u5 HN
  generalize bAt s 6 = x6 at b6 l6 u6 HN
  generalize bAt s 7 = x7 at b7 l7 u7 HN
  generalize bAt s 8 = x8 at b8 l8 u8 HN
  rw [show x5 + x6 * 256 = x5 + 256 * x6 by omega, show x7 + x8 * 256 = x7 + 256 * x8 by omega] at HN
  have i2 : (2 : Int) < (s.size : Int) := by omega
  have i3 : (3 : Int) < (s.size : Int) := by omega
  have i4 : (4 : Int) < (s.size : Int) := by omega
  have i5 : (5 : Int) < (s.size : Int) := by omega
  have i6 : (6 : Int) < (s.size : Int) := by omega
  have i7 : (7 : Int) < (s.size : Int) := by omega
  have i8 : (8 : Int) < (s.size : Int) := by omega
  go_enter Try.func53, Try.ntmps53
  go_wp2_with fail
  refine HC.out.mono ?_
  rintro e w1 ⟨rfl, hb1⟩
  obtain ⟨hc, hf⟩ := bcell hb1
  have hz : w.heap.size < w1.heap.size := by have := hb1.size; simp at this; omega
  go_wp2
  refine wp_region_noPanic ?_
  refine wp_region_held_drew (S := fun _ => True) (by kernel_rfl) trivial (fun hHeld => ?_)
  refine wpAnyH_take (i := 0) (oi := _) (v := ?_) rfl (by kernel_rfl) (by kernel_rfl) (by kernel_rfl) (fun _ _ _ h => h) (Or.inl ⟨by rfl, ?_⟩) trivial ?_
  rotate_left
  · (intro w hSw; go_simp; try with_reducible rfl)
  simp only [Act.put]
  refine wpAnyH_take (i := 1) (oi := _) (v := ?_) rfl (by kernel_rfl) (by kernel_rfl) (by kernel_rfl) (fun _ _ _ h => h) (Or.inl ⟨by rfl, ?_⟩) trivial ?_
  rotate_left
  · (intro w hSw; go_simp; try with_reducible rfl)
  simp only [Act.put]
  refine wpAnyH_take (i := 2) (oi := _) (v := ?_) rfl (by kernel_rfl) (by kernel_rfl) (by kernel_rfl) (fun _ _ _ h => h) (Or.inl ⟨by rfl, ?_⟩) trivial ?_
  rotate_left
  · (intro w hSw; go_simp; try with_reducible rfl)
  simp only [Act.put]
  refine wpAnyH_take (i := 3) (oi := _) (v := ?_) rfl (by kernel_rfl) (by kernel_rfl) (by kernel_rfl) (fun _ _ _ h => h) (Or.inl ⟨by rfl, ?_⟩) trivial ?_
  rotate_left
  · (intro w hSw; go_simp; try with_reducible rfl)
  simp only [Act.put]
  refine wpAnyH_take (i := 4) (oi := _) (v := ?_) rfl (by kernel_rfl) (by kernel_rfl) (by kernel_rfl) (fun _ _ _ h => h) (Or.inl ⟨by rfl, ?_⟩) trivial ?_
  rotate_left
  · (intro w hSw; go_simp; try with_reducible rfl)
  simp only [Act.put]
  refine wpAnyH_take (i := 5) (oi := _) (v := ?_) rfl (by kernel_rfl) (by kernel_rfl) (by kernel_rfl) (fun _ _ _ h => h) (Or.inl ⟨by rfl, ?_⟩) trivial ?_
  rotate_left
  · (intro w hSw; go_simp; try with_reducible rfl)
  simp only [Act.put]
  refine wpAnyH_take (i := 6) (oi := _) (v := ?_) rfl (by kernel_rfl) (by kernel_rfl) (by kernel_rfl) (fun _ _ _ h => h) (Or.inl ⟨by rfl, ?_⟩) trivial ?_
  rotate_left
  · (intro w hSw; go_simp; try with_reducible rfl)
  simp only [Act.put]
  refine wpAnyH_take (i := 7) (oi := _) (v := ?_) rfl (by kernel_rfl) (by kernel_rfl) (by kernel_rfl) (fun _ _ _ h => h) (Or.inl ⟨by rfl, ?_⟩) trivial ?_
  rotate_left
  · (intro w hSw; go_simp; try with_reducible rfl)
  simp only [Act.put]
  refine wpAnyH_take (i := 8) (oi := _) (v := ?_) rfl (by kernel_rfl) (by kernel_rfl) (by kernel_rfl) (fun _ _ _ h => h) (Or.inl ⟨by rfl, ?_⟩) trivial ?_
  rotate_left
  · (intro w hSw; go_simp; try with_reducible rfl)
  simp only [Act.put]
  refine wpAnyH_take (i := 9) (oi := _) (v := ?_) rfl (by kernel_rfl) (by kernel_rfl) (by kernel_rfl) (fun _ _ _ h => h) (Or.inl ⟨by rfl, ?_⟩) trivial ?_
  rotate_left
  · (intro w hSw; go_simp; try with_reducible rfl)
  simp only [Act.put]
  refine wpAnyH_take (i := 10) (oi := _) (v := ?_) rfl (by kernel_rfl) (by kernel_rfl) (by kernel_rfl) (fun _ _ _ h => h) (Or.inl ⟨by rfl, ?_⟩) trivial ?_
  rotate_left
  · (intro w hSw; go_simp; try with_reducible rfl)
  simp only [Act.put]
  refine wpAnyH_take (i := 11) (oi := _) (v := ?_) rfl (by kernel_rfl) (by kernel_rfl) (by kernel_rfl) (fun _ _ _ h => h) (Or.inl ⟨by rfl, ?_⟩) trivial ?_
  rotate_left
  · (intro w hSw; go_simp; try with_reducible rfl)
  simp only [Act.put]
  refine wpAnyH_take (i := 12) (oi := _) (v := ?_) rfl (by kernel_rfl) (by kernel_rfl) (by kernel_rfl) (fun _ _ _ h => h) (Or.inl ⟨by rfl, ?_⟩) trivial ?_
  rotate_left
  · (intro w hSw; go_simp; try with_reducible rfl)
  simp only [Act.put]
  refine wpAnyH_take (i := 13) (oi := _) (v := ?_) rfl (by kernel_rfl) (by kernel_rfl) (by kernel_rfl) (fun _ _ _ h => h) (Or.inl ⟨by rfl, ?_⟩) trivial ?_
  rotate_left
  · (intro w hSw; go_simp; try with_reducible rfl)
  simp only [Act.put]
  refine wpAnyH_take (i := 14) (oi := _) (v := ?_) rfl (by kernel_rfl) (by kernel_rfl) (by kernel_rfl) (fun _ _ _ h => h) (Or.inl ⟨by rfl, ?_⟩) trivial ?_
  rotate_left
  · (intro w hSw; go_simp; try with_reducible rfl)
  simp only [Act.put]
  refine wpAnyH_take (i := 15) (oi := _) (v := ?_) rfl (by kernel_rfl) (by kernel_rfl) (by kernel_rfl) (fun _ _ _ h => h) (Or.inl ⟨by rfl, ?_⟩) trivial ?_
  rotate_left
  · (intro w hSw; go_simp; try with_reducible rfl)
  simp only [Act.put]
  refine wpAnyH_take (i := 16) (oi := _) (v := ?_) rfl (by kernel_rfl) (by kernel_rfl) (by kernel_rfl) (fun _ _ _ h => h) (Or.inl ⟨by rfl, ?_⟩) trivial ?_
  rotate_left
  · (intro w hSw; go_simp; try with_reducible rfl)
  simp only [Act.put]
  refine wpAnyH_take (i := 17) (oi := _) (v := ?_) rfl (by kernel_rfl) (by kernel_rfl) (by kernel_rfl) (fun _ _ _ h => h) (Or.inl ⟨by rfl, ?_⟩) trivial ?_
  rotate_left
  · (intro w hSw; go_simp; try with_reducible rfl)
  simp only [Act.put]
  refine wpAnyH_take (i := 18) (oi := _) (v := ?_) rfl (by kernel_rfl) (by kernel_rfl) (by kernel_rfl) (fun _ _ _ h => h) (Or.inl ⟨by rfl, ?_⟩) trivial ?_
  rotate_left
  · (intro w hSw; go_simp; try with_reducible rfl)
  simp only [Act.put]
  refine wpAnyH_take (i := 19) (oi := _) (v := ?_) rfl (by kernel_rfl) (by kernel_rfl) (by kernel_rfl) (fun _ _ _ h => h) (Or.inl ⟨by rfl, ?_⟩) trivial ?_
  rotate_left
  · (intro w hSw; go_simp; try with_reducible rfl)
  simp only [Act.put]
  refine wpAnyH_take (i := 20) (oi := _) (v := ?_) rfl (by kernel_rfl) (by kernel_rfl) (by kernel_rfl) (fun _ _ _ h => h) (Or.inl ⟨by rfl, ?_⟩) trivial ?_
  rotate_left
  · (intro w hSw; go_simp; try with_reducible rfl)
  simp only [Act.put]
  refine wpAnyH_take (i := 21) (oi := _) (v := ?_) rfl (by kernel_rfl) (by kernel_rfl) (by kernel_rfl) (fun _ _ _ h => h) (Or.inl ⟨by rfl, ?_⟩) trivial ?_
  rotate_left
  · (intro w hSw; go_simp; try with_reducible rfl)
  simp only [Act.put]
  refine wpAnyH_take (i := 22) (oi := _) (v := ?_) rfl (by kernel_rfl) (by kernel_rfl) (by kernel_rfl) (fun _ _ _ h => h) (Or.inl ⟨by rfl, ?_⟩) trivial ?_
  rotate_left
  · (intro w hSw; go_simp; try with_reducible rfl)
  simp only [Act.put]
  refine wpAnyH_take (i := 23) (oi := _) (v := ?_) rfl (by kernel_rfl) (by kernel_rfl) (by kernel_rfl) (fun _ _ _ h => h) (Or.inl ⟨by rfl, ?_⟩) trivial ?_
  rotate_left
  · (intro w hSw; go_simp; try with_reducible rfl)
  simp only [Act.put]
  refine wpAnyH_take (i := 24) (oi := _) (v := ?_) rfl (by kernel_rfl) (by kernel_rfl) (by kernel_rfl) (fun _ _ _ h => h) (Or.inl ⟨by rfl, ?_⟩) trivial ?_
  rotate_left
  · (intro w hSw; go_simp; try with_reducible rfl)
  simp only [Act.put]
  refine wpAnyH_take (i := 25) (oi := _) (v := ?_) rfl (by kernel_rfl) (by kernel_rfl) (by kernel_rfl) (fun _ _ _ h => h) (Or.inl ⟨by rfl, ?_⟩) trivial ?_
  rotate_left
  · (intro w hSw; go_simp; try with_reducible rfl)
  simp only [Act.put]
  refine wpAnyH_take (i := 26) (oi := _) (v := ?_) rfl (by kernel_rfl) (by kernel_rfl) (by kernel_rfl) (fun _ _ _ h => h) (Or.inl ⟨by rfl, ?_⟩) trivial ?_
  rotate_left
  · (intro w hSw; go_simp; try with_reducible rfl)
  simp only [Act.put]
  refine wpAnyH_ready (rs := [27]) (by kernel_rfl) (by simp) ?_
  refine AllReadyH.cons (o := _) rfl (fun K hK => ?_) ?_
  · go_simp
    refine hK.out _ _ trivial (fun _ => ?_)
    clear hK K
    try simp only [Act.put, List.setIfInBounds_toArray]
    refine wpAnyH_ready (rs := [28]) (by kernel_rfl) (by simp) ?_
    refine AllReadyH.cons (o := _) rfl (fun K hK => ?_) ?_
    · go_simp
      refine hK.out _ _ trivial (fun _ => ?_)
      clear hK K
      try simp only [Act.put, List.setIfInBounds_toArray]
      refine wpAnyH_done (by kernel_rfl) ?_ _
      refine NoPanic.normal ?_
      go_wp2_with fail
      refine (HN.out _).mono ?_
      rintro e w2 ⟨rfl, hb2⟩
      have q0 := kept_cell hb1 hb2 0 _ rfl
      have f0 := kept_frozen hb1 hb2 0
      have q1 := kept_cell hb1 hb2 1 _ rfl
      have f1 := kept_frozen hb1 hb2 1
      have q2 := kept_cell hb1 hb2 2 _ rfl
      have f2 := kept_frozen hb1 hb2 2
      have q3 := kept_cell hb1 hb2 3 _ rfl
      have f3 := kept_frozen hb1 hb2 3
      have q4 := kept_cell hb1 hb2 4 _ rfl
      have f4 := kept_frozen hb1 hb2 4
      go_wp2
      exact bodyPost_ret (v := .tuple #[.agg #[.int .i64 0, .int .i64 0, .int .i64 0, .int .i64 0, .int .i64 0], .int .i64 2]) (by simp [results, Try.results53, go_sem, q0, q1, q2, q3, q4]) rfl ⟨rfl, (((((below3 hb1 hb2).setCell (Nat.le_refl _) _).setCell (Nat.le_refl _) _).setCell (Nat.le_refl _) _).setCell (Nat.le_refl _) _).setCell (Nat.le_refl _) _⟩
    exact AllReadyH.nil
  exact AllReadyH.nil

set_option maxRecDepth 100000 in
set_option maxHeartbeats 2000000 in
theorem refDeskOf_other (s : ByteArray) (w : World) (hs : sealF s = 0) (hk : (deskAt s).fault = 0) (ht : ((sealS (deskAt s).bytes).toList == s.toList) = false) :
    Calls Try.prog 53 #[.string s] w fun e w' => e = .returned (.tuple #[.agg (deskOf s).cells, .int .i64 (deskF s)]) ∧ Below w.heap.size w w' := by
  have hch := opened_any s (w.alloc (.cells #[.int .i64 0, .int .i64 0, .int .i64 0, .int .i64 0, .int .i64 0] 70))
  have hg : deskGood s = false := by unfold deskGood; rw [ht, Bool.and_false]
  have e1 : deskF s = 2 := by unfold deskF; rw [if_pos hs, if_neg (by rw [hg]; decide)]
  have e2 : deskOf s = KV.zero := by unfold deskOf; rw [if_neg (fun h => by rw [hg] at h; exact absurd h.2 (by decide))]
  have h16 : s.size = 16 := size16 hs
  obtain ⟨h2, h3, h4, b2, b3, b4⟩ := reads5 s h16
  obtain ⟨h5, h6, h7, h8, b5, b6, b7, b8⟩ := reads9 s h16
  obtain ⟨l2, u2⟩ := bAt_bd s 2
  obtain ⟨l3, u3⟩ := bAt_bd s 3
  obtain ⟨l4, u4⟩ := bAt_bd s 4
  obtain ⟨l5, u5⟩ := bAt_bd s 5
  obtain ⟨l6, u6⟩ := bAt_bd s 6
  obtain ⟨l7, u7⟩ := bAt_bd s 7
  obtain ⟨l8, u8⟩ := bAt_bd s 8
  obtain ⟨X, hX⟩ : ∃ X : ByteArray, X = sealS (deskAt s).bytes := ⟨_, rfl⟩
  have HX : Hid (X = sealS (KV.bytes ⟨bAt s 2, bAt s 3, bAt s 4 - 1, bAt s 5 + bAt s 6 * 256, bAt s 7 + bAt s 8 * 256⟩)) := hX
  have ht2 : (X.toList == s.toList) = false := by rw [hX]; exact ht
  clear hX ht
  have ef : KV.fault ⟨bAt s 2, bAt s 3, bAt s 4 - 1, bAt s 5 + bAt s 6 * 256, bAt s 7 + bAt s 8 * 256⟩ = 0 := hk
  have HN : Hid (∀ W : World, Calls Try.prog 47 #[.agg #[.int .i64 (bAt s 2), .int .i64 (bAt s 3), .int .i64 (bAt s 4 - 1), .int .i64 (bAt s 5 + bAt s 6 * 256), .int .i64 (bAt s 7 + bAt s 8 * 256)]] W fun e w' => e = .returned (.int .i64 0) ∧ Below W.heap.size W w') := fun W => by have := deskFault_any (bAt s 2) (bAt s 3) (bAt s 4 - 1) (bAt s 5 + bAt s 6 * 256) (bAt s 7 + bAt s 8 * 256) W; rw [ef] at this; exact this
  have HM : Hid (∀ W : World, Calls Try.prog 51 #[.agg #[.int .i64 (bAt s 2), .int .i64 (bAt s 3), .int .i64 (bAt s 4 - 1), .int .i64 (bAt s 5 + bAt s 6 * 256), .int .i64 (bAt s 7 + bAt s 8 * 256)]] W fun e w' => e = .returned (.string X) ∧ Below W.heap.size W w') := fun W => by rw [HX.out]; exact deskSector_any _ _ _ _ _ W hk
  clear ef
  rw [e1, e2]
  rw [hs] at hch
  have HC := toHid hch
  clear hch e1 e2 hs hk hg h16 HX
  generalize bAt s 2 = x2 at b2 l2 u2 HN HM
  generalize bAt s 3 = x3 at b3 l3 u3 HN HM
  generalize bAt s 4 = x4 at b4 l4 u4 HN HM
  generalize bAt s 5 = x5 at b5 l5 u5 HN HM
  generalize bAt s 6 = x6 at b6 l6 u6 HN HM
  generalize bAt s 7 = x7 at b7 l7 u7 HN HM
  generalize bAt s 8 = x8 at b8 l8 u8 HN HM
  rw [show x5 + x6 * 256 = x5 + 256 * x6 by omega, show x7 + x8 * 256 = x7 + 256 * x8 by omega] at HN HM
  have i2 : (2 : Int) < (s.size : Int) := by omega
  have i3 : (3 : Int) < (s.size : Int) := by omega
  have i4 : (4 : Int) < (s.size : Int) := by omega
  have i5 : (5 : Int) < (s.size : Int) := by omega
  have i6 : (6 : Int) < (s.size : Int) := by omega
  have i7 : (7 : Int) < (s.size : Int) := by omega
  have i8 : (8 : Int) < (s.size : Int) := by omega
  go_enter Try.func53, Try.ntmps53
  go_wp2_with fail
  refine HC.out.mono ?_
  rintro e w1 ⟨rfl, hb1⟩
  obtain ⟨hc, hf⟩ := bcell hb1
  have hz : w.heap.size < w1.heap.size := by have := hb1.size; simp at this; omega
  go_wp2
  refine wp_region_noPanic ?_
  refine wp_region_held_drew (S := fun _ => True) (by kernel_rfl) trivial (fun hHeld => ?_)
  refine wpAnyH_take (i := 0) (oi := _) (v := ?_) rfl (by kernel_rfl) (by kernel_rfl) (by kernel_rfl) (fun _ _ _ h => h) (Or.inl ⟨by rfl, ?_⟩) trivial ?_
  rotate_left
  · (intro w hSw; go_simp; try with_reducible rfl)
  simp only [Act.put]
  refine wpAnyH_take (i := 1) (oi := _) (v := ?_) rfl (by kernel_rfl) (by kernel_rfl) (by kernel_rfl) (fun _ _ _ h => h) (Or.inl ⟨by rfl, ?_⟩) trivial ?_
  rotate_left
  · (intro w hSw; go_simp; try with_reducible rfl)
  simp only [Act.put]
  refine wpAnyH_take (i := 2) (oi := _) (v := ?_) rfl (by kernel_rfl) (by kernel_rfl) (by kernel_rfl) (fun _ _ _ h => h) (Or.inl ⟨by rfl, ?_⟩) trivial ?_
  rotate_left
  · (intro w hSw; go_simp; try with_reducible rfl)
  simp only [Act.put]
  refine wpAnyH_take (i := 3) (oi := _) (v := ?_) rfl (by kernel_rfl) (by kernel_rfl) (by kernel_rfl) (fun _ _ _ h => h) (Or.inl ⟨by rfl, ?_⟩) trivial ?_
  rotate_left
  · (intro w hSw; go_simp; try with_reducible rfl)
  simp only [Act.put]
  refine wpAnyH_take (i := 4) (oi := _) (v := ?_) rfl (by kernel_rfl) (by kernel_rfl) (by kernel_rfl) (fun _ _ _ h => h) (Or.inl ⟨by rfl, ?_⟩) trivial ?_
  rotate_left
  · (intro w hSw; go_simp; try with_reducible rfl)
  simp only [Act.put]
  refine wpAnyH_take (i := 5) (oi := _) (v := ?_) rfl (by kernel_rfl) (by kernel_rfl) (by kernel_rfl) (fun _ _ _ h => h) (Or.inl ⟨by rfl, ?_⟩) trivial ?_
  rotate_left
  · (intro w hSw; go_simp; try with_reducible rfl)
  simp only [Act.put]
  refine wpAnyH_take (i := 6) (oi := _) (v := ?_) rfl (by kernel_rfl) (by kernel_rfl) (by kernel_rfl) (fun _ _ _ h => h) (Or.inl ⟨by rfl, ?_⟩) trivial ?_
  rotate_left
  · (intro w hSw; go_simp; try with_reducible rfl)
  simp only [Act.put]
  refine wpAnyH_take (i := 7) (oi := _) (v := ?_) rfl (by kernel_rfl) (by kernel_rfl) (by kernel_rfl) (fun _ _ _ h => h) (Or.inl ⟨by rfl, ?_⟩) trivial ?_
  rotate_left
  · (intro w hSw; go_simp; try with_reducible rfl)
  simp only [Act.put]
  refine wpAnyH_take (i := 8) (oi := _) (v := ?_) rfl (by kernel_rfl) (by kernel_rfl) (by kernel_rfl) (fun _ _ _ h => h) (Or.inl ⟨by rfl, ?_⟩) trivial ?_
  rotate_left
  · (intro w hSw; go_simp; try with_reducible rfl)
  simp only [Act.put]
  refine wpAnyH_take (i := 9) (oi := _) (v := ?_) rfl (by kernel_rfl) (by kernel_rfl) (by kernel_rfl) (fun _ _ _ h => h) (Or.inl ⟨by rfl, ?_⟩) trivial ?_
  rotate_left
  · (intro w hSw; go_simp; try with_reducible rfl)
  simp only [Act.put]
  refine wpAnyH_take (i := 10) (oi := _) (v := ?_) rfl (by kernel_rfl) (by kernel_rfl) (by kernel_rfl) (fun _ _ _ h => h) (Or.inl ⟨by rfl, ?_⟩) trivial ?_
  rotate_left
  · (intro w hSw; go_simp; try with_reducible rfl)
  simp only [Act.put]
  refine wpAnyH_take (i := 11) (oi := _) (v := ?_) rfl (by kernel_rfl) (by kernel_rfl) (by kernel_rfl) (fun _ _ _ h => h) (Or.inl ⟨by rfl, ?_⟩) trivial ?_
  rotate_left
  · (intro w hSw; go_simp; try with_reducible rfl)
  simp only [Act.put]
  refine wpAnyH_take (i := 12) (oi := _) (v := ?_) rfl (by kernel_rfl) (by kernel_rfl) (by kernel_rfl) (fun _ _ _ h => h) (Or.inl ⟨by rfl, ?_⟩) trivial ?_
  rotate_left
  · (intro w hSw; go_simp; try with_reducible rfl)
  simp only [Act.put]
  refine wpAnyH_take (i := 13) (oi := _) (v := ?_) rfl (by kernel_rfl) (by kernel_rfl) (by kernel_rfl) (fun _ _ _ h => h) (Or.inl ⟨by rfl, ?_⟩) trivial ?_
  rotate_left
  · (intro w hSw; go_simp; try with_reducible rfl)
  simp only [Act.put]
  refine wpAnyH_take (i := 14) (oi := _) (v := ?_) rfl (by kernel_rfl) (by kernel_rfl) (by kernel_rfl) (fun _ _ _ h => h) (Or.inl ⟨by rfl, ?_⟩) trivial ?_
  rotate_left
  · (intro w hSw; go_simp; try with_reducible rfl)
  simp only [Act.put]
  refine wpAnyH_take (i := 15) (oi := _) (v := ?_) rfl (by kernel_rfl) (by kernel_rfl) (by kernel_rfl) (fun _ _ _ h => h) (Or.inl ⟨by rfl, ?_⟩) trivial ?_
  rotate_left
  · (intro w hSw; go_simp; try with_reducible rfl)
  simp only [Act.put]
  refine wpAnyH_take (i := 16) (oi := _) (v := ?_) rfl (by kernel_rfl) (by kernel_rfl) (by kernel_rfl) (fun _ _ _ h => h) (Or.inl ⟨by rfl, ?_⟩) trivial ?_
  rotate_left
  · (intro w hSw; go_simp; try with_reducible rfl)
  simp only [Act.put]
  refine wpAnyH_take (i := 17) (oi := _) (v := ?_) rfl (by kernel_rfl) (by kernel_rfl) (by kernel_rfl) (fun _ _ _ h => h) (Or.inl ⟨by rfl, ?_⟩) trivial ?_
  rotate_left
  · (intro w hSw; go_simp; try with_reducible rfl)
  simp only [Act.put]
  refine wpAnyH_take (i := 18) (oi := _) (v := ?_) rfl (by kernel_rfl) (by kernel_rfl) (by kernel_rfl) (fun _ _ _ h => h) (Or.inl ⟨by rfl, ?_⟩) trivial ?_
  rotate_left
  · (intro w hSw; go_simp; try with_reducible rfl)
  simp only [Act.put]
  refine wpAnyH_take (i := 19) (oi := _) (v := ?_) rfl (by kernel_rfl) (by kernel_rfl) (by kernel_rfl) (fun _ _ _ h => h) (Or.inl ⟨by rfl, ?_⟩) trivial ?_
  rotate_left
  · (intro w hSw; go_simp; try with_reducible rfl)
  simp only [Act.put]
  refine wpAnyH_take (i := 20) (oi := _) (v := ?_) rfl (by kernel_rfl) (by kernel_rfl) (by kernel_rfl) (fun _ _ _ h => h) (Or.inl ⟨by rfl, ?_⟩) trivial ?_
  rotate_left
  · (intro w hSw; go_simp; try with_reducible rfl)
  simp only [Act.put]
  refine wpAnyH_take (i := 21) (oi := _) (v := ?_) rfl (by kernel_rfl) (by kernel_rfl) (by kernel_rfl) (fun _ _ _ h => h) (Or.inl ⟨by rfl, ?_⟩) trivial ?_
  rotate_left
  · (intro w hSw; go_simp; try with_reducible rfl)
  simp only [Act.put]
  refine wpAnyH_take (i := 22) (oi := _) (v := ?_) rfl (by kernel_rfl) (by kernel_rfl) (by kernel_rfl) (fun _ _ _ h => h) (Or.inl ⟨by rfl, ?_⟩) trivial ?_
  rotate_left
  · (intro w hSw; go_simp; try with_reducible rfl)
  simp only [Act.put]
  refine wpAnyH_take (i := 23) (oi := _) (v := ?_) rfl (by kernel_rfl) (by kernel_rfl) (by kernel_rfl) (fun _ _ _ h => h) (Or.inl ⟨by rfl, ?_⟩) trivial ?_
  rotate_left
  · (intro w hSw; go_simp; try with_reducible rfl)
  simp only [Act.put]
  refine wpAnyH_take (i := 24) (oi := _) (v := ?_) rfl (by kernel_rfl) (by kernel_rfl) (by kernel_rfl) (fun _ _ _ h => h) (Or.inl ⟨by rfl, ?_⟩) trivial ?_
  rotate_left
  · (intro w hSw; go_simp; try with_reducible rfl)
  simp only [Act.put]
  refine wpAnyH_take (i := 25) (oi := _) (v := ?_) rfl (by kernel_rfl) (by kernel_rfl) (by kernel_rfl) (fun _ _ _ h => h) (Or.inl ⟨by rfl, ?_⟩) trivial ?_
  rotate_left
  · (intro w hSw; go_simp; try with_reducible rfl)
  simp only [Act.put]
  refine wpAnyH_take (i := 26) (oi := _) (v := ?_) rfl (by kernel_rfl) (by kernel_rfl) (by kernel_rfl) (fun _ _ _ h => h) (Or.inl ⟨by rfl, ?_⟩) trivial ?_
  rotate_left
  · (intro w hSw; go_simp; try with_reducible rfl)
  simp only [Act.put]
  refine wpAnyH_ready (rs := [27]) (by kernel_rfl) (by simp) ?_
  refine AllReadyH.cons (o := _) rfl (fun K hK => ?_) ?_
  · go_simp
    refine hK.out _ _ trivial (fun _ => ?_)
    clear hK K
    try simp only [Act.put, List.setIfInBounds_toArray]
    refine wpAnyH_ready (rs := [28]) (by kernel_rfl) (by simp) ?_
    refine AllReadyH.cons (o := _) rfl (fun K hK => ?_) ?_
    · go_simp
      refine hK.out _ _ trivial (fun _ => ?_)
      clear hK K
      try simp only [Act.put, List.setIfInBounds_toArray]
      refine wpAnyH_done (by kernel_rfl) ?_ _
      refine NoPanic.normal ?_
      go_wp2_with fail
      refine (HN.out _).mono ?_
      rintro e w2 ⟨rfl, hb2⟩
      have r0 := box_cell hb2 0 _ rfl
      have r1 := box_cell hb2 1 _ rfl
      have r2 := box_cell hb2 2 _ rfl
      have r3 := box_cell hb2 3 _ rfl
      have r4 := box_cell hb2 4 _ rfl
      go_wp2_with fail
      clear r0 r1 r2 r3 r4
      refine (HM.out _).mono ?_
      rintro e w3 ⟨rfl, hb3⟩
      have r0 := box_cell3 hb2 hb3 0 _ rfl
      have r1 := box_cell3 hb2 hb3 1 _ rfl
      have r2 := box_cell3 hb2 hb3 2 _ rfl
      have r3 := box_cell3 hb2 hb3 3 _ rfl
      have r4 := box_cell3 hb2 hb3 4 _ rfl
      have q0 := kept_cell4 hb1 hb2 hb3 0 _ rfl
      have f0 := kept_frozen4 hb1 hb2 hb3 0
      have q1 := kept_cell4 hb1 hb2 hb3 1 _ rfl
      have f1 := kept_frozen4 hb1 hb2 hb3 1
      have q2 := kept_cell4 hb1 hb2 hb3 2 _ rfl
      have f2 := kept_frozen4 hb1 hb2 hb3 2
      have q3 := kept_cell4 hb1 hb2 hb3 3 _ rfl
      have f3 := kept_frozen4 hb1 hb2 hb3 3
      have q4 := kept_cell4 hb1 hb2 hb3 4 _ rfl
      have f4 := kept_frozen4 hb1 hb2 hb3 4
      go_wp2
      exact bodyPost_ret (v := .tuple #[.agg #[.int .i64 0, .int .i64 0, .int .i64 0, .int .i64 0, .int .i64 0], .int .i64 2]) (by simp [results, Try.results53, go_sem, q0, q1, q2, q3, q4]) rfl ⟨rfl, (((((below4 hb1 hb2 hb3).setCell (Nat.le_refl _) _).setCell (Nat.le_refl _) _).setCell (Nat.le_refl _) _).setCell (Nat.le_refl _) _).setCell (Nat.le_refl _) _⟩
    exact AllReadyH.nil
  exact AllReadyH.nil

set_option maxRecDepth 100000 in
set_option maxHeartbeats 2000000 in
theorem refDeskOf_good (s : ByteArray) (w : World) (hs : sealF s = 0) (hk : (deskAt s).fault = 0) (ht : ((sealS (deskAt s).bytes).toList == s.toList) = true) :
    Calls Try.prog 53 #[.string s] w fun e w' => e = .returned (.tuple #[.agg (deskOf s).cells, .int .i64 (deskF s)]) ∧ Below w.heap.size w w' := by
  have hch := opened_any s (w.alloc (.cells #[.int .i64 0, .int .i64 0, .int .i64 0, .int .i64 0, .int .i64 0] 70))
  have hg : deskGood s = true := by unfold deskGood; rw [ht, decide_eq_true hk]; rfl
  have e1 : deskF s = 0 := by unfold deskF; rw [if_pos hs, if_pos hg]
  have e2 : deskOf s = ⟨bAt s 2, bAt s 3, bAt s 4 - 1, bAt s 5 + bAt s 6 * 256, bAt s 7 + bAt s 8 * 256⟩ := by unfold deskOf; rw [if_pos ⟨hs, hg⟩]; rfl
  have h16 : s.size = 16 := size16 hs
  obtain ⟨h2, h3, h4, b2, b3, b4⟩ := reads5 s h16
  obtain ⟨h5, h6, h7, h8, b5, b6, b7, b8⟩ := reads9 s h16
  obtain ⟨l2, u2⟩ := bAt_bd s 2
  obtain ⟨l3, u3⟩ := bAt_bd s 3
  obtain ⟨l4, u4⟩ := bAt_bd s 4
  obtain ⟨l5, u5⟩ := bAt_bd s 5
  obtain ⟨l6, u6⟩ := bAt_bd s 6
  obtain ⟨l7, u7⟩ := bAt_bd s 7
  obtain ⟨l8, u8⟩ := bAt_bd s 8
  obtain ⟨X, hX⟩ : ∃ X : ByteArray, X = sealS (deskAt s).bytes := ⟨_, rfl⟩
  have HX : Hid (X = sealS (KV.bytes ⟨bAt s 2, bAt s 3, bAt s 4 - 1, bAt s 5 + bAt s 6 * 256, bAt s 7 + bAt s 8 * 256⟩)) := hX
  have ht2 : (X.toList == s.toList) = true := by rw [hX]; exact ht
  clear hX ht
  have ef : KV.fault ⟨bAt s 2, bAt s 3, bAt s 4 - 1, bAt s 5 + bAt s 6 * 256, bAt s 7 + bAt s 8 * 256⟩ = 0 := hk
  have HN : Hid (∀ W : World, Calls Try.prog 47 #[.agg #[.int .i64 (bAt s 2), .int .i64 (bAt s 3), .int .i64 (bAt s 4 - 1), .int .i64 (bAt s 5 + bAt s 6 * 256), .int .i64 (bAt s 7 + bAt s 8 * 256)]] W fun e w' => e = .returned (.int .i64 0) ∧ Below W.heap.size W w') := fun W => by have := deskFault_any (bAt s 2) (bAt s 3) (bAt s 4 - 1) (bAt s 5 + bAt s 6 * 256) (bAt s 7 + bAt s 8 * 256) W; rw [ef] at this; exact this
  have HM : Hid (∀ W : World, Calls Try.prog 51 #[.agg #[.int .i64 (bAt s 2), .int .i64 (bAt s 3), .int .i64 (bAt s 4 - 1), .int .i64 (bAt s 5 + bAt s 6 * 256), .int .i64 (bAt s 7 + bAt s 8 * 256)]] W fun e w' => e = .returned (.string X) ∧ Below W.heap.size W w') := fun W => by rw [HX.out]; exact deskSector_any _ _ _ _ _ W hk
  clear ef
  rw [e1, e2]
  rw [hs] at hch
  have HC := toHid hch
  clear hch e1 e2 hs hk hg h16 HX
  generalize bAt s 2 = x2 at b2 l2 u2 HN HM ⊢
  generalize bAt s 3 = x3 at b3 l3 u3 HN HM ⊢
  generalize bAt s 4 = x4 at b4 l4 u4 HN HM ⊢
  generalize bAt s 5 = x5 at b5 l5 u5 HN HM ⊢
  generalize bAt s 6 = x6 at b6 l6 u6 HN HM ⊢
  generalize bAt s 7 = x7 at b7 l7 u7 HN HM ⊢
  generalize bAt s 8 = x8 at b8 l8 u8 HN HM ⊢
  rw [show x5 + x6 * 256 = x5 + 256 * x6 by omega, show x7 + x8 * 256 = x7 + 256 * x8 by omega] at HN HM ⊢
  have i2 : (2 : Int) < (s.size : Int) := by omega
  have i3 : (3 : Int) < (s.size : Int) := by omega
  have i4 : (4 : Int) < (s.size : Int) := by omega
  have i5 : (5 : Int) < (s.size : Int) := by omega
  have i6 : (6 : Int) < (s.size : Int) := by omega
  have i7 : (7 : Int) < (s.size : Int) := by omega
  have i8 : (8 : Int) < (s.size : Int) := by omega
  go_enter Try.func53, Try.ntmps53
  go_wp2_with fail
  refine HC.out.mono ?_
  rintro e w1 ⟨rfl, hb1⟩
  obtain ⟨hc, hf⟩ := bcell hb1
  have hz : w.heap.size < w1.heap.size := by have := hb1.size; simp at this; omega
  go_wp2
  refine wp_region_noPanic ?_
  refine wp_region_held_drew (S := fun _ => True) (by kernel_rfl) trivial (fun hHeld => ?_)
  refine wpAnyH_take (i := 0) (oi := _) (v := ?_) rfl (by kernel_rfl) (by kernel_rfl) (by kernel_rfl) (fun _ _ _ h => h) (Or.inl ⟨by rfl, ?_⟩) trivial ?_
  rotate_left
  · (intro w hSw; go_simp; try with_reducible rfl)
  simp only [Act.put]
  refine wpAnyH_take (i := 1) (oi := _) (v := ?_) rfl (by kernel_rfl) (by kernel_rfl) (by kernel_rfl) (fun _ _ _ h => h) (Or.inl ⟨by rfl, ?_⟩) trivial ?_
  rotate_left
  · (intro w hSw; go_simp; try with_reducible rfl)
  simp only [Act.put]
  refine wpAnyH_take (i := 2) (oi := _) (v := ?_) rfl (by kernel_rfl) (by kernel_rfl) (by kernel_rfl) (fun _ _ _ h => h) (Or.inl ⟨by rfl, ?_⟩) trivial ?_
  rotate_left
  · (intro w hSw; go_simp; try with_reducible rfl)
  simp only [Act.put]
  refine wpAnyH_take (i := 3) (oi := _) (v := ?_) rfl (by kernel_rfl) (by kernel_rfl) (by kernel_rfl) (fun _ _ _ h => h) (Or.inl ⟨by rfl, ?_⟩) trivial ?_
  rotate_left
  · (intro w hSw; go_simp; try with_reducible rfl)
  simp only [Act.put]
  refine wpAnyH_take (i := 4) (oi := _) (v := ?_) rfl (by kernel_rfl) (by kernel_rfl) (by kernel_rfl) (fun _ _ _ h => h) (Or.inl ⟨by rfl, ?_⟩) trivial ?_
  rotate_left
  · (intro w hSw; go_simp; try with_reducible rfl)
  simp only [Act.put]
  refine wpAnyH_take (i := 5) (oi := _) (v := ?_) rfl (by kernel_rfl) (by kernel_rfl) (by kernel_rfl) (fun _ _ _ h => h) (Or.inl ⟨by rfl, ?_⟩) trivial ?_
  rotate_left
  · (intro w hSw; go_simp; try with_reducible rfl)
  simp only [Act.put]
  refine wpAnyH_take (i := 6) (oi := _) (v := ?_) rfl (by kernel_rfl) (by kernel_rfl) (by kernel_rfl) (fun _ _ _ h => h) (Or.inl ⟨by rfl, ?_⟩) trivial ?_
  rotate_left
  · (intro w hSw; go_simp; try with_reducible rfl)
  simp only [Act.put]
  refine wpAnyH_take (i := 7) (oi := _) (v := ?_) rfl (by kernel_rfl) (by kernel_rfl) (by kernel_rfl) (fun _ _ _ h => h) (Or.inl ⟨by rfl, ?_⟩) trivial ?_
  rotate_left
  · (intro w hSw; go_simp; try with_reducible rfl)
  simp only [Act.put]
  refine wpAnyH_take (i := 8) (oi := _) (v := ?_) rfl (by kernel_rfl) (by kernel_rfl) (by kernel_rfl) (fun _ _ _ h => h) (Or.inl ⟨by rfl, ?_⟩) trivial ?_
  rotate_left
  · (intro w hSw; go_simp; try with_reducible rfl)
  simp only [Act.put]
  refine wpAnyH_take (i := 9) (oi := _) (v := ?_) rfl (by kernel_rfl) (by kernel_rfl) (by kernel_rfl) (fun _ _ _ h => h) (Or.inl ⟨by rfl, ?_⟩) trivial ?_
  rotate_left
  · (intro w hSw; go_simp; try with_reducible rfl)
  simp only [Act.put]
  refine wpAnyH_take (i := 10) (oi := _) (v := ?_) rfl (by kernel_rfl) (by kernel_rfl) (by kernel_rfl) (fun _ _ _ h => h) (Or.inl ⟨by rfl, ?_⟩) trivial ?_
  rotate_left
  · (intro w hSw; go_simp; try with_reducible rfl)
  simp only [Act.put]
  refine wpAnyH_take (i := 11) (oi := _) (v := ?_) rfl (by kernel_rfl) (by kernel_rfl) (by kernel_rfl) (fun _ _ _ h => h) (Or.inl ⟨by rfl, ?_⟩) trivial ?_
  rotate_left
  · (intro w hSw; go_simp; try with_reducible rfl)
  simp only [Act.put]
  refine wpAnyH_take (i := 12) (oi := _) (v := ?_) rfl (by kernel_rfl) (by kernel_rfl) (by kernel_rfl) (fun _ _ _ h => h) (Or.inl ⟨by rfl, ?_⟩) trivial ?_
  rotate_left
  · (intro w hSw; go_simp; try with_reducible rfl)
  simp only [Act.put]
  refine wpAnyH_take (i := 13) (oi := _) (v := ?_) rfl (by kernel_rfl) (by kernel_rfl) (by kernel_rfl) (fun _ _ _ h => h) (Or.inl ⟨by rfl, ?_⟩) trivial ?_
  rotate_left
  · (intro w hSw; go_simp; try with_reducible rfl)
  simp only [Act.put]
  refine wpAnyH_take (i := 14) (oi := _) (v := ?_) rfl (by kernel_rfl) (by kernel_rfl) (by kernel_rfl) (fun _ _ _ h => h) (Or.inl ⟨by rfl, ?_⟩) trivial ?_
  rotate_left
  · (intro w hSw; go_simp; try with_reducible rfl)
  simp only [Act.put]
  refine wpAnyH_take (i := 15) (oi := _) (v := ?_) rfl (by kernel_rfl) (by kernel_rfl) (by kernel_rfl) (fun _ _ _ h => h) (Or.inl ⟨by rfl, ?_⟩) trivial ?_
  rotate_left
  · (intro w hSw; go_simp; try with_reducible rfl)
  simp only [Act.put]
  refine wpAnyH_take (i := 16) (oi := _) (v := ?_) rfl (by kernel_rfl) (by kernel_rfl) (by kernel_rfl) (fun _ _ _ h => h) (Or.inl ⟨by rfl, ?_⟩) trivial ?_
  rotate_left
  · (intro w hSw; go_simp; try with_reducible rfl)
  simp only [Act.put]
  refine wpAnyH_take (i := 17) (oi := _) (v := ?_) rfl (by kernel_rfl) (by kernel_rfl) (by kernel_rfl) (fun _ _ _ h => h) (Or.inl ⟨by rfl, ?_⟩) trivial ?_
  rotate_left
  · (intro w hSw; go_simp; try with_reducible rfl)
  simp only [Act.put]
  refine wpAnyH_take (i := 18) (oi := _) (v := ?_) rfl (by kernel_rfl) (by kernel_rfl) (by kernel_rfl) (fun _ _ _ h => h) (Or.inl ⟨by rfl, ?_⟩) trivial ?_
  rotate_left
  · (intro w hSw; go_simp; try with_reducible rfl)
  simp only [Act.put]
  refine wpAnyH_take (i := 19) (oi := _) (v := ?_) rfl (by kernel_rfl) (by kernel_rfl) (by kernel_rfl) (fun _ _ _ h => h) (Or.inl ⟨by rfl, ?_⟩) trivial ?_
  rotate_left
  · (intro w hSw; go_simp; try with_reducible rfl)
  simp only [Act.put]
  refine wpAnyH_take (i := 20) (oi := _) (v := ?_) rfl (by kernel_rfl) (by kernel_rfl) (by kernel_rfl) (fun _ _ _ h => h) (Or.inl ⟨by rfl, ?_⟩) trivial ?_
  rotate_left
  · (intro w hSw; go_simp; try with_reducible rfl)
  simp only [Act.put]
  refine wpAnyH_take (i := 21) (oi := _) (v := ?_) rfl (by kernel_rfl) (by kernel_rfl) (by kernel_rfl) (fun _ _ _ h => h) (Or.inl ⟨by rfl, ?_⟩) trivial ?_
  rotate_left
  · (intro w hSw; go_simp; try with_reducible rfl)
  simp only [Act.put]
  refine wpAnyH_take (i := 22) (oi := _) (v := ?_) rfl (by kernel_rfl) (by kernel_rfl) (by kernel_rfl) (fun _ _ _ h => h) (Or.inl ⟨by rfl, ?_⟩) trivial ?_
  rotate_left
  · (intro w hSw; go_simp; try with_reducible rfl)
  simp only [Act.put]
  refine wpAnyH_take (i := 23) (oi := _) (v := ?_) rfl (by kernel_rfl) (by kernel_rfl) (by kernel_rfl) (fun _ _ _ h => h) (Or.inl ⟨by rfl, ?_⟩) trivial ?_
  rotate_left
  · (intro w hSw; go_simp; try with_reducible rfl)
  simp only [Act.put]
  refine wpAnyH_take (i := 24) (oi := _) (v := ?_) rfl (by kernel_rfl) (by kernel_rfl) (by kernel_rfl) (fun _ _ _ h => h) (Or.inl ⟨by rfl, ?_⟩) trivial ?_
  rotate_left
  · (intro w hSw; go_simp; try with_reducible rfl)
  simp only [Act.put]
  refine wpAnyH_take (i := 25) (oi := _) (v := ?_) rfl (by kernel_rfl) (by kernel_rfl) (by kernel_rfl) (fun _ _ _ h => h) (Or.inl ⟨by rfl, ?_⟩) trivial ?_
  rotate_left
  · (intro w hSw; go_simp; try with_reducible rfl)
  simp only [Act.put]
  refine wpAnyH_take (i := 26) (oi := _) (v := ?_) rfl (by kernel_rfl) (by kernel_rfl) (by kernel_rfl) (fun _ _ _ h => h) (Or.inl ⟨by rfl, ?_⟩) trivial ?_
  rotate_left
  · (intro w hSw; go_simp; try with_reducible rfl)
  simp only [Act.put]
  refine wpAnyH_ready (rs := [27]) (by kernel_rfl) (by simp) ?_
  refine AllReadyH.cons (o := _) rfl (fun K hK => ?_) ?_
  · go_simp
    refine hK.out _ _ trivial (fun _ => ?_)
    clear hK K
    try simp only [Act.put, List.setIfInBounds_toArray]
    refine wpAnyH_ready (rs := [28]) (by kernel_rfl) (by simp) ?_
    refine AllReadyH.cons (o := _) rfl (fun K hK => ?_) ?_
    · go_simp
      refine hK.out _ _ trivial (fun _ => ?_)
      clear hK K
      try simp only [Act.put, List.setIfInBounds_toArray]
      refine wpAnyH_done (by kernel_rfl) ?_ _
      refine NoPanic.normal ?_
      go_wp2_with fail
      refine (HN.out _).mono ?_
      rintro e w2 ⟨rfl, hb2⟩
      have r0 := box_cell hb2 0 _ rfl
      have r1 := box_cell hb2 1 _ rfl
      have r2 := box_cell hb2 2 _ rfl
      have r3 := box_cell hb2 3 _ rfl
      have r4 := box_cell hb2 4 _ rfl
      go_wp2_with fail
      clear r0 r1 r2 r3 r4
      refine (HM.out _).mono ?_
      rintro e w3 ⟨rfl, hb3⟩
      have r0 := box_cell3 hb2 hb3 0 _ rfl
      have r1 := box_cell3 hb2 hb3 1 _ rfl
      have r2 := box_cell3 hb2 hb3 2 _ rfl
      have r3 := box_cell3 hb2 hb3 3 _ rfl
      have r4 := box_cell3 hb2 hb3 4 _ rfl
      have q0 := kept_cell4 hb1 hb2 hb3 0 _ rfl
      have f0 := kept_frozen4 hb1 hb2 hb3 0
      have q1 := kept_cell4 hb1 hb2 hb3 1 _ rfl
      have f1 := kept_frozen4 hb1 hb2 hb3 1
      have q2 := kept_cell4 hb1 hb2 hb3 2 _ rfl
      have f2 := kept_frozen4 hb1 hb2 hb3 2
      have q3 := kept_cell4 hb1 hb2 hb3 3 _ rfl
      have f3 := kept_frozen4 hb1 hb2 hb3 3
      have q4 := kept_cell4 hb1 hb2 hb3 4 _ rfl
      have f4 := kept_frozen4 hb1 hb2 hb3 4
      go_wp2
      exact bodyPost_ret (v := .tuple #[Value.agg #[.int .i64 x2, .int .i64 x3, .int .i64 (x4 - 1), .int .i64 (x5 + 256 * x6), .int .i64 (x7 + 256 * x8)], .int .i64 0]) (by simp [results, Try.results53, go_sem, q0, q1, q2, q3, q4]) rfl ⟨rfl, (((((below4 hb1 hb2 hb3).setCell (Nat.le_refl _) _).setCell (Nat.le_refl _) _).setCell (Nat.le_refl _) _).setCell (Nat.le_refl _) _).setCell (Nat.le_refl _) _⟩
    exact AllReadyH.nil
  exact AllReadyH.nil

theorem refDeskOf_any (s : ByteArray) (w : World) :
    Calls Try.prog 53 #[.string s] w fun e w' => e = .returned (.tuple #[.agg (deskOf s).cells, .int .i64 (deskF s)]) ∧ Below w.heap.size w w' := by
  by_cases hs : sealF s = 0
  · by_cases hk : (deskAt s).fault = 0
    · cases ht : ((sealS (deskAt s).bytes).toList == s.toList) with
      | false => exact refDeskOf_other s w hs hk ht
      | true => exact refDeskOf_good s w hs hk ht
    · exact refDeskOf_bad s w hs hk
  · exact refDeskOf_unsealed s w hs
end Go.Proofs.Ytmallmchibdkgaa
