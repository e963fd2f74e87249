/-
Sectors as heads (C1), in the document's answer: what HeadOf gives.
-/
import Derived.Test.YtncjnjlakhohgaaQShapeHead2
namespace Go.Proofs.Ytncjnjlakhohgaa
open Go.RowKit
attribute [local go_sem ↓] Go.wp_at_zero Go.wp_at_succ

theorem sealF_pos {s : ByteArray} (h : sealF s ≠ 0) : 0 < sealF s := by
  unfold sealF at h ⊢
  split
  · next h16 => rw [if_pos h16] at h
                split
                · next hq => rw [if_pos hq] at h; exact absurd rfl h
                · omega
  · omega

theorem kept_cell4 {w w1 w2 w3 : World} {C : Array Value} {t : TypeId} {o : Obj} (hb1 : Below (w.alloc (.cells C t)).heap.size (w.alloc (.cells C t)) w1) (hb2 : Below (w1.alloc o).drew.heap.size (w1.alloc o).drew w2) (hb3 : Below w2.heap.size w2 w3) (i : Nat) (v : Value) (hv : C[i]? = some v) :
    w3.cell? ⟨w.heap.size, i, none⟩ = some v := by
  have h2 := kept_cell hb1 hb2 i v hv
  rw [hb3.cell (World.block_lt_of_cell? w2 _ h2)]; exact h2

theorem kept_frozen {w w1 w2 : World} {C : Array Value} {t : TypeId} {o : Obj} (hb1 : Below (w.alloc (.cells C t)).heap.size (w.alloc (.cells C t)) w1) (hb2 : Below (w1.alloc o).drew.heap.size (w1.alloc o).drew w2) (i : Nat) :
    w2.frozen? ⟨w.heap.size, i, none⟩ = false := by
  have hz := hb1.size
  simp at hz
  rw [hb2.frozen (by show w.heap.size < (w1.alloc o).heap.size; simp; omega)]
  show (w1.alloc o).frozen? _ = _
  rw [World.frozen?_alloc_past _ _ _ (by show w.heap.size < w1.heap.size; omega), hb1.frozen (by simp), frozen_of_row _ _ _ _ _ (heap_alloc_new w _)]

theorem kept_frozen4 {w w1 w2 w3 : World} {C : Array Value} {t : TypeId} {o : Obj} (hb1 : Below (w.alloc (.cells C t)).heap.size (w.alloc (.cells C t)) w1) (hb2 : Below (w1.alloc o).drew.heap.size (w1.alloc o).drew w2) (hb3 : Below w2.heap.size w2 w3) (i : Nat) :
    w3.frozen? ⟨w.heap.size, i, none⟩ = false := by
  have hz := hb1.size
  have hz2 := hb2.size
  have hz3 : (w1.alloc o).drew.heap.size = w1.heap.size + 1 := by show (w1.alloc o).heap.size = _; simp
  simp at hz
  rw [hb3.frozen (by show w.heap.size < w2.heap.size; omega)]
  exact kept_frozen hb1 hb2 i

theorem box_cell {w1 w2 : World} {C : Array Value} {t : TypeId} (hb2 : Below (w1.alloc (.cells C t)).drew.heap.size (w1.alloc (.cells C t)).drew w2) (i : Nat) (v : Value) (hv : C[i]? = some v) : w2.cell? ⟨w1.heap.size, i, none⟩ = some v := by
  rw [hb2.cell (by show w1.heap.size < (w1.alloc (.cells C t)).heap.size; simp)]
  show (w1.alloc (.cells C t)).cell? _ = _
  rw [cell_of_row _ _ _ _ _ _ (heap_alloc_new w1 _)]; exact hv

theorem box_cell3 {w1 w2 w3 : World} {C : Array Value} {t : TypeId} (hb2 : Below (w1.alloc (.cells C t)).drew.heap.size (w1.alloc (.cells C t)).drew w2) (hb3 : Below w2.heap.size w2 w3) (i : Nat) (v : Value) (hv : C[i]? = some v) : w3.cell? ⟨w1.heap.size, i, none⟩ = some v := by
  have h2 := box_cell hb2 i v hv
  rw [hb3.cell (World.block_lt_of_cell? w2 _ h2)]; exact h2

theorem below4 {w w1 w2 w3 : World} {o o' : Obj} (hb1 : Below (w.alloc o).heap.size (w.alloc o) w1) (hb2 : Below (w1.alloc o').drew.heap.size (w1.alloc o').drew w2) (hb3 : Below w2.heap.size w2 w3) : Below w.heap.size w w3 :=
  (below3 hb1 hb2).trans (hb3.mono (below3 hb1 hb2).size)

set_option maxRecDepth 100000 in
set_option maxHeartbeats 1000000 in
theorem refHeadOf_unsealed (s : ByteArray) (w : World) (hs : sealF s ≠ 0) :
    Calls Try.prog 53 #[.string s] w fun e w' => e = .returned (.tuple #[.agg (headOf s).cells, .int .i64 (headF s)]) ∧ Below w.heap.size w w' := by
  have hch := opened_any s (w.alloc (.cells #[.int .i64 0, .int .i64 0, .int .i64 0] 67))
  have e1 : headF s = sealF s := by unfold headF; rw [if_neg hs]
  have e2 : headOf s = HV.zero := by unfold headOf; rw [if_neg (fun h => hs h.1)]
  have hp := sealF_pos hs
  rw [e1, e2]
  generalize sealF s = f at hch hp
  have hd : decide (0 < f) = true := by simpa using hp
  have HC := toHid hch
  clear hch e1 e2 hs
  go_enter Try.func53, Try.ntmps53
  go_wp2_with fail
  refine HC.out.mono ?_
  rintro e w1 ⟨rfl, hb1⟩
  obtain ⟨hc, hf⟩ := bcell hb1
  have hz : w.heap.size < w1.heap.size := by have := hb1.size; simp at this; omega
  go_wp2
  exact bodyPost_ret (v := .tuple #[.agg #[.int .i64 0, .int .i64 0, .int .i64 0], .int .i64 f]) (by simp [results, Try.results53, go_sem, hc]) rfl ⟨rfl, ((((((Below.refl _ _).alloc (Nat.le_refl _) _).trans (hb1.mono (by simp))).setCell (by simp) _).setCell (by simp) _).setCell (by simp) _)⟩

set_option maxRecDepth 100000 in
set_option maxHeartbeats 1000000 in
theorem refHeadOf_bad (s : ByteArray) (w : World) (hs : sealF s = 0) (hk : (headAt s).ok = false) :
    Calls Try.prog 53 #[.string s] w fun e w' => e = .returned (.tuple #[.agg (headOf s).cells, .int .i64 (headF s)]) ∧ Below w.heap.size w w' := by
  have hch := opened_any s (w.alloc (.cells #[.int .i64 0, .int .i64 0, .int .i64 0] 67))
  have hg : headGood s = false := by unfold headGood; rw [hk]; rfl
  have e1 : headF s = 2 := by unfold headF; rw [if_pos hs, if_neg (by rw [hg]; decide)]
  have e2 : headOf s = HV.zero := by unfold headOf; rw [if_neg (fun h => by rw [hg] at h; exact absurd h.2 (by decide))]
  have h16 : s.size = 16 := size16 hs
  obtain ⟨h2, h3, h4, b2, b3, b4⟩ := reads5 s h16
  obtain ⟨l2, u2⟩ := bAt_bd s 2
  obtain ⟨l3, u3⟩ := bAt_bd s 3
  obtain ⟨l4, u4⟩ := bAt_bd s 4
  have ef : HV.fault ⟨bAt s 2, bAt s 3, bAt s 4 - 1⟩ = 1 := if_neg (by rw [show HV.ok ⟨bAt s 2, bAt s 3, bAt s 4 - 1⟩ = false from hk]; decide)
  have HN : Hid (∀ W : World, Calls Try.prog 38 #[.agg #[.int .i64 (bAt s 2), .int .i64 (bAt s 3), .int .i64 (bAt s 4 - 1)]] W fun e w' => e = .returned (.int .i64 1) ∧ Below W.heap.size W w') := fun W => by have := headFault_any (bAt s 2) (bAt s 3) (bAt s 4 - 1) W; rw [ef] at this; exact this
  rw [e1, e2]
  rw [hs] at hch
  have HC := toHid hch
  clear hch e1 e2 hs hk hg h16 ef
  generalize bAt s 2 = x2 at b2 l2 u2 HN
  generalize bAt s 3 = x3 at b3 l3 u3 HN
  generalize bAt s 4 = x4 at b4 l4 u4 HN
  go_enter Try.func53, Try.ntmps53
  go_wp2_with fail
  refine HC.out.mono ?_
  rintro e w1 ⟨rfl, hb1⟩
  obtain ⟨hc, hf⟩ := bcell hb1
  have hz : w.heap.size < w1.heap.size := by have := hb1.size; simp at this; omega
  go_wp2
  go_region
  go_wp2_with fail
  refine (HN.out _).mono ?_
  rintro e w2 ⟨rfl, hb2⟩
  have q0 := kept_cell hb1 hb2 0 _ rfl
  have q1 := kept_cell hb1 hb2 1 _ rfl
  have q2 := kept_cell hb1 hb2 2 _ rfl
  have f0 := kept_frozen hb1 hb2 0
  have f1 := kept_frozen hb1 hb2 1
  have f2 := kept_frozen hb1 hb2 2
  go_wp2
  exact bodyPost_ret (v := .tuple #[.agg #[.int .i64 0, .int .i64 0, .int .i64 0], .int .i64 2]) (by simp [results, Try.results53, go_sem, q0, q1, q2]) rfl ⟨rfl, (((below3 hb1 hb2).setCell (Nat.le_refl _) _).setCell (Nat.le_refl _) _).setCell (Nat.le_refl _) _⟩

set_option maxRecDepth 100000 in
set_option maxHeartbeats 1000000 in
theorem refHeadOf_other (s : ByteArray) (w : World) (hs : sealF s = 0) (hk : (headAt s).ok = true) (ht : ((sealS (headAt s).bytes).toList == s.toList) = false) :
    Calls Try.prog 53 #[.string s] w fun e w' => e = .returned (.tuple #[.agg (headOf s).cells, .int .i64 (headF s)]) ∧ Below w.heap.size w w' := by
  have hch := opened_any s (w.alloc (.cells #[.int .i64 0, .int .i64 0, .int .i64 0] 67))
  have hg : headGood s = false := by unfold headGood; rw [ht, Bool.and_false]
  have e1 : headF s = 2 := by unfold headF; rw [if_pos hs, if_neg (by rw [hg]; decide)]
  have e2 : headOf s = HV.zero := by unfold headOf; rw [if_neg (fun h => by rw [hg] at h; exact absurd h.2 (by decide))]
  have h16 : s.size = 16 := size16 hs
  obtain ⟨h2, h3, h4, b2, b3, b4⟩ := reads5 s h16
  obtain ⟨l2, u2⟩ := bAt_bd s 2
  obtain ⟨l3, u3⟩ := bAt_bd s 3
  obtain ⟨l4, u4⟩ := bAt_bd s 4
  have ef : HV.fault ⟨bAt s 2, bAt s 3, bAt s 4 - 1⟩ = 0 := if_pos hk
  have HN : Hid (∀ W : World, Calls Try.prog 38 #[.agg #[.int .i64 (bAt s 2), .int .i64 (bAt s 3), .int .i64 (bAt s 4 - 1)]] W fun e w' => e = .returned (.int .i64 0) ∧ Below W.heap.size W w') := fun W => by have := headFault_any (bAt s 2) (bAt s 3) (bAt s 4 - 1) W; rw [ef] at this; exact this
  obtain ⟨X, hX⟩ : ∃ X : ByteArray, X = sealS (headAt s).bytes := ⟨_, rfl⟩
  have HX : Hid (X = sealS [83, 89, bAt s 2, bAt s 3, bAt s 4 - 1 + 1]) := hX
  have ht2 : (X.toList == s.toList) = false := by rw [hX]; exact ht
  clear hX ht
  have HM : Hid (∀ W : World, Calls Try.prog 42 #[.agg #[.int .i64 (bAt s 2), .int .i64 (bAt s 3), .int .i64 (bAt s 4 - 1)]] W fun e w' => e = .returned (.string X) ∧ Below W.heap.size W w') := fun W => by rw [HX.out]; exact headSector_any _ _ _ W hk
  rw [e1, e2]
  rw [hs] at hch
  have HC := toHid hch
  clear hch e1 e2 hs hk hg h16 ef HX
  generalize bAt s 2 = x2 at b2 l2 u2 HN HM
  generalize bAt s 3 = x3 at b3 l3 u3 HN HM
  generalize bAt s 4 = x4 at b4 l4 u4 HN HM
  go_enter Try.func53, Try.ntmps53
  go_wp2_with fail
  refine HC.out.mono ?_
  rintro e w1 ⟨rfl, hb1⟩
  obtain ⟨hc, hf⟩ := bcell hb1
  have hz : w.heap.size < w1.heap.size := by have := hb1.size; simp at this; omega
  go_wp2
  go_region
  go_wp2_with fail
  refine (HN.out _).mono ?_
  rintro e w2 ⟨rfl, hb2⟩
  have r0 := box_cell hb2 0 _ rfl
  have r1 := box_cell hb2 1 _ rfl
  have r2 := box_cell hb2 2 _ rfl
  go_wp2_with fail
  clear r0 r1 r2
  refine (HM.out _).mono ?_
  rintro e w3 ⟨rfl, hb3⟩
  have r0 := box_cell3 hb2 hb3 0 _ rfl
  have r1 := box_cell3 hb2 hb3 1 _ rfl
  have r2 := box_cell3 hb2 hb3 2 _ rfl
  have q0 := kept_cell4 hb1 hb2 hb3 0 _ rfl
  have q1 := kept_cell4 hb1 hb2 hb3 1 _ rfl
  have q2 := kept_cell4 hb1 hb2 hb3 2 _ rfl
  have f0 := kept_frozen4 hb1 hb2 hb3 0
  have f1 := kept_frozen4 hb1 hb2 hb3 1
  have f2 := kept_frozen4 hb1 hb2 hb3 2
  go_wp2
  exact bodyPost_ret (v := .tuple #[.agg #[.int .i64 0, .int .i64 0, .int .i64 0], .int .i64 2]) (by simp [results, Try.results53, go_sem, q0, q1, q2]) rfl ⟨rfl, (((below4 hb1 hb2 hb3).setCell (Nat.le_refl _) _).setCell (Nat.le_refl _) _).setCell (Nat.le_refl _) _⟩

set_option maxRecDepth 100000 in
set_option maxHeartbeats 1000000 in
theorem refHeadOf_good (s : ByteArray) (w : World) (hs : sealF s = 0) (hk : (headAt s).ok = true) (ht : ((sealS (headAt s).bytes).toList == s.toList) = true) :
    Calls Try.prog 53 #[.string s] w fun e w' => e = .returned (.tuple #[.agg (headOf s).cells, .int .i64 (headF s)]) ∧ Below w.heap.size w w' := by
  have hch := opened_any s (w.alloc (.cells #[.int .i64 0, .int .i64 0, .int .i64 0] 67))
  have hg : headGood s = true := by unfold headGood; rw [ht, hk]; rfl
  have e1 : headF s = 0 := by unfold headF; rw [if_pos hs, if_pos hg]
  have e2 : headOf s = ⟨bAt s 2, bAt s 3, bAt s 4 - 1⟩ := by unfold headOf; rw [if_pos ⟨hs, hg⟩]; rfl
  have h16 : s.size = 16 := size16 hs
  obtain ⟨h2, h3, h4, b2, b3, b4⟩ := reads5 s h16
  obtain ⟨l2, u2⟩ := bAt_bd s 2
  obtain ⟨l3, u3⟩ := bAt_bd s 3
  obtain ⟨l4, u4⟩ := bAt_bd s 4
  have ef : HV.fault ⟨bAt s 2, bAt s 3, bAt s 4 - 1⟩ = 0 := if_pos hk
  have HN : Hid (∀ W : World, Calls Try.prog 38 #[.agg #[.int .i64 (bAt s 2), .int .i64 (bAt s 3), .int .i64 (bAt s 4 - 1)]] W fun e w' => e = .returned (.int .i64 0) ∧ Below W.heap.size W w') := fun W => by have := headFault_any (bAt s 2) (bAt s 3) (bAt s 4 - 1) W; rw [ef] at this; exact this
  obtain ⟨X, hX⟩ : ∃ X : ByteArray, X = sealS (headAt s).bytes := ⟨_, rfl⟩
  have HX : Hid (X = sealS [83, 89, bAt s 2, bAt s 3, bAt s 4 - 1 + 1]) := hX
  have ht2 : (X.toList == s.toList) = true := by rw [hX]; exact ht
  clear hX ht
  have HM : Hid (∀ W : World, Calls Try.prog 42 #[.agg #[.int .i64 (bAt s 2), .int .i64 (bAt s 3), .int .i64 (bAt s 4 - 1)]] W fun e w' => e = .returned (.string X) ∧ Below W.heap.size W w') := fun W => by rw [HX.out]; exact headSector_any _ _ _ W hk
  rw [e1, e2]
  rw [hs] at hch
  have HC := toHid hch
  clear hch e1 e2 hs hk hg h16 ef HX
  generalize bAt s 2 = x2 at b2 l2 u2 HN HM ⊢
  generalize bAt s 3 = x3 at b3 l3 u3 HN HM ⊢
  generalize bAt s 4 = x4 at b4 l4 u4 HN HM ⊢
  go_enter Try.func53, Try.ntmps53
  go_wp2_with fail
  refine HC.out.mono ?_
  rintro e w1 ⟨rfl, hb1⟩
  obtain ⟨hc, hf⟩ := bcell hb1
  have hz : w.heap.size < w1.heap.size := by have := hb1.size; simp at this; omega
  go_wp2
  go_region
  go_wp2_with fail
  refine (HN.out _).mono ?_
  rintro e w2 ⟨rfl, hb2⟩
  have r0 := box_cell hb2 0 _ rfl
  have r1 := box_cell hb2 1 _ rfl
  have r2 := box_cell hb2 2 _ rfl
  go_wp2_with fail
  clear r0 r1 r2
  refine (HM.out _).mono ?_
  rintro e w3 ⟨rfl, hb3⟩
  have r0 := box_cell3 hb2 hb3 0 _ rfl
  have r1 := box_cell3 hb2 hb3 1 _ rfl
  have r2 := box_cell3 hb2 hb3 2 _ rfl
  have q0 := kept_cell4 hb1 hb2 hb3 0 _ rfl
  have q1 := kept_cell4 hb1 hb2 hb3 1 _ rfl
  have q2 := kept_cell4 hb1 hb2 hb3 2 _ rfl
  have f0 := kept_frozen4 hb1 hb2 hb3 0
  have f1 := kept_frozen4 hb1 hb2 hb3 1
  have f2 := kept_frozen4 hb1 hb2 hb3 2
  go_wp2
  exact bodyPost_ret (v := .tuple #[.agg #[.int .i64 x2, .int .i64 x3, .int .i64 (x4 - 1)], .int .i64 0]) (by simp [results, Try.results53, go_sem, q0, q1, q2]) rfl ⟨rfl, (((below4 hb1 hb2 hb3).setCell (Nat.le_refl _) _).setCell (Nat.le_refl _) _).setCell (Nat.le_refl _) _⟩

theorem refHeadOf_any (s : ByteArray) (w : World) :
    Calls Try.prog 53 #[.string s] w fun e w' => e = .returned (.tuple #[.agg (headOf s).cells, .int .i64 (headF s)]) ∧ Below w.heap.size w w' := by
  by_cases hs : sealF s = 0
  · cases hk : (headAt s).ok with
    | false => exact refHeadOf_bad s w hs hk
    | true =>
      cases ht : ((sealS (headAt s).bytes).toList == s.toList) with
      | false => exact refHeadOf_other s w hs hk ht
      | true => exact refHeadOf_good s w hs hk ht
  · exact refHeadOf_unsealed s w hs
end Go.Proofs.Ytncjnjlakhohgaa
