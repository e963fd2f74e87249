/-
The helpers that SumSays calls: a closed fact, few and short texts, two lists of texts; over the translation.
-/
import Derived.Test.YtlfecjgmmhbanaaQSumTexts
namespace Go.Proofs.Ytlfecjgmmhbanaa
open Go.RowKit

def fewB (ls : List ByteArray) : Bool := decide (ls.length ≤ 20 ∧ ∀ k, k < ls.length → (ls.getD k ByteArray.empty).size ≤ 500)

theorem total_digits : ((Crc.total ((ByteArray.mk #[49, 50, 51]).data.toList ++ (ByteArray.mk #[52, 53, 54, 55, 56, 57]).data.toList) : Nat) : Int) = 3421780262 := by decide +kernel

theorem four_one : ((four 1).toList == [1, 0, 0, 0]) = true := by decide +kernel

set_option maxRecDepth 100000 in
set_option maxHeartbeats 400000 in
theorem sums_any (w : World) : Calls Try.prog 11 #[] w fun e w' => e = .returned (.bool true) ∧ Below w.heap.size w w' := by
  have hf := four_one
  go_enter Try.func11, Try.ntmps11
  go_wp2_with fail
  refine (of_two ⟨#[49, 50, 51]⟩ ⟨#[52, 53, 54, 55, 56, 57]⟩ _ 2 _ (by decide) (by decide) ?_ ?_).mono ?_
  · simp [go_sem]
  · simp [go_sem]
  rintro e w' ⟨he, rfl⟩
  rw [total_digits] at he
  subst he
  go_wp2_with fail
  refine (bytes_any 1 _ (by omega)).mono ?_
  rintro e w' ⟨rfl, hb⟩
  go_wp2
  go_ret
  exact ⟨rfl, ((Below.refl _ _).alloc (Nat.le_refl _) _).trans (hb.mono (by simp))⟩

set_option maxRecDepth 100000 in
set_option maxHeartbeats 400000 in
theorem few_any (la : Option Addr) (len cap : Nat) (ls : List ByteArray) (w : World) (hT : Texts w la len ls) (hn : len ≤ maxLen) :
    Calls Try.prog 12 #[.slice la len cap, .int .i64 500] w fun e w' => e = .returned (.bool (fewB ls)) ∧ w' = w := by
  unfold maxLen at hn
  obtain ⟨hlen, hT⟩ := hT
  by_cases h20 : 20 < len
  · have HF : Hid (fewB ls = false) := by unfold Hid fewB; simp; omega
    clear hT
    go_enter Try.func12, Try.ntmps12
    go_wp2
    go_ret
    exact ⟨ret_bool HF.out.symm, rfl⟩
  · have HT : Hid (∀ k, k < len → ∃ b off, la = some ⟨b, off, none⟩ ∧ w.cell? ⟨b, off + k, none⟩ = some (.string (ls.getD k ByteArray.empty)) ∧ (ls.getD k ByteArray.empty).size ≤ maxLen) := hT
    have HL : Hid (ls.length = len) := hlen
    clear hT hlen
    go_enter Try.func12, Try.ntmps12
    go_wp2
    go_loop [5] (fun i => ∃ k : Nat, k ≤ len ∧ i = .int .i64 k ∧ ∀ j, j < k → (ls.getD j ByteArray.empty).size ≤ 500) (fun i => len - (intOf i).toNat)
    case atStart => exact ⟨0, Nat.zero_le _, rfl, fun j hj => by omega⟩
    case round =>
      obtain ⟨k, hk, rfl, hall⟩ := hrel
      by_cases hlt : k < len
      · obtain ⟨b, off, rfl, hcell, hsz⟩ := HT.out k hlt
        unfold maxLen at hsz
        by_cases h5 : 500 < (ls.getD k ByteArray.empty).size
        · have HF : Hid (fewB ls = false) := by
            unfold Hid fewB
            simp only [decide_eq_false_iff_not]
            rintro ⟨_, h⟩
            have := h k (by rw [HL.out]; exact hlt)
            omega
          clear hall
          generalize ls.getD k ByteArray.empty = s at hcell hsz h5
          go_wp2
          go_ret
          exact ⟨ret_bool HF.out.symm, rfl⟩
        · have HA : Hid (∀ j, j < k + 1 → (ls.getD j ByteArray.empty).size ≤ 500) := by
            intro j hj
            by_cases e : j = k
            · rw [e]; omega
            · exact hall j (by omega)
          clear hall
          generalize ls.getD k ByteArray.empty = s at hcell hsz h5
          go_wp2
          go_round
          case rel => exact ⟨k + 1, by omega, by go_num, HA.out⟩
          case measure => simp [intOf]; omega
      · have HF : Hid (fewB ls = true) := by
          unfold Hid fewB
          simp only [decide_eq_true_eq]
          exact ⟨by rw [HL.out]; omega, fun j hj => hall j (by have := HL.out; omega)⟩
        clear hall
        go_wp2
        go_ret
        exact ⟨ret_bool HF.out.symm, rfl⟩

set_option maxRecDepth 100000 in
set_option maxHeartbeats 400000 in
theorem sameTexts_any (g cap : Nat) (la : Option Addr) (len cap' : Nat) (ls : List ByteArray) (w : World) (hT : Texts w la len ls) (hn : len ≤ maxLen)
    (hc : ∀ k, k < len → w.cell? ⟨g, k, none⟩ = some (.string (ls.getD k ByteArray.empty))) :
    Calls Try.prog 17 #[.slice (some ⟨g, 0, none⟩) len cap, .slice la len cap'] w fun e w' => e = .returned (.bool true) ∧ Below w.heap.size w w' := by
  unfold maxLen at hn
  have HT : Hid (Texts w la len ls) := hT
  have HC : Hid (∀ k, k < len → w.cell? ⟨g, k, none⟩ = some (.string (ls.getD k ByteArray.empty))) := hc
  clear hT hc
  go_enter Try.func17, Try.ntmps17
  go_wp2
  go_loopw [5] (fun i wr => ∃ k : Nat, k ≤ len ∧ i = .int .i64 k ∧ Below w.heap.size w wr) (fun i _ => len - (intOf i).toNat)
  case atStart => exact ⟨0, Nat.zero_le _, rfl, Below.refl _ _⟩
  case round =>
    obtain ⟨k, hk, rfl, hbel⟩ := hrel
    by_cases hlt : k < len
    · obtain ⟨b, off, rfl, hcell, hsz⟩ := HT.out.2 k hlt
      have hcell2 := HC.out k hlt
      rw [← hbel.cell (p := ⟨b, off + k, none⟩) (World.block_lt_of_cell? w _ hcell)] at hcell
      rw [← hbel.cell (p := ⟨g, k, none⟩) (World.block_lt_of_cell? w _ hcell2)] at hcell2
      generalize ls.getD k ByteArray.empty = s at hcell hsz hcell2
      go_wp2
      go_quiet (fail)
      go_wp2
      go_roundw
      case rel =>
        have fin : ∃ k1 : Nat, k1 ≤ len ∧ Value.int .i64 ((k : Int) + 1) = .int .i64 k1 ∧ Below w.heap.size w (wr.drewN nq) := ⟨k + 1, by omega, by go_num, below_drewN hbel _⟩
        first | exact fin | ((repeat apply Exists.intro); exact ⟨fin, rfl⟩)
      case measure => simp [intOf]; omega
    · go_wp2
      go_ret
      exact ⟨rfl, hbel⟩
end Go.Proofs.Ytlfecjgmmhbanaa
