/-
Sealed sectors (chapter 3), in the program and in the document's answer: what each call gives.
-/
import Derived.Test.YtmallmchibdkgaaShapeDefs
import Derived.Deep.RegionLaw
import Derived.Deep.RegionHeld3
import Derived.Deep.DrawnRows
import Derived.Deep.AppendSrc
import Derived.Laws.CopyOwn
import Derived.Lib.ConvBytes
import Derived.Deep.WholeRow
namespace Go.Proofs.Ytmallmchibdkgaa
open Go.RowKit
attribute [local go_sem ↓] Go.wp_at_zero Go.wp_at_succ

def byV (l : List Int) : List Value := l.map (Value.int .u8)

theorem byV_one (l : List Int) : ∀ u ∈ byV l, u.oneCell' = true := by
  intro u hu
  obtain ⟨n, _, rfl⟩ := List.mem_map.1 hu
  rfl

theorem byV_at (l : List Int) (j : Nat) (hj : j < l.length) : (byV l)[j]? = some (.int .u8 (l.getD j 0)) := by
  simp [byV, List.getElem?_eq_getElem hj, List.getD]

theorem info_u8 : (Try.prog.info? 5).map (fun i => (i.zero, i.size, i.bytes)) = some (some (.int .u8 0), 1, 1) := by kernel_rfl
theorem size_u8 : (Try.prog.info? 5).map (·.size) = some 1 := by kernel_rfl

def inB (n lo hi : Int) : Bool := decide (lo ≤ n ∧ n ≤ hi)

theorem retS {a b : ByteArray} (h : a = b) : Ending.returned (.string a) = .returned (.string b) := by rw [h]

theorem within_any (n lo hi : Int) (w : World) :
    Calls Try.prog 66 #[.int .i64 n, .int .i64 lo, .int .i64 hi] w fun e w' => e = .returned (.bool (inB n lo hi)) ∧ w' = w := by
  by_cases h0 : lo ≤ n
  · have g0 : decide (lo ≤ n) = true := by simpa using h0
    have HF : Hid (inB n lo hi = decide (n ≤ hi)) := by unfold Hid inB; simp [h0]
    go_enter Try.func66, Try.ntmps66
    go_wp2
    go_ret
    exact ⟨ret_bool HF.out.symm, rfl⟩
  · have g0 : decide (lo ≤ n) = false := by simpa using h0
    have HF : Hid (inB n lo hi = false) := by unfold Hid inB; simp [h0]
    go_enter Try.func66, Try.ntmps66
    go_wp2
    go_ret
    exact ⟨ret_bool HF.out.symm, rfl⟩

theorem run_copy_seal (w : World) (l : List Int) (b cap : Nat) (hl : l.length ≤ 12) (hb : b < w.heap.size) (hc : ∀ j, j < l.length → w.cell? ⟨b, j, none⟩ = some (.int .u8 (l.getD j 0))) :
    (Builtin.copy_ #[62, 62] 3 #[.slice (some ⟨w.heap.size, 0, none⟩) 12 12, .slice (some ⟨b, 0, none⟩) l.length cap]).run Try.prog (w.alloc (.cells #[.int .u8 0, .int .u8 0, .int .u8 0, .int .u8 0, .int .u8 0, .int .u8 0, .int .u8 0, .int .u8 0, .int .u8 0, .int .u8 0, .int .u8 0, .int .u8 0] 127)) =
      .ok (.int .i64 (l.length : Int)) (w.alloc (.cells (byV (padL l)).toArray 127)) := by
  have hm : (byV l).length = Nat.min l.length 12 := by
    rw [show Nat.min l.length 12 = l.length from Nat.min_eq_left hl]; simp [byV]
  have h := run_copy_row (P := Try.prog) (w.alloc (.cells #[.int .u8 0, .int .u8 0, .int .u8 0, .int .u8 0, .int .u8 0, .int .u8 0, .int .u8 0, .int .u8 0, .int .u8 0, .int .u8 0, .int .u8 0, .int .u8 0] 127)) 62 62 3 5 w.heap.size 0 12 12 ⟨b, 0, none⟩ l.length cap _ 127 (byV l) Try.underlying62 size_u8 (heap_alloc_new w _) hm
    (fun j v hj => by
      have hjl : j < l.length := by
        rcases Nat.lt_or_ge j l.length with h | h
        · exact h
        · rw [List.getElem?_eq_none (by simpa [byV] using h)] at hj; cases hj
      rw [byV_at l j hjl] at hj
      rw [Go.WideShapes.add_plain, Nat.zero_add, World.cell?_alloc_past _ _ _ hb, hc j hjl]; exact hj)
    (by simp [byV]; omega) (byV_one l)
  have e1 : (byV l).length = l.length := by simp [byV]
  have e2 : goInt (byV l).length = Value.int .i64 (l.length : Int) := by rw [e1]; rfl
  have e3 : (#[.int .u8 0, .int .u8 0, .int .u8 0, .int .u8 0, .int .u8 0, .int .u8 0, .int .u8 0, .int .u8 0, .int .u8 0, .int .u8 0, .int .u8 0, .int .u8 0] : Array Value).toList = List.replicate 12 (Value.int .u8 0) := rfl
  have e4 : byV (padL l) = byV l ++ List.replicate (12 - l.length) (Value.int .u8 0) := by simp [byV, padL]
  rw [h, World.setRow_alloc_new, e2, e3, e1, List.take_zero, List.nil_append, Nat.zero_add, List.drop_replicate, ← e4]

theorem run_conv_seal (w : World) (l : List Int) (hl : l.length ≤ 12) :
    (convert 62 9 (.slice (some ⟨w.heap.size, 0, none⟩) 12 12)).run Try.prog (w.alloc (.cells (byV (padL l)).toArray 127)) = .ok (.string (s12 l)) (w.alloc (.cells (byV (padL l)).toArray 127)) := by
  have hp := padL_length l hl
  exact run_convert_bytes_arg (P := Try.prog) _ 62 5 Try.underlying62 Try.underlying5 w.heap.size 0 12 12 (padL l) hp (fun i hi => by
    rw [Nat.zero_add, cell_of_row _ _ _ _ _ _ (heap_alloc_new w _)]
    rw [List.getElem?_toArray]
    exact byV_at (padL l) i (by omega)) 9 Try.underlying9

set_option maxRecDepth 100000 in
set_option maxHeartbeats 400000 in
theorem sealed_any (l : List Int) (b cap : Nat) (w : World) (hl : l.length ≤ 12) (hb : b < w.heap.size) (hc : ∀ j, j < l.length → w.cell? ⟨b, j, none⟩ = some (.int .u8 (l.getD j 0))) :
    Calls Try.prog 65 #[.slice (some ⟨b, 0, none⟩) l.length cap] w fun e w' => e = .returned (.string (sealS l)) ∧ Below w.heap.size w w' := by
  have hcp := run_copy_seal w l b cap hl hb hc
  have hcv := run_conv_seal w l hl
  have hsz := s12_size l hl
  have HR : Hid (s12 l ++ four (Crc.total (s12 l).data.toList) = sealS l) := rfl
  have hf4 := fourS_size (Crc.total (s12 l).data.toList)
  have htl := Crc.total_lt (s12 l).data.toList
  clear hc
  generalize byV (padL l) = P at hcp hcv
  generalize s12 l = S at hcv hsz HR hf4 htl
  go_enter Try.func65, Try.ntmps65
  go_wp2_with fail
  refine (of_one S _ 1 _ (by unfold maxLen; omega) ?_).mono ?_
  · simp [go_sem]
  rintro e w' ⟨rfl, rfl⟩
  go_wp2_with fail
  refine (bytes_any _ _ htl).mono ?_
  rintro e w' ⟨rfl, hb2⟩
  go_wp2
  go_ret
  exact ⟨retS HR.out, (((Below.refl _ _).alloc (Nat.le_refl _) _).alloc (by simp) _).trans (hb2.mono (by simp; omega))⟩

set_option maxHeartbeats 400000 in
theorem refFour_any (s : Nat) (w : World) (hs : s < 4294967296) :
    Calls Try.prog 74 #[.int .u32 s] w fun e w' => e = .returned (.string (four s)) ∧ Below w.heap.size w w' := by
  have hcv := run_convert_bytes_arg (P := Try.prog) (w.alloc (.cells #[.int .u8 ((s : Int) % 256), .int .u8 ((s : Int) / 256 % 256), .int .u8 ((s : Int) / 65536 % 256), .int .u8 ((s : Int) / 16777216)] 5)) 62 5 Try.underlying62 Try.underlying5 w.heap.size 0 4 4 (fourI s) rfl (cells4 w _ _ _ _) 9 Try.underlying9
  go_enter Try.func74, Try.ntmps74
  go_wp2
  go_ret
  exact ⟨rfl, (Below.refl _ _).alloc (Nat.le_refl _) _⟩
end Go.Proofs.Ytmallmchibdkgaa
