/-
Sealed sectors (chapter 3), in the program and in the document's answer: what each call gives.
Sealed sectors: the document's own sealing; is a sector sealed: in the program and in the document's answer.
-/
import Derived.Test.YtncjnjlakhohgaaQShapeDefs
import Derived.Deep.RegionLaw
import Derived.Deep.RegionHeld3
import Derived.Deep.DrawnRows
import Derived.Deep.AppendSrc
import Derived.Laws.CopyOwn
import Derived.Lib.ConvBytes
import Derived.Deep.WholeRow
import Derived.Deep.AppendLies
namespace Go.Proofs.Ytncjnjlakhohgaa
open Go.RowKit
attribute [local go_sem ↓] Go.wp_at_zero Go.wp_at_succ

def byV (l : List Int) : List Value := l.map (Value.int .u8)

theorem byV_one (l : List Int) : ∀ u ∈ byV l, u.oneCell' = true := by
  intro u hu
  obtain ⟨n, _, rfl⟩ := List.mem_map.1 hu
  rfl

theorem byV_at (l : List Int) (j : Nat) (hj : j < l.length) : (byV l)[j]? = some (.int .u8 (l.getD j 0)) := by
  simp [byV, List.getElem?_eq_getElem hj, List.getD]

theorem info_u8 : (Try.prog.info? 5).map (fun i => (i.zero, i.size, i.bytes)) = some (some (.int .u8 0), 1, 1) := by kernel_rfl
theorem size_u8 : (Try.prog.info? 5).map (·.size) = some 1 := by kernel_rfl

def inB (n lo hi : Int) : Bool := decide (lo ≤ n ∧ n ≤ hi)

theorem retS {a b : ByteArray} (h : a = b) : Ending.returned (.string a) = .returned (.string b) := by rw [h]

theorem within_any (n lo hi : Int) (w : World) :
    Calls Try.prog 75 #[.int .i64 n, .int .i64 lo, .int .i64 hi] w fun e w' => e = .returned (.bool (inB n lo hi)) ∧ w' = w := by
  by_cases h0 : lo ≤ n
  · have g0 : decide (lo ≤ n) = true := by simpa using h0
    have HF : Hid (inB n lo hi = decide (n ≤ hi)) := by unfold Hid inB; simp [h0]
    go_enter Try.func75, Try.ntmps75
    go_wp2
    go_ret
    exact ⟨ret_bool HF.out.symm, rfl⟩
  · have g0 : decide (lo ≤ n) = false := by simpa using h0
    have HF : Hid (inB n lo hi = false) := by unfold Hid inB; simp [h0]
    go_enter Try.func75, Try.ntmps75
    go_wp2
    go_ret
    exact ⟨ret_bool HF.out.symm, rfl⟩

theorem run_copy_seal (w : World) (l : List Int) (b cap : Nat) (hl : l.length ≤ 12) (hb : b < w.heap.size) (hc : ∀ j, j < l.length → w.cell? ⟨b, j, none⟩ = some (.int .u8 (l.getD j 0))) :
    (Builtin.copy_ #[62, 62] 3 #[.slice (some ⟨w.heap.size, 0, none⟩) 12 12, .slice (some ⟨b, 0, none⟩) l.length cap]).run Try.prog (w.alloc (.cells #[.int .u8 0, .int .u8 0, .int .u8 0, .int .u8 0, .int .u8 0, .int .u8 0, .int .u8 0, .int .u8 0, .int .u8 0, .int .u8 0, .int .u8 0, .int .u8 0] 146)) =
      .ok (.int .i64 (l.length : Int)) (w.alloc (.cells (byV (padL l)).toArray 146)) := by
  have hm : (byV l).length = Nat.min l.length 12 := by
    rw [show Nat.min l.length 12 = l.length from Nat.min_eq_left hl]; simp [byV]
  have h := run_copy_row (P := Try.prog) (w.alloc (.cells #[.int .u8 0, .int .u8 0, .int .u8 0, .int .u8 0, .int .u8 0, .int .u8 0, .int .u8 0, .int .u8 0, .int .u8 0, .int .u8 0, .int .u8 0, .int .u8 0] 146)) 62 62 3 5 w.heap.size 0 12 12 ⟨b, 0, none⟩ l.length cap _ 146 (byV l) Try.underlying62 size_u8 (heap_alloc_new w _) hm
    (fun j v hj => by
      have hjl : j < l.length := by
        rcases Nat.lt_or_ge j l.length with h | h
        · exact h
        · rw [List.getElem?_eq_none (by simpa [byV] using h)] at hj; cases hj
      rw [byV_at l j hjl] at hj
      rw [Go.WideShapes.add_plain, Nat.zero_add, World.cell?_alloc_past _ _ _ hb, hc j hjl]; exact hj)
    (by simp [byV]; omega) (byV_one l)
  have e1 : (byV l).length = l.length := by simp [byV]
  have e2 : goInt (byV l).length = Value.int .i64 (l.length : Int) := by rw [e1]; rfl
  have e3 : (#[.int .u8 0, .int .u8 0, .int .u8 0, .int .u8 0, .int .u8 0, .int .u8 0, .int .u8 0, .int .u8 0, .int .u8 0, .int .u8 0, .int .u8 0, .int .u8 0] : Array Value).toList = List.replicate 12 (Value.int .u8 0) := rfl
  have e4 : byV (padL l) = byV l ++ List.replicate (12 - l.length) (Value.int .u8 0) := by simp [byV, padL]
  rw [h, World.setRow_alloc_new, e2, e3, e1, List.take_zero, List.nil_append, Nat.zero_add, List.drop_replicate, ← e4]

theorem run_conv_seal (w : World) (l : List Int) (hl : l.length ≤ 12) :
    (convert 62 9 (.slice (some ⟨w.heap.size, 0, none⟩) 12 12)).run Try.prog (w.alloc (.cells (byV (padL l)).toArray 146)) = .ok (.string (s12 l)) (w.alloc (.cells (byV (padL l)).toArray 146)) := by
  have hp := padL_length l hl
  exact run_convert_bytes_arg (P := Try.prog) _ 62 5 Try.underlying62 Try.underlying5 w.heap.size 0 12 12 (padL l) hp (fun i hi => by
    rw [Nat.zero_add, cell_of_row _ _ _ _ _ _ (heap_alloc_new w _)]
    rw [List.getElem?_toArray]
    exact byV_at (padL l) i (by omega)) 9 Try.underlying9

set_option maxRecDepth 100000 in
set_option maxHeartbeats 400000 in
theorem sealed_any (l : List Int) (b cap : Nat) (w : World) (hl : l.length ≤ 12) (hb : b < w.heap.size) (hc : ∀ j, j < l.length → w.cell? ⟨b, j, none⟩ = some (.int .u8 (l.getD j 0))) :
    Calls Try.prog 74 #[.slice (some ⟨b, 0, none⟩) l.length cap] w fun e w' => e = .returned (.string (sealS l)) ∧ Below w.heap.size w w' := by
  have hcp := run_copy_seal w l b cap hl hb hc
  have hcv := run_conv_seal w l hl
  have hsz := s12_size l hl
  have HR : Hid (s12 l ++ four (Crc.total (s12 l).data.toList) = sealS l) := rfl
  have hf4 := fourS_size (Crc.total (s12 l).data.toList)
  have htl := Crc.total_lt (s12 l).data.toList
  clear hc
  generalize byV (padL l) = P at hcp hcv
  generalize s12 l = S at hcv hsz HR hf4 htl
  go_enter Try.func74, Try.ntmps74
  go_wp2_with fail
  refine (of_one S _ 1 _ (by unfold maxLen; omega) ?_).mono ?_
  · simp [go_sem]
  rintro e w' ⟨rfl, rfl⟩
  go_wp2_with fail
  refine (bytes_any _ _ htl).mono ?_
  rintro e w' ⟨rfl, hb2⟩
  go_wp2
  go_ret
  exact ⟨retS HR.out, (((Below.refl _ _).alloc (Nat.le_refl _) _).alloc (by simp) _).trans (hb2.mono (by simp; omega))⟩

set_option maxHeartbeats 400000 in
theorem refFour_any (s : Nat) (w : World) (hs : s < 4294967296) :
    Calls Try.prog 93 #[.int .u32 s] w fun e w' => e = .returned (.string (four s)) ∧ Below w.heap.size w w' := by
  have hcv := run_convert_bytes_arg (P := Try.prog) (w.alloc (.cells #[.int .u8 ((s : Int) % 256), .int .u8 ((s : Int) / 256 % 256), .int .u8 ((s : Int) / 65536 % 256), .int .u8 ((s : Int) / 16777216)] 5)) 62 5 Try.underlying62 Try.underlying5 w.heap.size 0 4 4 (fourI s) rfl (cells4 w _ _ _ _) 9 Try.underlying9
  go_enter Try.func93, Try.ntmps93
  go_wp2
  go_ret
  exact ⟨rfl, (Below.refl _ _).alloc (Nat.le_refl _) _⟩
end Go.Proofs.Ytncjnjlakhohgaa

namespace Go.Proofs.Ytncjnjlakhohgaa
open Go.RowKit
attribute [local go_sem ↓] Go.wp_at_zero Go.wp_at_succ

def padTo (l : List Int) (k : Nat) : List Int := l ++ List.replicate (k - l.length) 0

theorem padTo_len (l : List Int) (k : Nat) (h : l.length ≤ k) : (padTo l k).length = k := by
  unfold padTo; rw [List.length_append, List.length_replicate]; omega

theorem padTo_self (l : List Int) : padTo l l.length = l := by unfold padTo; simp

theorem padTo_succ (l : List Int) (k : Nat) (h : l.length ≤ k) : byV (padTo l (k + 1)) = byV (padTo l k) ++ [.int .u8 0] := by
  unfold padTo byV
  rw [show k + 1 - l.length = (k - l.length) + 1 by omega, List.replicate_succ']
  simp

set_option maxRecDepth 100000 in
set_option maxHeartbeats 400000 in
theorem refSealed_any (l : List Int) (B b cap : Nat) (w : World) (hl : l.length ≤ 12) (hB : B ≤ w.heap.size) (ho : w.ownsRow B 5 1 (.slice (some ⟨b, 0, none⟩) l.length cap) l.length (byV l)) :
    Calls Try.prog 77 #[.slice (some ⟨b, 0, none⟩) l.length cap] w fun e w' => e = .returned (.string (sealS l)) ∧ Below B w w' := by
  obtain ⟨i0, hi, hz0, hz1, hz2⟩ := info_parts info_u8
  have HO : Hid (w.ownsRow B 5 1 (.slice (some ⟨b, 0, none⟩) l.length cap) l.length (byV l)) := ho
  clear ho
  go_enter Try.func77, Try.ntmps77
  go_wp2
  go_loopw [0] (fun v wr => ∃ (k g c : Nat), l.length ≤ k ∧ k ≤ 12 ∧ v = .slice (some ⟨g, 0, none⟩) k c ∧ wr.ownsRow B 5 1 (.slice (some ⟨g, 0, none⟩) k c) k (byV (padTo l k)) ∧ Below B w wr) (fun v _ => match v with | .slice _ n _ => 12 - n | _ => 0)
  case atStart => exact ⟨l.length, b, cap, Nat.le_refl _, hl, rfl, by rw [padTo_self]; exact HO.out, Below.refl _ _⟩
  case round =>
    obtain ⟨k, g, c, hk1, hk2, rfl, how, hbel⟩ := hrel
    have HBL : Hid (Below B w wr) := hbel
    have HOW : Hid (wr.ownsRow B 5 1 (.slice (some ⟨g, 0, none⟩) k c) k (byV (padTo l k))) := how
    have HSB : Hid (B ≤ wr.heap.size) := by unfold Hid; have := hbel.size; omega
    clear how hbel
    by_cases hlt : k < 12
    · have HOA : Hid ((wr.alloc (.cells #[.int .u8 0] 5)).ownsRow B 5 1 (.slice (some ⟨g, 0, none⟩) k c) k (byV (padTo l k))) := HOW.out.alloc _
      have HSA : Hid (B ≤ (wr.alloc (.cells #[.int .u8 0] 5)).heap.size) := by unfold Hid; have := HSB.out; simp; omega
      go_wp2_with (at_builtin; go_loud (refine wpList_append_lies _ (by rfl) _ _ 62 (by rfl) B 5 i0 (.int .u8 0) 1 1 Try.underlying62 hi hz0 hz1 hz2 rfl (by decide) (.slice (some ⟨g, 0, none⟩) k c) k (byV (padTo l k)) (by rfl) HOA.out ⟨wr.heap.size, 0, none⟩ 1 1 [.int .u8 0] (by rfl) (by rfl) (cell_one_new _ _ _) (fun u hu => by simp at hu; subst hu; rfl) (by decide) (by unfold maxLen; omega) (by omega) HSA.out (wr.heap.size + 1) (by simp) ?_; intro g2 cap2 w2 hown hgrow hat hlt2))
      go_roundw
      case rel =>
        have fin : ∃ (k1 g1 c1 : Nat), l.length ≤ k1 ∧ k1 ≤ 12 ∧ Value.slice (some ⟨g2, 0, none⟩) (k + 1) cap2 = .slice (some ⟨g1, 0, none⟩) k1 c1 ∧ w2.ownsRow B 5 1 (.slice (some ⟨g1, 0, none⟩) k1 c1) k1 (byV (padTo l k1)) ∧ Below B w w2 :=
          ⟨k + 1, g2, cap2, by omega, by omega, rfl, by rw [padTo_succ l k hk1]; exact hown, (HBL.out.alloc HSB.out _).grown hgrow HSA.out (fun r e => (HOW.out.lt r e).1)⟩
        first | exact fin | ((repeat apply Exists.intro); exact ⟨fin, rfl⟩)
      case measure => simp; omega
    · have hkn : k = 12 := by omega
      subst hkn
      have hcv : ∀ W : World, Below wr.heap.size wr W → (convert 62 9 (.slice (some ⟨g, 0, none⟩) 12 c)).run Try.prog W = .ok (.string (s12 l)) W := fun W hW =>
        run_convert_bytes_arg (P := Try.prog) W 62 5 Try.underlying62 Try.underlying5 g 0 12 c (padL l) (padL_length l hl) (fun i hi => by
          rw [Nat.zero_add]
          have h1 := HOW.out.cellAt i hi
          have e : padTo l 12 = padL l := rfl
          rw [e, byV_at (padL l) i (by rw [padL_length l hl]; exact hi)] at h1
          rw [hW.cell (World.block_lt_of_cell? wr _ h1)]; exact h1) 9 Try.underlying9
      have HCV : Hid (∀ W : World, Below wr.heap.size wr W → (convert 62 9 (.slice (some ⟨g, 0, none⟩) 12 c)).run Try.prog W = .ok (.string (s12 l)) W) := hcv
      have hsz := s12_size l hl
      have HR : Hid (s12 l ++ four (Crc.total (s12 l).data.toList) = sealS l) := rfl
      have hf4 := fourS_size (Crc.total (s12 l).data.toList)
      have htl := Crc.total_lt (s12 l).data.toList
      clear hcv
      generalize s12 l = S at HCV hsz HR hf4 htl
      have hb0 : Below wr.heap.size wr wr.drew := (Below.refl _ _).drew
      go_wp2
      go_region_held3 (fun W => Below wr.heap.size wr W ∧ (convert 62 9 (.slice (some ⟨g, 0, none⟩) 12 c)).run Try.prog W = .ok (.string S) W)
        (first | (exact ⟨hb0, HCV.out _ hb0⟩) | assumption | (exact ⟨by assumption, HCV.out _ (by assumption)⟩))
        (first
          | (go_at_call 12; refine (ref_any _ _ (by omega)).mono ?_; rintro e w' ⟨rfl, rfl⟩)
          | (go_at_call 93; refine (refFour_any _ _ htl).mono ?_; rintro e w5 ⟨rfl, hb5⟩; have hb6 := Below.trans (by assumption : Below wr.heap.size wr _ ∧ _).1 (hb5.mono (by assumption : Below wr.heap.size wr _ ∧ _).1.size)))
      all_goals
        go_wp2
        go_ret
        exact ⟨retS HR.out, HBL.out.trans (Below.mono (by assumption) HSB.out)⟩
end Go.Proofs.Ytncjnjlakhohgaa
