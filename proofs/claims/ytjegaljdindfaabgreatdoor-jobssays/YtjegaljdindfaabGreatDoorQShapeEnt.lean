/-
Sealed sectors: the document's own sealing; is a sector sealed: in the program and in the document's answer.
Is a sector sealed; heads (C1): in the program and in the document's answer: what each call gives.
Heads as sectors, and sectors as heads (C1): in the program and in the document's answer: what each call gives.
Sectors as heads (C1), in the document's answer: what HeadOf gives.
Entries of a table (C2): what may be; how many rows; in the program and in the document's answer.
-/
import Derived.Test.YtjegaljdindfaabGreatDoorQShapeSeal
import Derived.Deep.AppendLies
import Derived.BigRegion
namespace Go.Proofs.YtjegaljdindfaabGreatDoor
open Go.RowKit
attribute [local go_sem ↓] Go.wp_at_zero Go.wp_at_succ

def padTo (l : List Int) (k : Nat) : List Int := l ++ List.replicate (k - l.length) 0

theorem padTo_len (l : List Int) (k : Nat) (h : l.length ≤ k) : (padTo l k).length = k := by
  unfold padTo; rw [List.length_append, List.length_replicate]; omega

theorem padTo_self (l : List Int) : padTo l l.length = l := by unfold padTo; simp

theorem padTo_succ (l : List Int) (k : Nat) (h : l.length ≤ k) : byV (padTo l (k + 1)) = byV (padTo l k) ++ [.int .u8 0] := by
  unfold padTo byV
  rw [show k + 1 - l.length = (k - l.length) + 1 by omega, List.replicate_succ']
  simp

set_option maxRecDepth 100000 in
set_option maxHeartbeats 400000 in
theorem refSealed_any (l : List Int) (B b cap : Nat) (w : World) (hl : l.length ≤ 12) (hB : B ≤ w.heap.size) (ho : w.ownsRow B 5 1 (.slice (some ⟨b, 0, none⟩) l.length cap) l.length (byV l)) :
    Calls Tryz.prog 140 #[.slice (some ⟨b, 0, none⟩) l.length cap] w fun e w' => e = .returned (.string (sealS l)) ∧ Below B w w' := by
  obtain ⟨i0, hi, hz0, hz1, hz2⟩ := info_parts info_u8
  have HO : Hid (w.ownsRow B 5 1 (.slice (some ⟨b, 0, none⟩) l.length cap) l.length (byV l)) := ho
  clear ho
  go_enter Tryz.func140, Tryz.ntmps140
  go_wp2
  go_loopw [0] (fun v wr => ∃ (k g c : Nat), l.length ≤ k ∧ k ≤ 12 ∧ v = .slice (some ⟨g, 0, none⟩) k c ∧ wr.ownsRow B 5 1 (.slice (some ⟨g, 0, none⟩) k c) k (byV (padTo l k)) ∧ Below B w wr) (fun v _ => match v with | .slice _ n _ => 12 - n | _ => 0)
  case atStart => exact ⟨l.length, b, cap, Nat.le_refl _, hl, rfl, by rw [padTo_self]; exact HO.out, Below.refl _ _⟩
  case round =>
    obtain ⟨k, g, c, hk1, hk2, rfl, how, hbel⟩ := hrel
    have HBL : Hid (Below B w wr) := hbel
    have HOW : Hid (wr.ownsRow B 5 1 (.slice (some ⟨g, 0, none⟩) k c) k (byV (padTo l k))) := how
    have HSB : Hid (B ≤ wr.heap.size) := by unfold Hid; have := hbel.size; omega
    clear how hbel
    by_cases hlt : k < 12
    · have HOA : Hid ((wr.alloc (.cells #[.int .u8 0] 5)).ownsRow B 5 1 (.slice (some ⟨g, 0, none⟩) k c) k (byV (padTo l k))) := HOW.out.alloc _
      have HSA : Hid (B ≤ (wr.alloc (.cells #[.int .u8 0] 5)).heap.size) := by unfold Hid; have := HSB.out; simp; omega
      go_wp2_with (at_builtin; go_loud (refine wpList_append_lies _ (by rfl) _ _ 132 (by rfl) B 5 i0 (.int .u8 0) 1 1 Tryz.underlying132 hi hz0 hz1 hz2 rfl (by decide) (.slice (some ⟨g, 0, none⟩) k c) k (byV (padTo l k)) (by rfl) HOA.out ⟨wr.heap.size, 0, none⟩ 1 1 [.int .u8 0] (by rfl) (by rfl) (cell_one_new _ _ _) (fun u hu => by simp at hu; subst hu; rfl) (by decide) (by unfold maxLen; omega) (by omega) HSA.out (wr.heap.size + 1) (by simp) ?_; intro g2 cap2 w2 hown hgrow hat hlt2))
      go_roundw
      case rel =>
        have fin : ∃ (k1 g1 c1 : Nat), l.length ≤ k1 ∧ k1 ≤ 12 ∧ Value.slice (some ⟨g2, 0, none⟩) (k + 1) cap2 = .slice (some ⟨g1, 0, none⟩) k1 c1 ∧ w2.ownsRow B 5 1 (.slice (some ⟨g1, 0, none⟩) k1 c1) k1 (byV (padTo l k1)) ∧ Below B w w2 :=
          ⟨k + 1, g2, cap2, by omega, by omega, rfl, by rw [padTo_succ l k hk1]; exact hown, (HBL.out.alloc HSB.out _).grown hgrow HSA.out (fun r e => (HOW.out.lt r e).1)⟩
        first | exact fin | ((repeat apply Exists.intro); exact ⟨fin, rfl⟩)
      case measure => simp; omega
    · have hkn : k = 12 := by omega
      subst hkn
      have hcv : ∀ W : World, Below wr.heap.size wr W → (convert 132 9 (.slice (some ⟨g, 0, none⟩) 12 c)).run Tryz.prog W = .ok (.string (s12 l)) W := fun W hW =>
        run_convert_bytes_arg (P := Tryz.prog) W 132 5 Tryz.underlying132 Tryz.underlying5 g 0 12 c (padL l) (padL_length l hl) (fun i hi => by
          rw [Nat.zero_add]
          have h1 := HOW.out.cellAt i hi
          have e : padTo l 12 = padL l := rfl
          rw [e, byV_at (padL l) i (by rw [padL_length l hl]; exact hi)] at h1
          rw [hW.cell (World.block_lt_of_cell? wr _ h1)]; exact h1) 9 Tryz.underlying9
      have HCV : Hid (∀ W : World, Below wr.heap.size wr W → (convert 132 9 (.slice (some ⟨g, 0, none⟩) 12 c)).run Tryz.prog W = .ok (.string (s12 l)) W) := hcv
      have hsz := s12_size l hl
      have HR : Hid (s12 l ++ four (Crc.total (s12 l).data.toList) = sealS l) := rfl
      have hf4 := fourS_size (Crc.total (s12 l).data.toList)
      have htl := Crc.total_lt (s12 l).data.toList
      clear hcv
      generalize s12 l = S at HCV hsz HR hf4 htl
      have hb0 : Below wr.heap.size wr wr.drew := (Below.refl _ _).drew
      go_wp2
      go_region_held3 (fun W => Below wr.heap.size wr W ∧ (convert 132 9 (.slice (some ⟨g, 0, none⟩) 12 c)).run Tryz.prog W = .ok (.string S) W)
        (first | (exact ⟨hb0, HCV.out _ hb0⟩) | assumption | (exact ⟨by assumption, HCV.out _ (by assumption)⟩))
        (first
          | (go_at_call 172; refine (ref_any _ _ (by omega)).mono ?_; rintro e w' ⟨rfl, rfl⟩)
          | (go_at_call 171; refine (refFour_any _ _ htl).mono ?_; rintro e w5 ⟨rfl, hb5⟩; have hb6 := Below.trans (by assumption : Below wr.heap.size wr _ ∧ _).1 (hb5.mono (by assumption : Below wr.heap.size wr _ ∧ _).1.size)))
      all_goals
        go_wp2
        go_ret
        exact ⟨retS HR.out, HBL.out.trans (Below.mono (by assumption) HSB.out)⟩
end Go.Proofs.YtjegaljdindfaabGreatDoor

namespace Go.Proofs.YtjegaljdindfaabGreatDoor
open Go.RowKit
attribute [local go_sem ↓] Go.wp_at_zero Go.wp_at_succ

theorem toHid {p : Prop} (h : p) : Hid p := h

theorem erV_0 : erV 0 = .nilIface := by simp [erV]
theorem erV_1 : erV 1 = .iface 87 (.int .i64 1) := by simp [erV]
theorem erV_2 : erV 2 = .iface 87 (.int .i64 2) := by simp [erV]
theorem erV_3 : erV 3 = .iface 87 (.int .i64 3) := by simp [erV]
theorem ret_v {a b : Value} (h : a = b) : Ending.returned a = .returned b := by rw [h]
theorem retI {a b : Int} (h : a = b) : Ending.returned (.int .i64 a) = .returned (.int .i64 b) := by rw [h]

/- A sealed sector's sum and its four bytes, as letters. -/
theorem seal_letters (s : ByteArray) (h16 : s.size = 16) : ∃ (T : Nat) (F : ByteArray), T < 4294967296 ∧ (sealedB s = (F.toList == (s.extract 12 s.size).toList)) ∧
    (∀ (b : Nat) (W : World), W.cell? ⟨b, 0, none⟩ = some (.string (s.extract 0 12)) → Calls Tryz.prog 185 #[.slice (some ⟨b, 0, none⟩) 1 1] W fun e w' => e = .returned (.int .u32 T) ∧ w' = W) ∧
    (∀ W : World, Calls Tryz.prog 184 #[.int .u32 T] W fun e w' => e = .returned (.string F) ∧ Below W.heap.size W w') ∧
    (∀ W : World, Calls Tryz.prog 172 #[.string (s.extract 0 12)] W fun e w' => e = .returned (.int .u32 T) ∧ w' = W) ∧
    (∀ W : World, Calls Tryz.prog 171 #[.int .u32 T] W fun e w' => e = .returned (.string F) ∧ Below W.heap.size W w') := by
  have hx : (s.extract 0 12).size ≤ 12 := by rw [ByteArray.size_extract]; omega
  have htl := Crc.total_lt (s.extract 0 12).data.toList
  exact ⟨Crc.total (s.extract 0 12).data.toList, four (Crc.total (s.extract 0 12).data.toList), htl, rfl, fun b W h => of_one _ b 1 W (by unfold maxLen; omega) h, fun W => bytes_any _ W htl, fun W => ref_any _ W (by omega), fun W => refFour_any _ W htl⟩

theorem inB_yes {n lo hi : Int} (h : lo ≤ n ∧ n ≤ hi) : inB n lo hi = true := decide_eq_true h
theorem inB_no {n lo hi : Int} (h : ¬ (lo ≤ n ∧ n ≤ hi)) : inB n lo hi = false := decide_eq_false h

set_option maxHeartbeats 400000 in
theorem checkHead_any (c p b : Int) (w : World) :
    Calls Tryz.prog 69 #[.agg #[.int .i64 c, .int .i64 p, .int .i64 b]] w fun e w' => e = .returned (erV (HV.fault ⟨c, p, b⟩)) ∧ Below w.heap.size w w' := by
  have hbel : Below w.heap.size w (w.alloc (.cells #[.int .i64 c, .int .i64 p, .int .i64 b] 60)) := (Below.refl _ _).alloc (Nat.le_refl _) _
  have hcase : (∃ H : Hid (erV (HV.fault ⟨c, p, b⟩) = .nilIface), inB c 1 32 = true ∧ inB p 0 40 = true ∧ inB b (-1) 4 = true) ∨ ∃ H : Hid (erV (HV.fault ⟨c, p, b⟩) = .iface 87 (.int .i64 1)), (inB c 1 32 = false) ∨ (inB c 1 32 = true ∧ inB p 0 40 = false) ∨ (inB c 1 32 = true ∧ inB p 0 40 = true ∧ inB b (-1) 4 = false) := by
    unfold Hid HV.fault HV.ok
    simp only [decide_eq_true_eq]
    by_cases h1 : 1 ≤ c ∧ c ≤ 32
    · by_cases h2 : 0 ≤ p ∧ p ≤ 40
      · by_cases h3 : -1 ≤ b ∧ b ≤ 4
        · exact .inl ⟨by rw [if_pos ⟨h1.1, h1.2, h2.1, h2.2, h3.1, h3.2⟩]; exact erV_0, inB_yes h1, inB_yes h2, inB_yes h3⟩
        · exact .inr ⟨by rw [if_neg (by omega)]; exact erV_1, .inr (.inr ⟨inB_yes h1, inB_yes h2, inB_no h3⟩)⟩
      · exact .inr ⟨by rw [if_neg (by omega)]; exact erV_1, .inr (.inl ⟨inB_yes h1, inB_no h2⟩)⟩
    · exact .inr ⟨by rw [if_neg (by omega)]; exact erV_1, .inl (inB_no h1)⟩
  rcases hcase with ⟨HF, g1, g2, g3⟩ | ⟨HF, g1 | ⟨g1, g2⟩ | ⟨g1, g2, g3⟩⟩
  · go_enter Tryz.func69, Tryz.ntmps69
    go_wp2_with (go_at_call 134; refine (within_any _ _ _ _).mono ?_; rintro e w' ⟨rfl, rfl⟩)
    go_ret
    exact ⟨ret_v HF.out.symm, hbel⟩
  all_goals
    go_enter Tryz.func69, Tryz.ntmps69
    go_wp2_with (go_at_call 134; refine (within_any _ _ _ _).mono ?_; rintro e w' ⟨rfl, rfl⟩)
    go_ret
    exact ⟨ret_v HF.out.symm, hbel⟩

set_option maxHeartbeats 400000 in
theorem headFault_any (c p b : Int) (w : World) :
    Calls Tryz.prog 76 #[.agg #[.int .i64 c, .int .i64 p, .int .i64 b]] w fun e w' => e = .returned (.int .i64 (HV.fault ⟨c, p, b⟩)) ∧ Below w.heap.size w w' := by
  have hbel : Below w.heap.size w (w.alloc (.cells #[.int .i64 c, .int .i64 p, .int .i64 b] 60)) := (Below.refl _ _).alloc (Nat.le_refl _) _
  by_cases h1 : 1 ≤ c ∧ c ≤ 32 ∧ 0 ≤ p ∧ p ≤ 40 ∧ -1 ≤ b ∧ b ≤ 4
  · have HF : Hid (HV.fault ⟨c, p, b⟩ = 0) := if_pos (decide_eq_true h1)
    have g1 : decide (c < 1) = false := by simp; omega
    have g2 : decide (32 < c) = false := by simp; omega
    have g3 : decide (p < 0) = false := by simp; omega
    have g4 : decide (40 < p) = false := by simp; omega
    have g5 : decide (b < -1) = false := by simp; omega
    have g6 : decide (4 < b) = false := by simp; omega
    clear h1
    go_enter Tryz.func76, Tryz.ntmps76
    go_wp2
    go_ret
    exact ⟨retI HF.out.symm, hbel⟩
  · have HF : Hid (HV.fault ⟨c, p, b⟩ = 1) := if_neg (fun h => h1 (of_decide_eq_true h))
    have hcase : decide (c < 1) = true ∨ (decide (c < 1) = false ∧ decide (32 < c) = true) ∨ (decide (c < 1) = false ∧ decide (32 < c) = false ∧ decide (p < 0) = true) ∨ (decide (c < 1) = false ∧ decide (32 < c) = false ∧ decide (p < 0) = false ∧ decide (40 < p) = true) ∨
        (decide (c < 1) = false ∧ decide (32 < c) = false ∧ decide (p < 0) = false ∧ decide (40 < p) = false ∧ decide (b < -1) = true) ∨ (decide (c < 1) = false ∧ decide (32 < c) = false ∧ decide (p < 0) = false ∧ decide (40 < p) = false ∧ decide (b < -1) = false ∧ decide (4 < b) = true) := by
      simp only [decide_eq_true_eq, decide_eq_false_iff_not]; omega
    clear h1
    rcases hcase with g1 | ⟨g1, g2⟩ | ⟨g1, g2, g3⟩ | ⟨g1, g2, g3, g4⟩ | ⟨g1, g2, g3, g4, g5⟩ | ⟨g1, g2, g3, g4, g5, g6⟩
    all_goals
      go_enter Tryz.func76, Tryz.ntmps76
      go_wp2
      go_ret
      exact ⟨retI HF.out.symm, hbel⟩
end Go.Proofs.YtjegaljdindfaabGreatDoor

namespace Go.Proofs.YtjegaljdindfaabGreatDoor
open Go.RowKit
attribute [local go_sem ↓] Go.wp_at_zero Go.wp_at_succ

theorem bcell {W w1 : World} (hb : Below W.heap.size W w1) : (∀ b o, b < W.heap.size → w1.cell? ⟨b, o, none⟩ = W.cell? ⟨b, o, none⟩) ∧ (∀ b o, b < W.heap.size → w1.frozen? ⟨b, o, none⟩ = W.frozen? ⟨b, o, none⟩) :=
  ⟨fun b o h => hb.cell (p := ⟨b, o, none⟩) h, fun b o h => hb.frozen (p := ⟨b, o, none⟩) h⟩

theorem HV.of_ok {h : HV} (hk : h.ok = true) : 1 ≤ h.c ∧ h.c ≤ 32 ∧ 0 ≤ h.p ∧ h.p ≤ 40 ∧ -1 ≤ h.b ∧ h.b ≤ 4 := of_decide_eq_true hk

theorem cells_row (w : World) (l : List Int) (t : TypeId) (j : Nat) (hj : j < l.length) : (w.alloc (.cells (byV l).toArray t)).cell? ⟨w.heap.size, j, none⟩ = some (.int .u8 (l.getD j 0)) := by
  rw [cell_of_row _ _ _ _ _ _ (heap_alloc_new w _), List.getElem?_toArray]
  exact byV_at l j hj

theorem owns_row (w : World) (l : List Int) (N : Nat) (hN : w.heap.size = N) (hl : l.length ≤ 12) : (w.alloc (.cells (byV l).toArray 5)).ownsRow N 5 1 (.slice (some ⟨N, 0, none⟩) l.length l.length) l.length (byV l) := by
  subst hN
  refine ⟨by simp [byV], .inr ⟨w.heap.size, l.length, (byV l).toArray, rfl, Nat.le_refl _, heap_alloc_new w _, Nat.le_refl _, by unfold maxLen; omega, by simp [byV], ?_⟩⟩
  rw [List.take_of_length_le (by simp [byV])]

set_option maxRecDepth 100000 in
set_option maxHeartbeats 400000 in
theorem head_yes (c p b : Int) (w : World) (hk : HV.ok ⟨c, p, b⟩ = true) :
    Calls Tryz.prog 138 #[.agg #[.int .i64 c, .int .i64 p, .int .i64 b]] w fun e w' => e = .returned (.tuple #[.string (sealS [83, 89, c, p, b + 1]), .nilIface]) ∧ Below w.heap.size w w' := by
  have hch := checkHead_any c p b (w.alloc (.cells #[.int .i64 c, .int .i64 p, .int .i64 b] 60))
  have e0 : erV (HV.fault ⟨c, p, b⟩) = .nilIface := by unfold HV.fault; rw [if_pos hk]; exact erV_0
  rw [e0] at hch
  obtain ⟨g1, g2, g3, g4, g5, g6⟩ := HV.of_ok hk
  simp only at g1 g2 g3 g4 g5 g6
  have HC := toHid hch
  clear hch e0 hk
  go_enter Tryz.func138, Tryz.ntmps138
  go_wp2_with fail
  refine HC.out.mono ?_
  rintro e w1 ⟨rfl, hb1⟩
  obtain ⟨hc, hf⟩ := bcell hb1
  have hz : w.heap.size < w1.heap.size := by have := hb1.size; simp at this; omega
  go_wp2_with fail
  refine (sealed_any [83, 89, c, p, b + 1] _ 5 _ (by simp) ?_ (cells_row w1 [83, 89, c, p, b + 1] 5)).mono ?_
  · simp
  rintro e w2 ⟨rfl, hb2⟩
  go_wp2
  go_ret2
  exact ⟨rfl, ((((Below.refl _ _).alloc (Nat.le_refl _) _).trans (hb1.mono (by simp))).alloc (by omega) _).trans (hb2.mono (by simp; omega))⟩

set_option maxRecDepth 100000 in
set_option maxHeartbeats 400000 in
theorem head_no (c p b : Int) (w : World) (hk : HV.ok ⟨c, p, b⟩ = false) :
    Calls Tryz.prog 138 #[.agg #[.int .i64 c, .int .i64 p, .int .i64 b]] w fun e w' => e = .returned (.tuple #[.string ⟨#[]⟩, .iface 87 (.int .i64 1)]) ∧ Below w.heap.size w w' := by
  have hch := checkHead_any c p b (w.alloc (.cells #[.int .i64 c, .int .i64 p, .int .i64 b] 60))
  have e0 : erV (HV.fault ⟨c, p, b⟩) = .iface 87 (.int .i64 1) := by unfold HV.fault; rw [if_neg (by rw [hk]; decide)]; exact erV_1
  rw [e0] at hch
  have HC := toHid hch
  clear hch e0 hk
  go_enter Tryz.func138, Tryz.ntmps138
  go_wp2_with fail
  refine HC.out.mono ?_
  rintro e w1 ⟨rfl, hb1⟩
  go_wp2
  go_ret2
  exact ⟨rfl, ((Below.refl _ _).alloc (Nat.le_refl _) _).trans (hb1.mono (by simp))⟩

set_option maxRecDepth 100000 in
set_option maxHeartbeats 400000 in
theorem headSector_any (c p b : Int) (w : World) (hk : HV.ok ⟨c, p, b⟩ = true) :
    Calls Tryz.prog 82 #[.agg #[.int .i64 c, .int .i64 p, .int .i64 b]] w fun e w' => e = .returned (.string (sealS [83, 89, c, p, b + 1])) ∧ Below w.heap.size w w' := by
  obtain ⟨g1, g2, g3, g4, g5, g6⟩ := HV.of_ok hk
  simp only at g1 g2 g3 g4 g5 g6
  clear hk
  go_enter Tryz.func82, Tryz.ntmps82
  go_wp2_with fail
  refine (refSealed_any [83, 89, c, p, b + 1] (w.heap.size + 1) _ 5 _ (by simp) ?_ (owns_row (w.alloc (.cells #[.int .i64 c, .int .i64 p, .int .i64 b] 60)) [83, 89, c, p, b + 1] (w.heap.size + 1) (by simp) (by simp))).mono ?_
  · simp
  rintro e w2 ⟨rfl, hb2⟩
  go_wp2
  go_ret
  exact ⟨rfl, (((Below.refl _ _).alloc (Nat.le_refl _) _).alloc (by simp) _).trans (hb2.mono (by omega))⟩

theorem kept_cell {w w1 w2 : World} {C : Array Value} {t : TypeId} {o : Obj} (hb1 : Below (w.alloc (.cells C t)).heap.size (w.alloc (.cells C t)) w1) (hb2 : Below (w1.alloc o).drew.heap.size (w1.alloc o).drew w2) (i : Nat) (v : Value) (hv : C[i]? = some v) :
    w2.cell? ⟨w.heap.size, i, none⟩ = some v := by
  have hz := hb1.size
  simp at hz
  rw [hb2.cell (by show w.heap.size < (w1.alloc o).heap.size; simp; omega)]
  show (w1.alloc o).cell? _ = _
  rw [World.cell?_alloc_past _ _ _ (by show w.heap.size < w1.heap.size; omega), hb1.cell (by simp), cell_of_row _ _ _ _ _ _ (heap_alloc_new w _)]
  exact hv

theorem below3 {w w1 w2 : World} {o o' : Obj} (hb1 : Below (w.alloc o).heap.size (w.alloc o) w1) (hb2 : Below (w1.alloc o').drew.heap.size (w1.alloc o').drew w2) : Below w.heap.size w w2 := by
  have hz := hb1.size
  simp at hz
  have h1 : Below w.heap.size w w1 := ((Below.refl _ _).alloc (Nat.le_refl _) _).trans (hb1.mono (by simp))
  have h2 : Below w.heap.size w (w1.alloc o').drew := (h1.alloc h1.size _).drew
  exact h2.trans (hb2.mono h2.size)

theorem size16 {s : ByteArray} (hs : sealF s = 0) : s.size = 16 := by
  unfold sealF at hs
  split at hs
  · assumption
  · omega

/- What a sector's bytes are, as the walk asks it. -/
theorem reads5 (s : ByteArray) (h : s.size = 16) : ∃ (h2 : 2 < s.size) (h3 : 3 < s.size) (h4 : 4 < s.size), ((s[2]'h2).toNat : Int) = bAt s 2 ∧ ((s[3]'h3).toNat : Int) = bAt s 3 ∧ ((s[4]'h4).toNat : Int) = bAt s 4 :=
  ⟨by omega, by omega, by omega, bAt_eq s 2 _, bAt_eq s 3 _, bAt_eq s 4 _⟩

end Go.Proofs.YtjegaljdindfaabGreatDoor

namespace Go.Proofs.YtjegaljdindfaabGreatDoor
open Go.RowKit
attribute [local go_sem ↓] Go.wp_at_zero Go.wp_at_succ

theorem sealF_pos {s : ByteArray} (h : sealF s ≠ 0) : 0 < sealF s := by
  unfold sealF at h ⊢
  split
  · next h16 => rw [if_pos h16] at h
                split
                · next hq => rw [if_pos hq] at h; exact absurd rfl h
                · omega
  · omega

theorem kept_cell4 {w w1 w2 w3 : World} {C : Array Value} {t : TypeId} {o : Obj} (hb1 : Below (w.alloc (.cells C t)).heap.size (w.alloc (.cells C t)) w1) (hb2 : Below (w1.alloc o).drew.heap.size (w1.alloc o).drew w2) (hb3 : Below w2.heap.size w2 w3) (i : Nat) (v : Value) (hv : C[i]? = some v) :
    w3.cell? ⟨w.heap.size, i, none⟩ = some v := by
  have h2 := kept_cell hb1 hb2 i v hv
  rw [hb3.cell (World.block_lt_of_cell? w2 _ h2)]; exact h2

theorem kept_frozen {w w1 w2 : World} {C : Array Value} {t : TypeId} {o : Obj} (hb1 : Below (w.alloc (.cells C t)).heap.size (w.alloc (.cells C t)) w1) (hb2 : Below (w1.alloc o).drew.heap.size (w1.alloc o).drew w2) (i : Nat) :
    w2.frozen? ⟨w.heap.size, i, none⟩ = false := by
  have hz := hb1.size
  simp at hz
  rw [hb2.frozen (by show w.heap.size < (w1.alloc o).heap.size; simp; omega)]
  show (w1.alloc o).frozen? _ = _
  rw [World.frozen?_alloc_past _ _ _ (by show w.heap.size < w1.heap.size; omega), hb1.frozen (by simp), frozen_of_row _ _ _ _ _ (heap_alloc_new w _)]

theorem kept_frozen4 {w w1 w2 w3 : World} {C : Array Value} {t : TypeId} {o : Obj} (hb1 : Below (w.alloc (.cells C t)).heap.size (w.alloc (.cells C t)) w1) (hb2 : Below (w1.alloc o).drew.heap.size (w1.alloc o).drew w2) (hb3 : Below w2.heap.size w2 w3) (i : Nat) :
    w3.frozen? ⟨w.heap.size, i, none⟩ = false := by
  have hz := hb1.size
  have hz2 := hb2.size
  have hz3 : (w1.alloc o).drew.heap.size = w1.heap.size + 1 := by show (w1.alloc o).heap.size = _; simp
  simp at hz
  rw [hb3.frozen (by show w.heap.size < w2.heap.size; omega)]
  exact kept_frozen hb1 hb2 i

theorem box_cell {w1 w2 : World} {C : Array Value} {t : TypeId} (hb2 : Below (w1.alloc (.cells C t)).drew.heap.size (w1.alloc (.cells C t)).drew w2) (i : Nat) (v : Value) (hv : C[i]? = some v) : w2.cell? ⟨w1.heap.size, i, none⟩ = some v := by
  rw [hb2.cell (by show w1.heap.size < (w1.alloc (.cells C t)).heap.size; simp)]
  show (w1.alloc (.cells C t)).cell? _ = _
  rw [cell_of_row _ _ _ _ _ _ (heap_alloc_new w1 _)]; exact hv

theorem box_cell3 {w1 w2 w3 : World} {C : Array Value} {t : TypeId} (hb2 : Below (w1.alloc (.cells C t)).drew.heap.size (w1.alloc (.cells C t)).drew w2) (hb3 : Below w2.heap.size w2 w3) (i : Nat) (v : Value) (hv : C[i]? = some v) : w3.cell? ⟨w1.heap.size, i, none⟩ = some v := by
  have h2 := box_cell hb2 i v hv
  rw [hb3.cell (World.block_lt_of_cell? w2 _ h2)]; exact h2

theorem below4 {w w1 w2 w3 : World} {o o' : Obj} (hb1 : Below (w.alloc o).heap.size (w.alloc o) w1) (hb2 : Below (w1.alloc o').drew.heap.size (w1.alloc o').drew w2) (hb3 : Below w2.heap.size w2 w3) : Below w.heap.size w w3 :=
  (below3 hb1 hb2).trans (hb3.mono (below3 hb1 hb2).size)

end Go.Proofs.YtjegaljdindfaabGreatDoor

namespace Go.Proofs.YtjegaljdindfaabGreatDoor
open Go.RowKit
attribute [local go_sem ↓] Go.wp_at_zero Go.wp_at_succ

theorem ne_b {a b : Int} (h : a ≠ b) : (a == b) = false ∧ (a != b) = true := by simp [h]
theorem eq_b {a b : Int} (h : a = b) : (a == b) = true ∧ (a != b) = false := by simp [h]
theorem lt_t {a b : Int} (h : a < b) : decide (a < b) = true := decide_eq_true h
theorem lt_f {a b : Int} (h : b ≤ a) : decide (a < b) = false := decide_eq_false (by omega)

def entB (k p places : Int) : Bool := decide ((k = 2 ∧ 0 ≤ p ∧ p < places) ∨ ((k = 0 ∨ k = 1) ∧ p = 0))

theorem entB_yes {k p n : Int} (h : (k = 2 ∧ 0 ≤ p ∧ p < n) ∨ ((k = 0 ∨ k = 1) ∧ p = 0)) : entB k p n = true := decide_eq_true h
theorem entB_no {k p n : Int} (h : ¬ ((k = 2 ∧ 0 ≤ p ∧ p < n) ∨ ((k = 0 ∨ k = 1) ∧ p = 0))) : entB k p n = false := decide_eq_false h
theorem entB_of {k p n : Int} (h : entB k p n = true) : (k = 2 ∧ 0 ≤ p ∧ p < n) ∨ ((k = 0 ∨ k = 1) ∧ p = 0) := of_decide_eq_true h
theorem entB_not {k p n : Int} (h : entB k p n = false) : ¬ ((k = 2 ∧ 0 ≤ p ∧ p < n) ∨ ((k = 0 ∨ k = 1) ∧ p = 0)) := of_decide_eq_false h

set_option maxRecDepth 100000 in
set_option maxHeartbeats 400000 in
theorem isEntry_any (k p : Int) (w : World) :
    Calls Tryz.prog 167 #[.agg #[.int .i64 k, .int .i64 p]] w fun e w' => e = .returned (.bool (entB k p 40)) ∧ Below w.heap.size w w' := by
  have hbel : Below w.heap.size w (w.alloc (.cells #[.int .i64 k, .int .i64 p] 142)) := (Below.refl _ _).alloc (Nat.le_refl _) _
  by_cases h0 : k = 0
  · have HE : Hid (entB k p 40 = (p == 0)) := by
      unfold Hid
      rw [Bool.eq_iff_iff, beq_iff_eq]
      exact ⟨fun h => by have := entB_of h; omega, fun h => entB_yes (.inr ⟨.inl h0, h⟩)⟩
    obtain ⟨v1, v2⟩ := eq_b h0
    clear h0
    go_enter Tryz.func167, Tryz.ntmps167
    go_wp2
    go_ret
    exact ⟨ret_bool HE.out.symm, hbel⟩
  · by_cases h1 : k = 1
    · have HE : Hid (entB k p 40 = (p == 0)) := by
        unfold Hid
        rw [Bool.eq_iff_iff, beq_iff_eq]
        exact ⟨fun h => by have := entB_of h; omega, fun h => entB_yes (.inr ⟨.inr h1, h⟩)⟩
      obtain ⟨v1, v2⟩ := ne_b h0
      obtain ⟨v3, v4⟩ := eq_b h1
      clear h0 h1
      go_enter Tryz.func167, Tryz.ntmps167
      go_wp2
      go_ret
      exact ⟨ret_bool HE.out.symm, hbel⟩
    · obtain ⟨v1, v2⟩ := ne_b h0
      obtain ⟨v3, v4⟩ := ne_b h1
      by_cases h2 : k = 2
      · have HE : Hid (entB k p 40 = inB p 0 39) := by
          unfold Hid
          rw [Bool.eq_iff_iff]
          exact ⟨fun h => inB_yes (by have := entB_of h; omega), fun h => entB_yes (.inl ⟨h2, by have := of_decide_eq_true h; omega⟩)⟩
        obtain ⟨v5, v6⟩ := eq_b h2
        clear h0 h1 h2
        go_enter Tryz.func167, Tryz.ntmps167
        go_wp2_with (go_at_call 134; refine (within_any _ _ _ _).mono ?_; rintro e w' ⟨rfl, rfl⟩)
        go_ret
        exact ⟨ret_bool HE.out.symm, hbel⟩
      · have HE : Hid (entB k p 40 = false) := entB_no (by omega)
        obtain ⟨v5, v6⟩ := ne_b h2
        clear h0 h1 h2
        go_enter Tryz.func167, Tryz.ntmps167
        go_wp2
        go_ret
        exact ⟨ret_bool HE.out.symm, hbel⟩

set_option maxRecDepth 100000 in
set_option maxHeartbeats 400000 in
theorem entry_any (k p n : Int) (w : World) :
    Calls Tryz.prog 139 #[.agg #[.int .i64 k, .int .i64 p], .int .i64 n] w fun e w' => e = .returned (.bool (entB k p n)) ∧ Below w.heap.size w w' := by
  have hbel : Below w.heap.size w (w.alloc (.cells #[.int .i64 k, .int .i64 p] 142)) := (Below.refl _ _).alloc (Nat.le_refl _) _
  by_cases h2 : k = 2
  · obtain ⟨v5, v6⟩ := eq_b h2
    by_cases hp : 0 ≤ p
    · have HE : Hid (entB k p n = decide (p < n)) := by
        unfold Hid
        rw [Bool.eq_iff_iff, decide_eq_true_eq]
        exact ⟨fun h => by have := entB_of h; omega, fun h => entB_yes (.inl ⟨h2, hp, h⟩)⟩
      have g0 : decide (0 ≤ p) = true := decide_eq_true hp
      clear h2
      go_enter Tryz.func139, Tryz.ntmps139
      go_wp2
      go_ret
      exact ⟨ret_bool HE.out.symm, hbel⟩
    · have HE : Hid (entB k p n = false) := entB_no (by omega)
      have g0 : decide (0 ≤ p) = false := decide_eq_false hp
      clear h2
      go_enter Tryz.func139, Tryz.ntmps139
      go_wp2
      go_ret
      exact ⟨ret_bool HE.out.symm, hbel⟩
  · obtain ⟨v5, v6⟩ := ne_b h2
    by_cases h0 : k = 0
    · have HE : Hid (entB k p n = (p == 0)) := by
        unfold Hid
        rw [Bool.eq_iff_iff, beq_iff_eq]
        exact ⟨fun h => by have := entB_of h; omega, fun h => entB_yes (.inr ⟨.inl h0, h⟩)⟩
      obtain ⟨v1, v2⟩ := eq_b h0
      clear h0 h2
      go_enter Tryz.func139, Tryz.ntmps139
      go_wp2
      go_ret
      exact ⟨ret_bool HE.out.symm, hbel⟩
    · obtain ⟨v1, v2⟩ := ne_b h0
      by_cases h1 : k = 1
      · have HE : Hid (entB k p n = (p == 0)) := by
          unfold Hid
          rw [Bool.eq_iff_iff, beq_iff_eq]
          exact ⟨fun h => by have := entB_of h; omega, fun h => entB_yes (.inr ⟨.inr h1, h⟩)⟩
        obtain ⟨v3, v4⟩ := eq_b h1
        clear h0 h1 h2
        go_enter Tryz.func139, Tryz.ntmps139
        go_wp2
        go_ret
        exact ⟨ret_bool HE.out.symm, hbel⟩
      · have HE : Hid (entB k p n = false) := entB_no (by omega)
        obtain ⟨v3, v4⟩ := ne_b h1
        clear h0 h1 h2
        go_enter Tryz.func139, Tryz.ntmps139
        go_wp2
        go_ret
        exact ⟨ret_bool HE.out.symm, hbel⟩

def rowsN (n : Nat) : Nat := (n + 7) / 8

theorem rows_any (n : Nat) (w : World) (h : n ≤ 50) :
    Calls Tryz.prog 73 #[.int .i64 (n : Int)] w fun e w' => e = .returned (.int .i64 (rowsN n : Int)) ∧ w' = w := by
  go_enter Tryz.func73, Tryz.ntmps73
  go_wp2
  go_ret
  exact ⟨retI (by unfold rowsN; omega), rfl⟩

set_option maxRecDepth 100000 in
set_option maxHeartbeats 400000 in
theorem refRows_any (n : Nat) (w : World) (h : n ≤ 50) :
    Calls Tryz.prog 78 #[.int .i64 (n : Int)] w fun e w' => e = .returned (.int .i64 (rowsN n : Int)) ∧ w' = w := by
  go_enter Tryz.func78, Tryz.ntmps78
  go_wp2
  go_loop [3] (fun i => ∃ k : Nat, k ≤ rowsN n ∧ i = .int .i64 k) (fun i => rowsN n - (intOf i).toNat)
  case atStart => exact ⟨0, Nat.zero_le _, rfl⟩
  case round =>
    obtain ⟨k, hk, rfl⟩ := hrel
    by_cases hlt : k < rowsN n
    · have hb : 8 * k < n := by unfold rowsN at hlt; omega
      have hk2 : k ≤ 10 := by omega
      go_wp2
      go_round
      case rel => exact ⟨k + 1, by omega, by go_num⟩
      case measure => simp [intOf]; omega
    · have hb : n ≤ 8 * k := by unfold rowsN at hlt; omega
      have hk2 : k ≤ 10 := by unfold rowsN at hk; omega
      have hkn : k = rowsN n := by omega
      have HK : Hid (k = rowsN n) := hkn
      clear hkn hk hlt
      go_wp2
      go_ret
      exact ⟨retI (by rw [HK.out]), rfl⟩
end Go.Proofs.YtjegaljdindfaabGreatDoor
