/-
A row of a table as a sector (C2), in the document's answer: what RowOf gives; two tables held against each other.
-/
import Derived.Test.YtjegaljdindfaabGreatDoorQShapeRow
namespace Go.Proofs.YtjegaljdindfaabGreatDoor
open Go.RowKit
attribute [local go_sem ↓] Go.wp_at_zero Go.wp_at_succ

def rowFl (ts : List (Int × Int)) (r k : Nat) : List Int := (List.range k).flatMap fun i => [(ts.getD (r * 8 + i) (0, 0)).1, (ts.getD (r * 8 + i) (0, 0)).2]

theorem rowFl_succ (ts : List (Int × Int)) (r k : Nat) : byV (rowFl ts r (k + 1)) = byV (rowFl ts r k) ++ [.int .u8 (ts.getD (r * 8 + k) (0, 0)).1, .int .u8 (ts.getD (r * 8 + k) (0, 0)).2] := by
  simp [rowFl, byV, List.range_succ]

theorem rowFl_len (ts : List (Int × Int)) (r k : Nat) : (rowFl ts r k).length = 2 * k := by
  induction k with
  | zero => rfl
  | succ k ih =>
    have : rowFl ts r (k + 1) = rowFl ts r k ++ [(ts.getD (r * 8 + k) (0, 0)).1, (ts.getD (r * 8 + k) (0, 0)).2] := by simp [rowFl, List.range_succ]
    rw [this, List.length_append, ih]; simp; omega

theorem rowFl_all (ts : List (Int × Int)) (r : Nat) : rowFl ts r 8 = rowTo ts r 8 := rfl

set_option maxRecDepth 100000 in
set_option maxHeartbeats 1000000 in
theorem rowOf_bound (la : Option Addr) (len cap : Nat) (ts : List (Int × Int)) (row : Int) (w : World) (hT : Ents w la len ts) (hlen : len ≤ 50) (hr : rowIn ts row = false) :
    Calls Tryz.prog 79 #[.slice la len cap, .int .i64 row] w fun e w' => e = .returned (.tuple #[.string (rowS ts row), .int .i64 (rowF ts row)]) ∧ Below w.heap.size w w' := by
  have e1 : rowF ts row = 1 := by unfold rowF; rw [if_neg (by rw [hr]; decide)]
  have e2 : rowS ts row = ⟨#[]⟩ := by unfold rowS; rw [e1, if_neg (by decide)]
  rw [e2, e1]
  have hl := hT.1
  have hr' := of_decide_eq_false hr
  rw [hl] at hr'
  clear hT e1 e2 hr hl
  by_cases h32 : 32 < len
  · have g1 : decide (32 < (len : Int)) = true := by simp; omega
    clear hr'
    go_enter Tryz.func79, Tryz.ntmps79
    go_wp2
    go_ret2
    exact ⟨rfl, Below.refl _ _⟩
  · have g1 : decide (32 < (len : Int)) = false := by simp; omega
    by_cases h0 : row < 0
    · have g2 : decide (row < 0) = true := by simpa using h0
      clear hr'
      go_enter Tryz.func79, Tryz.ntmps79
      go_wp2
      go_ret2
      exact ⟨rfl, Below.refl _ _⟩
    · have g2 : decide (row < 0) = false := by simpa using h0
      have g3 : decide ((rowsN len : Int) ≤ row) = true := by simp; omega
      have HR := toHid (refRows_any len w (by omega))
      generalize rowsN len = rn at g3 HR
      clear hr'
      go_enter Tryz.func79, Tryz.ntmps79
      go_wp2_with (go_at_call 78; refine HR.out.mono ?_; rintro e w' ⟨rfl, rfl⟩)
      go_ret2
      exact ⟨rfl, Below.refl _ _⟩

theorem ownsRow_stay {w w' : World} {B e size n : Nat} {v : Value} {xs : List Value} (h : w.ownsRow B e size v n xs) (hk : ∀ k, v.ownBlock = some k → w'.heap[k]? = w.heap[k]?) : w'.ownsRow B e size v n xs := by
  refine ⟨h.1, ?_⟩
  rcases h.2 with h0 | ⟨g, cap, cur, hv, h1, h2, h3, h4, h5, h6⟩
  · exact .inl h0
  · exact .inr ⟨g, cap, cur, hv, h1, by rw [hk g (by rw [hv]; rfl)]; exact h2, h3, h4, h5, h6⟩

theorem two_news (w : World) (x y : Value) (t : TypeId) : ∀ j u, [x, y][j]? = some u → (w.alloc (.cells #[x, y] t)).cell? ((⟨w.heap.size, 0, none⟩ : Addr).add j) = some u := by
  intro j u hj
  rw [Go.WideShapes.add_plain, Nat.zero_add, cell_of_row _ _ _ _ _ _ (heap_alloc_new w _)]
  simpa using hj

set_option maxRecDepth 100000 in
set_option maxHeartbeats 2000000 in
theorem rowOf_in (b off len cap : Nat) (ts : List (Int × Int)) (r : Nat) (w : World) (hT : Ents w (some ⟨b, off, none⟩) len ts) (hlen : len ≤ 32) (hr : r < rowsN len) :
    Calls Tryz.prog 79 #[.slice (some ⟨b, off, none⟩) len cap, .int .i64 (r : Int)] w fun e w' => e = .returned (.tuple #[.string (rowS ts r), .int .i64 (rowF ts r)]) ∧ Below w.heap.size w w' := by
  have hin : rowIn ts r = true := decide_eq_true (by rw [hT.1]; omega)
  have HR := toHid (refRows_any len w (by omega))
  have g1 : decide (32 < (len : Int)) = false := by simp; omega
  have g2 : decide ((r : Int) < 0) = false := by simp
  have g3 : decide (rowsN len ≤ r) = false := by simp; omega
  have hr8 : r * 8 < len := by unfold rowsN at hr; omega
  have HT := toHid hT
  have HI := toHid hin
  clear hT hin
  have HE2 : Hid (∀ k, k < 8 → entB (ts.getD (r * 8 + k) (0, 0)).1 (ts.getD (r * 8 + k) (0, 0)).2 40 = false → rowF ts r = 2 ∧ rowS ts r = ⟨#[]⟩) := fun k hk he => by
    have e1 : rowF ts r = 2 := by unfold rowF; rw [if_pos HI.out, if_neg (by rw [show (r : Int).toNat = r from rfl, rowOk_no (by omega) he]; decide)]
    exact ⟨e1, by unfold rowS; rw [e1, if_neg (by decide)]⟩
  have HE0 : Hid ((∀ k, k < 8 → entB (ts.getD (r * 8 + k) (0, 0)).1 (ts.getD (r * 8 + k) (0, 0)).2 40 = true) → rowF ts r = 0 ∧ strOfNums (rowFl ts r 8) = rowS ts r) := fun h => by
    have e1 : rowF ts r = 0 := by unfold rowF; rw [if_pos HI.out, if_pos (show rowOk ts (r : Int).toNat = true from rowOk_yes (.inr (Nat.le_refl 8)) h)]
    exact ⟨e1, by unfold rowS; rw [if_pos e1]; rfl⟩
  obtain ⟨i0, hi, hz0, hz1, hz2⟩ := info_parts info_u8
  generalize rowsN len = rn at g3 HR
  go_enter Tryz.func79, Tryz.ntmps79
  go_wp2_with (go_at_call 78; refine HR.out.mono ?_; rintro e w' ⟨rfl, hw⟩; have hw' := hw.symm; subst hw'; clear hw)
  clear g1 g2 g3 HR
  go_loopw [6, 7] (fun v i wr => ∃ k : Nat, k ≤ 8 ∧ i = .int .i64 k ∧ wr.ownsRow w.heap.size 5 1 v (2 * k) (byV (rowFl ts r k)) ∧ Below w.heap.size w wr ∧ ∀ j, j < k → entB (ts.getD (r * 8 + j) (0, 0)).1 (ts.getD (r * 8 + j) (0, 0)).2 40 = true) (fun _ i _ => 8 - (intOf i).toNat)
  case atStart => exact ⟨0, Nat.zero_le _, rfl, World.ownsRow_nil _ _ _ _, Below.refl _ _, fun j hj => by omega⟩
  case round =>
    obtain ⟨k, hk, rfl, how, hbel, hall⟩ := hrel
    have HOW := toHid how
    have HBL := toHid hbel
    by_cases hlt : k < 8
    · have hS := rowFl_succ ts r k
      have HN2 := toHid (HE2.out k hlt)
      have hE := entry_any (ts.getD (r * 8 + k) (0, 0)).1 (ts.getD (r * 8 + k) (0, 0)).2 40 (wr.alloc (.cells #[.int .i64 (ts.getD (r * 8 + k) (0, 0)).1, .int .i64 (ts.getD (r * 8 + k) (0, 0)).2] 142))
      have hcs : (∃ g : decide (8 * (r : Int) + k < len) = true, decide (8 * r + k < len) = true ∧ (wr.alloc (.cells #[.int .i64 0, .int .i64 0] 142)).cell? ⟨b, off + (8 * r + k) * 2, none⟩ = some (.int .i64 (ts.getD (r * 8 + k) (0, 0)).1) ∧ (wr.alloc (.cells #[.int .i64 0, .int .i64 0] 142)).cell? ⟨b, off + (8 * r + k) * 2 + 1, none⟩ = some (.int .i64 (ts.getD (r * 8 + k) (0, 0)).2)) ∨ (decide (8 * (r : Int) + k < len) = false ∧ decide (8 * r + k < len) = false ∧ ts.getD (r * 8 + k) (0, 0) = (0, 0)) := by
        by_cases hin : r * 8 + k < len
        · obtain ⟨b', off', e, h1, h2⟩ := HT.out.2 (r * 8 + k) hin
          cases e
          rw [← hbel.cell (World.block_lt_of_cell? w _ h1)] at h1
          rw [← hbel.cell (World.block_lt_of_cell? w _ h2)] at h2
          rw [show 8 * r + k = r * 8 + k by omega]
          exact .inl ⟨by simp; omega, by simp; omega, by rw [World.cell?_alloc_past _ _ _ (World.block_lt_of_cell? wr _ h1)]; exact h1, by rw [World.cell?_alloc_past _ _ _ (World.block_lt_of_cell? wr _ h2)]; exact h2⟩
        · refine .inr ⟨by simp; omega, by simp; omega, ?_⟩
          rw [List.getD_eq_getElem?_getD, List.getElem?_eq_none (by rw [HT.out.1]; omega)]; rfl
      clear how hbel
      cases he : entB (ts.getD (r * 8 + k) (0, 0)).1 (ts.getD (r * 8 + k) (0, 0)).2 40 with
      | false =>
        have HN3 := toHid (HN2.out he)
        rw [he] at hE
        clear he hS HN2 hall
        rcases hcs with ⟨g, g', h1, h2⟩ | ⟨g, g', h1⟩
        · have q1 : (0 : Int) ≤ 8 * (r : Int) + (k : Int) := by omega
          have q2 : 8 * (r : Int) + (k : Int) < (len : Int) := of_decide_eq_true g
          have HE := toHid hE
          clear hE
          generalize (ts.getD (r * 8 + k) (0, 0)).1 = kk at h1 HE
          generalize (ts.getD (r * 8 + k) (0, 0)).2 = pp at h2 HE
          go_wp2_with fail
          refine HE.out.mono ?_
          rintro e w2 ⟨rfl, hb2⟩
          go_wp2
          go_ret2
          exact ⟨by rw [HN3.out.1, HN3.out.2]; rfl, (HBL.out.alloc HBL.out.size _).trans (hb2.mono (by have := HBL.out.size; simp; omega))⟩
        · rw [h1] at hE
          have HE := toHid hE
          clear hE h1
          go_wp2_with fail
          refine HE.out.mono ?_
          rintro e w2 ⟨rfl, hb2⟩
          go_wp2
          go_ret2
          exact ⟨by rw [HN3.out.1, HN3.out.2]; rfl, (HBL.out.alloc HBL.out.size _).trans (hb2.mono (by have := HBL.out.size; simp; omega))⟩
      | true =>
        have HA : Hid (∀ j, j < k + 1 → entB (ts.getD (r * 8 + j) (0, 0)).1 (ts.getD (r * 8 + j) (0, 0)).2 40 = true) := fun j hj => by
          by_cases e : j = k
          · rw [e]; exact he
          · exact hall j (by omega)
        have hbd := entB_of he
        rw [he] at hE
        clear he HN2 hall
        rcases hcs with ⟨g, g', h1, h2⟩ | ⟨g, g', h1⟩
        · have q1 : (0 : Int) ≤ 8 * (r : Int) + (k : Int) := by omega
          have q2 : 8 * (r : Int) + (k : Int) < (len : Int) := of_decide_eq_true g
          have HE := toHid hE
          clear hE
          generalize (ts.getD (r * 8 + k) (0, 0)).1 = kk at h1 HE hS hbd
          generalize (ts.getD (r * 8 + k) (0, 0)).2 = pp at h2 HE hS hbd
          have k0 : 0 ≤ kk := by omega
          have k1 : kk < 256 := by omega
          have p0 : 0 ≤ pp := by omega
          have p1 : pp < 256 := by omega
          have HS := toHid hS
          clear hS hbd
          go_wp2_with fail
          refine HE.out.mono ?_
          rintro e w2 ⟨rfl, hb2⟩
          clear HE
          have b0 : w2.cell? ⟨wr.heap.size, 0, none⟩ = some (.int .i64 kk) := by rw [hb2.cell (by simp), cell_of_row _ _ _ _ _ _ (heap_alloc_new wr _)]; rfl
          have b1 : w2.cell? ⟨wr.heap.size, 1, none⟩ = some (.int .i64 pp) := by rw [hb2.cell (by simp), cell_of_row _ _ _ _ _ _ (heap_alloc_new wr _)]; rfl
          have HB2 : Hid (Below wr.heap.size wr w2) := ((Below.refl _ _).alloc (Nat.le_refl _) _).trans (hb2.mono (by simp))
          clear hb2
          have HSB : Hid (w.heap.size ≤ w2.heap.size) := Nat.le_trans HBL.out.size HB2.out.size
          have HOA : Hid ((w2.alloc (.cells #[.int .u8 kk, .int .u8 pp] 5)).ownsRow w.heap.size 5 1 u6 (2 * k) (byV (rowFl ts r k))) := (ownsRow_stay HOW.out (fun q e => HB2.out.block q (HOW.out.lt q e).2)).alloc _
          have HSA : Hid (w.heap.size ≤ (w2.alloc (.cells #[.int .u8 kk, .int .u8 pp] 5)).heap.size) := by unfold Hid; have := HSB.out; simp; omega
          go_wp2_with (at_builtin; go_loud (refine wpList_append_lies _ (by rfl) _ _ 132 (by rfl) w.heap.size 5 i0 (.int .u8 0) 1 1 Tryz.underlying132 hi hz0 hz1 hz2 rfl (by decide) u6 (2 * k) (byV (rowFl ts r k)) (by rfl) HOA.out ⟨w2.heap.size, 0, none⟩ 2 2 [.int .u8 kk, .int .u8 pp] (by rfl) (by rfl) (two_news _ _ _ _) (fun u hu => by simp at hu; rcases hu with rfl | rfl <;> rfl) (by decide) (by unfold maxLen; omega) (by omega) HSA.out (w2.heap.size + 1) (by simp) ?_; intro g2 cap2 w3 hown hgrow hat hlt2))
          go_roundw
          case rel =>
            have fin : ∃ k1 : Nat, k1 ≤ 8 ∧ Value.int .i64 ((k : Int) + 1) = .int .i64 k1 ∧ w3.ownsRow w.heap.size 5 1 (.slice (some ⟨g2, 0, none⟩) (2 * k + 2) cap2) (2 * k1) (byV (rowFl ts r k1)) ∧ Below w.heap.size w w3 ∧ ∀ j, j < k1 → entB (ts.getD (r * 8 + j) (0, 0)).1 (ts.getD (r * 8 + j) (0, 0)).2 40 = true :=
              ⟨k + 1, by omega, by go_num, by rw [HS.out]; exact hown, ((HBL.out.trans (HB2.out.mono HBL.out.size)).alloc HSB.out _).grown hgrow HSA.out (fun q e => (HOW.out.lt q e).1), HA.out⟩
            first | exact fin | ((repeat apply Exists.intro); exact ⟨fin, rfl⟩)
          case measure => simp [intOf]; omega
        · rw [h1] at hE hS
          have HE := toHid hE
          clear hE h1
          have HS := toHid hS
          clear hS hbd
          go_wp2_with fail
          refine HE.out.mono ?_
          rintro e w2 ⟨rfl, hb2⟩
          clear HE
          have b0 : w2.cell? ⟨wr.heap.size, 0, none⟩ = some (.int .i64 0) := by rw [hb2.cell (by simp), cell_of_row _ _ _ _ _ _ (heap_alloc_new wr _)]; rfl
          have b1 : w2.cell? ⟨wr.heap.size, 1, none⟩ = some (.int .i64 0) := by rw [hb2.cell (by simp), cell_of_row _ _ _ _ _ _ (heap_alloc_new wr _)]; rfl
          have HB2 : Hid (Below wr.heap.size wr w2) := ((Below.refl _ _).alloc (Nat.le_refl _) _).trans (hb2.mono (by simp))
          clear hb2
          have HSB : Hid (w.heap.size ≤ w2.heap.size) := Nat.le_trans HBL.out.size HB2.out.size
          have HOA : Hid ((w2.alloc (.cells #[.int .u8 0, .int .u8 0] 5)).ownsRow w.heap.size 5 1 u6 (2 * k) (byV (rowFl ts r k))) := (ownsRow_stay HOW.out (fun q e => HB2.out.block q (HOW.out.lt q e).2)).alloc _
          have HSA : Hid (w.heap.size ≤ (w2.alloc (.cells #[.int .u8 0, .int .u8 0] 5)).heap.size) := by unfold Hid; have := HSB.out; simp; omega
          go_wp2_with (at_builtin; go_loud (refine wpList_append_lies _ (by rfl) _ _ 132 (by rfl) w.heap.size 5 i0 (.int .u8 0) 1 1 Tryz.underlying132 hi hz0 hz1 hz2 rfl (by decide) u6 (2 * k) (byV (rowFl ts r k)) (by rfl) HOA.out ⟨w2.heap.size, 0, none⟩ 2 2 [.int .u8 0, .int .u8 0] (by rfl) (by rfl) (two_news _ _ _ _) (fun u hu => by simp at hu; rcases hu with rfl | rfl <;> rfl) (by decide) (by unfold maxLen; omega) (by omega) HSA.out (w2.heap.size + 1) (by simp) ?_; intro g2 cap2 w3 hown hgrow hat hlt2))
          go_roundw
          case rel =>
            have fin : ∃ k1 : Nat, k1 ≤ 8 ∧ Value.int .i64 ((k : Int) + 1) = .int .i64 k1 ∧ w3.ownsRow w.heap.size 5 1 (.slice (some ⟨g2, 0, none⟩) (2 * k + 2) cap2) (2 * k1) (byV (rowFl ts r k1)) ∧ Below w.heap.size w w3 ∧ ∀ j, j < k1 → entB (ts.getD (r * 8 + j) (0, 0)).1 (ts.getD (r * 8 + j) (0, 0)).2 40 = true :=
              ⟨k + 1, by omega, by go_num, by rw [HS.out]; exact hown, ((HBL.out.trans (HB2.out.mono HBL.out.size)).alloc HSB.out _).grown hgrow HSA.out (fun q e => (HOW.out.lt q e).1), HA.out⟩
            first | exact fin | ((repeat apply Exists.intro); exact ⟨fin, rfl⟩)
          case measure => simp [intOf]; omega
    · have hkn : k = 8 := by omega
      subst hkn
      have HN0 := toHid (HE0.out hall)
      rcases how.2 with ⟨_, h0⟩ | ⟨g, cap2, cur, hv, hbg, hh, hnc, hcm, hcs, htk⟩
      · omega
      · have hcv : (convert 132 9 (.slice (some ⟨g, 0, none⟩) 16 cap2)).run Tryz.prog wr = .ok (.string (strOfNums (rowFl ts r 8))) wr := by
          rw [hv] at how
          exact run_convert_bytes_arg (P := Tryz.prog) wr 132 5 Tryz.underlying132 Tryz.underlying5 g 0 16 cap2 (rowFl ts r 8) (rowFl_len ts r 8) (fun i hi => by
            rw [Nat.zero_add, how.cellAt i (by omega)]
            exact byV_at _ i (by rw [rowFl_len]; omega)) 9 Tryz.underlying9
        rw [HN0.out.2] at hcv
        subst hv
        clear how hbel hall hh hcs htk
        go_wp2
        go_ret2
        exact ⟨by rw [HN0.out.1]; rfl, HBL.out⟩

theorem rowOf_any (la : Option Addr) (len cap : Nat) (ts : List (Int × Int)) (row : Int) (w : World) (hT : Ents w la len ts) (hlen : len ≤ 50) :
    Calls Tryz.prog 79 #[.slice la len cap, .int .i64 row] w fun e w' => e = .returned (.tuple #[.string (rowS ts row), .int .i64 (rowF ts row)]) ∧ Below w.heap.size w w' := by
  cases hr : rowIn ts row with
  | false => exact rowOf_bound la len cap ts row w hT hlen hr
  | true =>
    have hr' := of_decide_eq_true hr
    obtain ⟨r, rfl⟩ := Int.eq_ofNat_of_zero_le hr'.2.1
    rw [hT.1] at hr'
    have hpos : 0 < len := by
      rcases Nat.eq_zero_or_pos len with h | h
      · subst h; simp [rowsN] at hr'; omega
      · exact h
    obtain ⟨b, off, rfl, _⟩ := hT.2 0 hpos
    exact rowOf_in b off len cap ts r w hT hr'.1 (by omega)
end Go.Proofs.YtjegaljdindfaabGreatDoor
