/-
A row of a table as a sector (C2), in the document's answer: what RowOf gives; two tables held against each other.
An error, told by its number; the cells of a table.
What readers and writers of heads and tables lean on: a head that is written and read; boxes; a copy of a table with one more entry behind it.
Tables that are read (C2): entry by entry, row by row; how a table that is being read lies in memory.
-/
import Derived.Test.YtjegaljdindfaabGreatDoorQShapeRow
import Derived.Laws.AppendOwnNone
namespace Go.Proofs.YtjegaljdindfaabGreatDoor
open Go.RowKit
attribute [local go_sem ↓] Go.wp_at_zero Go.wp_at_succ

def rowFl (ts : List (Int × Int)) (r k : Nat) : List Int := (List.range k).flatMap fun i => [(ts.getD (r * 8 + i) (0, 0)).1, (ts.getD (r * 8 + i) (0, 0)).2]

theorem rowFl_succ (ts : List (Int × Int)) (r k : Nat) : byV (rowFl ts r (k + 1)) = byV (rowFl ts r k) ++ [.int .u8 (ts.getD (r * 8 + k) (0, 0)).1, .int .u8 (ts.getD (r * 8 + k) (0, 0)).2] := by
  simp [rowFl, byV, List.range_succ]

theorem rowFl_len (ts : List (Int × Int)) (r k : Nat) : (rowFl ts r k).length = 2 * k := by
  induction k with
  | zero => rfl
  | succ k ih =>
    have : rowFl ts r (k + 1) = rowFl ts r k ++ [(ts.getD (r * 8 + k) (0, 0)).1, (ts.getD (r * 8 + k) (0, 0)).2] := by simp [rowFl, List.range_succ]
    rw [this, List.length_append, ih]; simp; omega

theorem rowFl_all (ts : List (Int × Int)) (r : Nat) : rowFl ts r 8 = rowTo ts r 8 := rfl

set_option maxRecDepth 100000 in
set_option maxHeartbeats 1000000 in
theorem rowOf_bound (la : Option Addr) (len cap : Nat) (ts : List (Int × Int)) (row : Int) (w : World) (hT : Ents w la len ts) (hlen : len ≤ 50) (hr : rowIn ts row = false) :
    Calls Tryz.prog 79 #[.slice la len cap, .int .i64 row] w fun e w' => e = .returned (.tuple #[.string (rowS ts row), .int .i64 (rowF ts row)]) ∧ Below w.heap.size w w' := by
  have e1 : rowF ts row = 1 := by unfold rowF; rw [if_neg (by rw [hr]; decide)]
  have e2 : rowS ts row = ⟨#[]⟩ := by unfold rowS; rw [e1, if_neg (by decide)]
  rw [e2, e1]
  have hl := hT.1
  have hr' := of_decide_eq_false hr
  rw [hl] at hr'
  clear hT e1 e2 hr hl
  by_cases h32 : 32 < len
  · have g1 : decide (32 < (len : Int)) = true := by simp; omega
    clear hr'
    go_enter Tryz.func79, Tryz.ntmps79
    go_wp2
    go_ret2
    exact ⟨rfl, Below.refl _ _⟩
  · have g1 : decide (32 < (len : Int)) = false := by simp; omega
    by_cases h0 : row < 0
    · have g2 : decide (row < 0) = true := by simpa using h0
      clear hr'
      go_enter Tryz.func79, Tryz.ntmps79
      go_wp2
      go_ret2
      exact ⟨rfl, Below.refl _ _⟩
    · have g2 : decide (row < 0) = false := by simpa using h0
      have g3 : decide ((rowsN len : Int) ≤ row) = true := by simp; omega
      have HR := toHid (refRows_any len w (by omega))
      generalize rowsN len = rn at g3 HR
      clear hr'
      go_enter Tryz.func79, Tryz.ntmps79
      go_wp2_with (go_at_call 78; refine HR.out.mono ?_; rintro e w' ⟨rfl, rfl⟩)
      go_ret2
      exact ⟨rfl, Below.refl _ _⟩

theorem ownsRow_stay {w w' : World} {B e size n : Nat} {v : Value} {xs : List Value} (h : w.ownsRow B e size v n xs) (hk : ∀ k, v.ownBlock = some k → w'.heap[k]? = w.heap[k]?) : w'.ownsRow B e size v n xs := by
  refine ⟨h.1, ?_⟩
  rcases h.2 with h0 | ⟨g, cap, cur, hv, h1, h2, h3, h4, h5, h6⟩
  · exact .inl h0
  · exact .inr ⟨g, cap, cur, hv, h1, by rw [hk g (by rw [hv]; rfl)]; exact h2, h3, h4, h5, h6⟩

theorem two_news (w : World) (x y : Value) (t : TypeId) : ∀ j u, [x, y][j]? = some u → (w.alloc (.cells #[x, y] t)).cell? ((⟨w.heap.size, 0, none⟩ : Addr).add j) = some u := by
  intro j u hj
  rw [Go.WideShapes.add_plain, Nat.zero_add, cell_of_row _ _ _ _ _ _ (heap_alloc_new w _)]
  simpa using hj

set_option maxRecDepth 100000 in
set_option maxHeartbeats 2000000 in
theorem rowOf_in (b off len cap : Nat) (ts : List (Int × Int)) (r : Nat) (w : World) (hT : Ents w (some ⟨b, off, none⟩) len ts) (hlen : len ≤ 32) (hr : r < rowsN len) :
    Calls Tryz.prog 79 #[.slice (some ⟨b, off, none⟩) len cap, .int .i64 (r : Int)] w fun e w' => e = .returned (.tuple #[.string (rowS ts r), .int .i64 (rowF ts r)]) ∧ Below w.heap.size w w' := by
  have hin : rowIn ts r = true := decide_eq_true (by rw [hT.1]; omega)
  have HR := toHid (refRows_any len w (by omega))
  have g1 : decide (32 < (len : Int)) = false := by simp; omega
  have g2 : decide ((r : Int) < 0) = false := by simp
  have g3 : decide (rowsN len ≤ r) = false := by simp; omega
  have hr8 : r * 8 < len := by unfold rowsN at hr; omega
  have HT := toHid hT
  have HI := toHid hin
  clear hT hin
  have HE2 : Hid (∀ k, k < 8 → entB (ts.getD (r * 8 + k) (0, 0)).1 (ts.getD (r * 8 + k) (0, 0)).2 40 = false → rowF ts r = 2 ∧ rowS ts r = ⟨#[]⟩) := fun k hk he => by
    have e1 : rowF ts r = 2 := by unfold rowF; rw [if_pos HI.out, if_neg (by rw [show (r : Int).toNat = r from rfl, rowOk_no (by omega) he]; decide)]
    exact ⟨e1, by unfold rowS; rw [e1, if_neg (by decide)]⟩
  have HE0 : Hid ((∀ k, k < 8 → entB (ts.getD (r * 8 + k) (0, 0)).1 (ts.getD (r * 8 + k) (0, 0)).2 40 = true) → rowF ts r = 0 ∧ strOfNums (rowFl ts r 8) = rowS ts r) := fun h => by
    have e1 : rowF ts r = 0 := by unfold rowF; rw [if_pos HI.out, if_pos (show rowOk ts (r : Int).toNat = true from rowOk_yes (.inr (Nat.le_refl 8)) h)]
    exact ⟨e1, by unfold rowS; rw [if_pos e1]; rfl⟩
  obtain ⟨i0, hi, hz0, hz1, hz2⟩ := info_parts info_u8
  generalize rowsN len = rn at g3 HR
  go_enter Tryz.func79, Tryz.ntmps79
  go_wp2_with (go_at_call 78; refine HR.out.mono ?_; rintro e w' ⟨rfl, hw⟩; have hw' := hw.symm; subst hw'; clear hw)
  clear g1 g2 g3 HR
  go_loopw [6, 7] (fun v i wr => ∃ k : Nat, k ≤ 8 ∧ i = .int .i64 k ∧ wr.ownsRow w.heap.size 5 1 v (2 * k) (byV (rowFl ts r k)) ∧ Below w.heap.size w wr ∧ ∀ j, j < k → entB (ts.getD (r * 8 + j) (0, 0)).1 (ts.getD (r * 8 + j) (0, 0)).2 40 = true) (fun _ i _ => 8 - (intOf i).toNat)
  case atStart => exact ⟨0, Nat.zero_le _, rfl, World.ownsRow_nil _ _ _ _, Below.refl _ _, fun j hj => by omega⟩
  case round =>
    obtain ⟨k, hk, rfl, how, hbel, hall⟩ := hrel
    have HOW := toHid how
    have HBL := toHid hbel
    by_cases hlt : k < 8
    · have hS := rowFl_succ ts r k
      have HN2 := toHid (HE2.out k hlt)
      have hE := entry_any (ts.getD (r * 8 + k) (0, 0)).1 (ts.getD (r * 8 + k) (0, 0)).2 40 (wr.alloc (.cells #[.int .i64 (ts.getD (r * 8 + k) (0, 0)).1, .int .i64 (ts.getD (r * 8 + k) (0, 0)).2] 142))
      have hcs : (∃ g : decide (8 * (r : Int) + k < len) = true, decide (8 * r + k < len) = true ∧ (wr.alloc (.cells #[.int .i64 0, .int .i64 0] 142)).cell? ⟨b, off + (8 * r + k) * 2, none⟩ = some (.int .i64 (ts.getD (r * 8 + k) (0, 0)).1) ∧ (wr.alloc (.cells #[.int .i64 0, .int .i64 0] 142)).cell? ⟨b, off + (8 * r + k) * 2 + 1, none⟩ = some (.int .i64 (ts.getD (r * 8 + k) (0, 0)).2)) ∨ (decide (8 * (r : Int) + k < len) = false ∧ decide (8 * r + k < len) = false ∧ ts.getD (r * 8 + k) (0, 0) = (0, 0)) := by
        by_cases hin : r * 8 + k < len
        · obtain ⟨b', off', e, h1, h2⟩ := HT.out.2 (r * 8 + k) hin
          cases e
          rw [← hbel.cell (World.block_lt_of_cell? w _ h1)] at h1
          rw [← hbel.cell (World.block_lt_of_cell? w _ h2)] at h2
          rw [show 8 * r + k = r * 8 + k by omega]
          exact .inl ⟨by simp; omega, by simp; omega, by rw [World.cell?_alloc_past _ _ _ (World.block_lt_of_cell? wr _ h1)]; exact h1, by rw [World.cell?_alloc_past _ _ _ (World.block_lt_of_cell? wr _ h2)]; exact h2⟩
        · refine .inr ⟨by simp; omega, by simp; omega, ?_⟩
          rw [List.getD_eq_getElem?_getD, List.getElem?_eq_none (by rw [HT.out.1]; omega)]; rfl
      clear how hbel
      cases he : entB (ts.getD (r * 8 + k) (0, 0)).1 (ts.getD (r * 8 + k) (0, 0)).2 40 with
      | false =>
        have HN3 := toHid (HN2.out he)
        rw [he] at hE
        clear he hS HN2 hall
        rcases hcs with ⟨g, g', h1, h2⟩ | ⟨g, g', h1⟩
        · have q1 : (0 : Int) ≤ 8 * (r : Int) + (k : Int) := by omega
          have q2 : 8 * (r : Int) + (k : Int) < (len : Int) := of_decide_eq_true g
          have HE := toHid hE
          clear hE
          generalize (ts.getD (r * 8 + k) (0, 0)).1 = kk at h1 HE
          generalize (ts.getD (r * 8 + k) (0, 0)).2 = pp at h2 HE
          go_wp2_with fail
          refine HE.out.mono ?_
          rintro e w2 ⟨rfl, hb2⟩
          go_wp2
          go_ret2
          exact ⟨by rw [HN3.out.1, HN3.out.2]; rfl, (HBL.out.alloc HBL.out.size _).trans (hb2.mono (by have := HBL.out.size; simp; omega))⟩
        · rw [h1] at hE
          have HE := toHid hE
          clear hE h1
          go_wp2_with fail
          refine HE.out.mono ?_
          rintro e w2 ⟨rfl, hb2⟩
          go_wp2
          go_ret2
          exact ⟨by rw [HN3.out.1, HN3.out.2]; rfl, (HBL.out.alloc HBL.out.size _).trans (hb2.mono (by have := HBL.out.size; simp; omega))⟩
      | true =>
        have HA : Hid (∀ j, j < k + 1 → entB (ts.getD (r * 8 + j) (0, 0)).1 (ts.getD (r * 8 + j) (0, 0)).2 40 = true) := fun j hj => by
          by_cases e : j = k
          · rw [e]; exact he
          · exact hall j (by omega)
        have hbd := entB_of he
        rw [he] at hE
        clear he HN2 hall
        rcases hcs with ⟨g, g', h1, h2⟩ | ⟨g, g', h1⟩
        · have q1 : (0 : Int) ≤ 8 * (r : Int) + (k : Int) := by omega
          have q2 : 8 * (r : Int) + (k : Int) < (len : Int) := of_decide_eq_true g
          have HE := toHid hE
          clear hE
          generalize (ts.getD (r * 8 + k) (0, 0)).1 = kk at h1 HE hS hbd
          generalize (ts.getD (r * 8 + k) (0, 0)).2 = pp at h2 HE hS hbd
          have k0 : 0 ≤ kk := by omega
          have k1 : kk < 256 := by omega
          have p0 : 0 ≤ pp := by omega
          have p1 : pp < 256 := by omega
          have HS := toHid hS
          clear hS hbd
          go_wp2_with fail
          refine HE.out.mono ?_
          rintro e w2 ⟨rfl, hb2⟩
          clear HE
          have b0 : w2.cell? ⟨wr.heap.size, 0, none⟩ = some (.int .i64 kk) := by rw [hb2.cell (by simp), cell_of_row _ _ _ _ _ _ (heap_alloc_new wr _)]; rfl
          have b1 : w2.cell? ⟨wr.heap.size, 1, none⟩ = some (.int .i64 pp) := by rw [hb2.cell (by simp), cell_of_row _ _ _ _ _ _ (heap_alloc_new wr _)]; rfl
          have HB2 : Hid (Below wr.heap.size wr w2) := ((Below.refl _ _).alloc (Nat.le_refl _) _).trans (hb2.mono (by simp))
          clear hb2
          have HSB : Hid (w.heap.size ≤ w2.heap.size) := Nat.le_trans HBL.out.size HB2.out.size
          have HOA : Hid ((w2.alloc (.cells #[.int .u8 kk, .int .u8 pp] 5)).ownsRow w.heap.size 5 1 u6 (2 * k) (byV (rowFl ts r k))) := (ownsRow_stay HOW.out (fun q e => HB2.out.block q (HOW.out.lt q e).2)).alloc _
          have HSA : Hid (w.heap.size ≤ (w2.alloc (.cells #[.int .u8 kk, .int .u8 pp] 5)).heap.size) := by unfold Hid; have := HSB.out; simp; omega
          go_wp2_with (at_builtin; go_loud (refine wpList_append_lies _ (by rfl) _ _ 132 (by rfl) w.heap.size 5 i0 (.int .u8 0) 1 1 Tryz.underlying132 hi hz0 hz1 hz2 rfl (by decide) u6 (2 * k) (byV (rowFl ts r k)) (by rfl) HOA.out ⟨w2.heap.size, 0, none⟩ 2 2 [.int .u8 kk, .int .u8 pp] (by rfl) (by rfl) (two_news _ _ _ _) (fun u hu => by simp at hu; rcases hu with rfl | rfl <;> rfl) (by decide) (by unfold maxLen; omega) (by omega) HSA.out (w2.heap.size + 1) (by simp) ?_; intro g2 cap2 w3 hown hgrow hat hlt2))
          go_roundw
          case rel =>
            have fin : ∃ k1 : Nat, k1 ≤ 8 ∧ Value.int .i64 ((k : Int) + 1) = .int .i64 k1 ∧ w3.ownsRow w.heap.size 5 1 (.slice (some ⟨g2, 0, none⟩) (2 * k + 2) cap2) (2 * k1) (byV (rowFl ts r k1)) ∧ Below w.heap.size w w3 ∧ ∀ j, j < k1 → entB (ts.getD (r * 8 + j) (0, 0)).1 (ts.getD (r * 8 + j) (0, 0)).2 40 = true :=
              ⟨k + 1, by omega, by go_num, by rw [HS.out]; exact hown, ((HBL.out.trans (HB2.out.mono HBL.out.size)).alloc HSB.out _).grown hgrow HSA.out (fun q e => (HOW.out.lt q e).1), HA.out⟩
            first | exact fin | ((repeat apply Exists.intro); exact ⟨fin, rfl⟩)
          case measure => simp [intOf]; omega
        · rw [h1] at hE hS
          have HE := toHid hE
          clear hE h1
          have HS := toHid hS
          clear hS hbd
          go_wp2_with fail
          refine HE.out.mono ?_
          rintro e w2 ⟨rfl, hb2⟩
          clear HE
          have b0 : w2.cell? ⟨wr.heap.size, 0, none⟩ = some (.int .i64 0) := by rw [hb2.cell (by simp), cell_of_row _ _ _ _ _ _ (heap_alloc_new wr _)]; rfl
          have b1 : w2.cell? ⟨wr.heap.size, 1, none⟩ = some (.int .i64 0) := by rw [hb2.cell (by simp), cell_of_row _ _ _ _ _ _ (heap_alloc_new wr _)]; rfl
          have HB2 : Hid (Below wr.heap.size wr w2) := ((Below.refl _ _).alloc (Nat.le_refl _) _).trans (hb2.mono (by simp))
          clear hb2
          have HSB : Hid (w.heap.size ≤ w2.heap.size) := Nat.le_trans HBL.out.size HB2.out.size
          have HOA : Hid ((w2.alloc (.cells #[.int .u8 0, .int .u8 0] 5)).ownsRow w.heap.size 5 1 u6 (2 * k) (byV (rowFl ts r k))) := (ownsRow_stay HOW.out (fun q e => HB2.out.block q (HOW.out.lt q e).2)).alloc _
          have HSA : Hid (w.heap.size ≤ (w2.alloc (.cells #[.int .u8 0, .int .u8 0] 5)).heap.size) := by unfold Hid; have := HSB.out; simp; omega
          go_wp2_with (at_builtin; go_loud (refine wpList_append_lies _ (by rfl) _ _ 132 (by rfl) w.heap.size 5 i0 (.int .u8 0) 1 1 Tryz.underlying132 hi hz0 hz1 hz2 rfl (by decide) u6 (2 * k) (byV (rowFl ts r k)) (by rfl) HOA.out ⟨w2.heap.size, 0, none⟩ 2 2 [.int .u8 0, .int .u8 0] (by rfl) (by rfl) (two_news _ _ _ _) (fun u hu => by simp at hu; rcases hu with rfl | rfl <;> rfl) (by decide) (by unfold maxLen; omega) (by omega) HSA.out (w2.heap.size + 1) (by simp) ?_; intro g2 cap2 w3 hown hgrow hat hlt2))
          go_roundw
          case rel =>
            have fin : ∃ k1 : Nat, k1 ≤ 8 ∧ Value.int .i64 ((k : Int) + 1) = .int .i64 k1 ∧ w3.ownsRow w.heap.size 5 1 (.slice (some ⟨g2, 0, none⟩) (2 * k + 2) cap2) (2 * k1) (byV (rowFl ts r k1)) ∧ Below w.heap.size w w3 ∧ ∀ j, j < k1 → entB (ts.getD (r * 8 + j) (0, 0)).1 (ts.getD (r * 8 + j) (0, 0)).2 40 = true :=
              ⟨k + 1, by omega, by go_num, by rw [HS.out]; exact hown, ((HBL.out.trans (HB2.out.mono HBL.out.size)).alloc HSB.out _).grown hgrow HSA.out (fun q e => (HOW.out.lt q e).1), HA.out⟩
            first | exact fin | ((repeat apply Exists.intro); exact ⟨fin, rfl⟩)
          case measure => simp [intOf]; omega
    · have hkn : k = 8 := by omega
      subst hkn
      have HN0 := toHid (HE0.out hall)
      rcases how.2 with ⟨_, h0⟩ | ⟨g, cap2, cur, hv, hbg, hh, hnc, hcm, hcs, htk⟩
      · omega
      · have hcv : (convert 132 9 (.slice (some ⟨g, 0, none⟩) 16 cap2)).run Tryz.prog wr = .ok (.string (strOfNums (rowFl ts r 8))) wr := by
          rw [hv] at how
          exact run_convert_bytes_arg (P := Tryz.prog) wr 132 5 Tryz.underlying132 Tryz.underlying5 g 0 16 cap2 (rowFl ts r 8) (rowFl_len ts r 8) (fun i hi => by
            rw [Nat.zero_add, how.cellAt i (by omega)]
            exact byV_at _ i (by rw [rowFl_len]; omega)) 9 Tryz.underlying9
        rw [HN0.out.2] at hcv
        subst hv
        clear how hbel hall hh hcs htk
        go_wp2
        go_ret2
        exact ⟨by rw [HN0.out.1]; rfl, HBL.out⟩

theorem rowOf_any (la : Option Addr) (len cap : Nat) (ts : List (Int × Int)) (row : Int) (w : World) (hT : Ents w la len ts) (hlen : len ≤ 50) :
    Calls Tryz.prog 79 #[.slice la len cap, .int .i64 row] w fun e w' => e = .returned (.tuple #[.string (rowS ts row), .int .i64 (rowF ts row)]) ∧ Below w.heap.size w w' := by
  cases hr : rowIn ts row with
  | false => exact rowOf_bound la len cap ts row w hT hlen hr
  | true =>
    have hr' := of_decide_eq_true hr
    obtain ⟨r, rfl⟩ := Int.eq_ofNat_of_zero_le hr'.2.1
    rw [hT.1] at hr'
    have hpos : 0 < len := by
      rcases Nat.eq_zero_or_pos len with h | h
      · subst h; simp [rowsN] at hr'; omega
      · exact h
    obtain ⟨b, off, rfl, _⟩ := hT.2 0 hpos
    exact rowOf_in b off len cap ts r w hT hr'.1 (by omega)
end Go.Proofs.YtjegaljdindfaabGreatDoor

namespace Go.Proofs.YtjegaljdindfaabGreatDoor
open Go.RowKit
attribute [local go_sem ↓] Go.wp_at_zero Go.wp_at_succ

set_option maxRecDepth 100000 in
set_option maxHeartbeats 400000 in
theorem errSame_nil (f : Int) (w : World) : Calls Tryz.prog 11 #[.nilIface, .int .i64 f] w fun e w' => e = .returned (.bool (f == 0)) ∧ w' = w := by
  go_enter Tryz.func11, Tryz.ntmps11
  go_wp2
  go_ret
  exact ⟨rfl, rfl⟩

set_option maxRecDepth 100000 in
set_option maxHeartbeats 400000 in
theorem errSame_err (n : Int) (w : World) (h0 : 0 < n) : Calls Tryz.prog 11 #[.iface 87 (.int .i64 n), .int .i64 n] w fun e w' => e = .returned (.bool true) ∧ w' = w := by
  have hta : ∀ w : World, (Instr.typeAssert (.iface 87 (.int .i64 n)) 33 87 true).run Tryz.prog w = .ok (.tuple #[.int .i64 n, .bool true]) w := fun _ => by kernel_rfl
  go_enter Tryz.func11, Tryz.ntmps11
  go_wp2
  go_ret
  exact ⟨rfl, rfl⟩

theorem errSame (f : Int) (w : World) (h : 0 ≤ f) : Calls Tryz.prog 11 #[erV f, .int .i64 f] w fun e w' => e = .returned (.bool true) ∧ w' = w := by
  by_cases h0 : f = 0
  · subst h0
    rw [erV_0]
    exact errSame_nil 0 w
  · have e : erV f = .iface 87 (.int .i64 f) := by unfold erV; rw [if_neg h0]
    rw [e]
    exact errSame_err f w (by omega)

def entV (ts : List (Int × Int)) : List Value := ts.flatMap fun e => [.int .i64 e.1, .int .i64 e.2]

theorem entV_len (ts : List (Int × Int)) : (entV ts).length = ts.length * 2 := by
  induction ts with
  | nil => rfl
  | cons e ts ih => simp only [entV, List.flatMap_cons, List.length_append, List.length_cons, List.length_nil] at ih ⊢; omega

theorem entV_one (ts : List (Int × Int)) : ∀ u ∈ entV ts, u.oneCell' = true := by
  intro u hu
  obtain ⟨e, _, h⟩ := List.mem_flatMap.1 hu
  simp at h
  rcases h with rfl | rfl <;> rfl

theorem entV_at (ts : List (Int × Int)) (k : Nat) (hk : k < ts.length) : (entV ts)[k * 2]? = some (.int .i64 (ts.getD k (0, 0)).1) ∧ (entV ts)[k * 2 + 1]? = some (.int .i64 (ts.getD k (0, 0)).2) := by
  induction ts generalizing k with
  | nil => simp at hk
  | cons e ts ih =>
    cases k with
    | zero => exact ⟨rfl, rfl⟩
    | succ k =>
      have h := ih k (by simpa using hk)
      have e1 : entV (e :: ts) = [.int .i64 e.1, .int .i64 e.2] ++ entV ts := rfl
      rw [e1, show (k + 1) * 2 = 2 + k * 2 by omega, show 2 + k * 2 + 1 = 2 + (k * 2 + 1) by omega, List.getElem?_append_right (by simp), List.getElem?_append_right (by simp)]
      simpa [show 2 + k * 2 - 2 = k * 2 by omega, show 2 + (k * 2 + 1) - 2 = k * 2 + 1 by omega] using h

theorem info_ent : (Tryz.prog.info? 142).map (fun i => (i.zero, i.size, i.bytes)) = some (some (.agg #[.int .i64 0, .int .i64 0]), 2, 16) := by kernel_rfl

/- The cells of a table that lies somewhere, as one list. -/
theorem Ents.src {w : World} {b off len : Nat} {ts : List (Int × Int)} (h : Ents w (some ⟨b, off, none⟩) len ts) : ∀ j u, (entV ts)[j]? = some u → w.cell? ((⟨b, off, none⟩ : Addr).add j) = some u := by
  intro j u hj
  have hjl : j < ts.length * 2 := by
    rcases Nat.lt_or_ge j (ts.length * 2) with h1 | h1
    · exact h1
    · rw [List.getElem?_eq_none (by rw [entV_len]; exact h1)] at hj; cases hj
  obtain ⟨b', off', e, h1, h2⟩ := h.2 (j / 2) (by rw [← h.1]; omega)
  cases e
  have ha := entV_at ts (j / 2) (by omega)
  rw [Go.WideShapes.add_plain]
  by_cases e2 : j % 2 = 0
  · have ej : j = j / 2 * 2 := by omega
    rw [ej] at hj ⊢
    rw [ha.1] at hj
    rw [h1]; exact hj
  · have ej : j = j / 2 * 2 + 1 := by omega
    rw [ej] at hj ⊢
    rw [ha.2] at hj
    rw [← Nat.add_assoc, h2]; exact hj

/- A row of entries that the call owns, read as a table. -/
theorem ents_of_owns {w : World} {B g n cap : Nat} {ts : List (Int × Int)} {xs : List Value} (ho : w.ownsRow B 142 2 (.slice (some ⟨g, 0, none⟩) n cap) n xs) (k : Nat) (hx : xs.take (k * 2) = entV ts) (hk : k ≤ n) (hl : ts.length = k) : Ents w (some ⟨g, 0, none⟩) k ts := by
  refine ⟨hl, fun i hi => ⟨g, 0, rfl, ?_, ?_⟩⟩
  · have ha := (entV_at ts i (by omega)).1
    rw [← hx, List.getElem?_take_of_lt (by omega)] at ha
    rw [Nat.zero_add, ho.cellAt (i * 2) (by omega)]; exact ha
  · have ha := (entV_at ts i (by omega)).2
    rw [← hx, List.getElem?_take_of_lt (by omega)] at ha
    rw [Nat.zero_add, ho.cellAt (i * 2 + 1) (by omega)]; exact ha
end Go.Proofs.YtjegaljdindfaabGreatDoor

namespace Go.Proofs.YtjegaljdindfaabGreatDoor
open Go.RowKit
attribute [local go_sem ↓] Go.wp_at_zero Go.wp_at_succ

theorem rowF_nonneg (ts : List (Int × Int)) (row : Int) : 0 ≤ rowF ts row := by
  unfold rowF
  split
  · split <;> omega
  · omega

theorem headF_nonneg (s : ByteArray) : 0 ≤ headF s := by
  unfold headF
  split
  · split <;> omega
  · next h => have := sealF_pos h; omega

/- A box that was just made, behind calls that turn nothing old. -/
theorem new_cell {w w2 : World} {C : Array Value} {t : TypeId} (hb : Below (w.alloc (.cells C t)).heap.size (w.alloc (.cells C t)) w2) (i : Nat) (v : Value) (hv : C[i]? = some v) : w2.cell? ⟨w.heap.size, i, none⟩ = some v := by
  rw [hb.cell (by simp), cell_of_row _ _ _ _ _ _ (heap_alloc_new w _)]; exact hv

theorem step_append {P : Program} {w w' : World} {ops : Array Oper} {rest : List Oper} {o : Oper} {a : Act} {Q : Exit → Act → World → Prop} (hgd : o.guard = none) (s x : Operand) (t ty : TypeId)
    (ho : o.op = .call { callee := .builtin .append, args := #[s, x], argTypes := #[t, t] }) (hty : o.type = ty) {v xv v' : Value} (hs : a.eval s = v) (hx : a.eval x = xv)
    (hr : (Builtin.append_ #[t, t] ty #[v, xv]).run P w = .ok v' w') (h : wpList P ops Q rest (a.put o.dst v') w') : wpList P ops Q (o :: rest) a w := by
  refine wpList_plain hgd fun K hK => ?_
  unfold Oper.wp execOp
  simp only [ho, resolve, invoke, builtin, Sem.run_bind, Sem.run_pure, Result.andThen_ok, List.map_toArray, List.map_cons, List.map_nil, hs, hx, hty, hr]
  exact hK _ _ h

theorem own_ents (ws : World) (la : Option Addr) (len cap : Nat) (ts : List (Int × Int)) (hT : Ents ws la len ts) (hnil : la = none → cap = 0) (h50 : len ≤ 50) :
    ∃ v1 w1 g cap2 w2, (Builtin.append_ #[88, 88] 88 #[.slice none 0 0, .slice la len cap]).run Tryz.prog ws = .ok v1 w1 ∧
      (Builtin.append_ #[88, 88] 88 #[v1, .slice (some ⟨w1.heap.size, 0, none⟩) 1 1]).run Tryz.prog (w1.alloc (.cells #[.int .i64 77, .int .i64 0] 142)) = .ok (.slice (some ⟨g, 0, none⟩) (len + 1) cap2) w2 ∧
      Below ws.heap.size ws w2 ∧ len + 1 ≤ cap2 ∧ cap2 ≤ maxLen ∧ Ents w2 (some ⟨g, 0, none⟩) len ts := by
  obtain ⟨i0, hi, hz0, hz1, hz2⟩ := info_parts info_ent
  have hlen := hT.1
  have h1 : ∃ v1 w1, (Builtin.append_ #[88, 88] 88 #[.slice none 0 0, .slice la len cap]).run Tryz.prog ws = .ok v1 w1 ∧ w1.ownsRow ws.heap.size 142 2 v1 len (entV ts) ∧ ws.grownBy w1 none := by
    cases la with
    | none =>
      have hl0 : len = 0 := by
        by_cases h : 0 < len
        · obtain ⟨b, off, e, _⟩ := hT.2 0 h
          cases e
        · omega
      subst hl0
      have : ts = [] := List.length_eq_zero_iff.1 hlen
      subst this
      rw [hnil rfl]
      exact ⟨_, _, run_append_owned_none (P := Tryz.prog) ws ws.heap.size 88 88 142 i0 2 Tryz.underlying88 hi _ 0 [] (World.ownsRow_nil _ _ _ _), World.ownsRow_nil _ _ _ _, ⟨rfl, rfl, rfl, Nat.le_refl _, fun _ _ _ => rfl⟩⟩
    | some a =>
      by_cases hp : 0 < len
      · obtain ⟨b, off, e, _⟩ := hT.2 0 hp
        cases e
        obtain ⟨v1, w1, hr, ho, hg, _⟩ := run_append_own (P := Tryz.prog) ws ws.heap.size 88 88 142 i0 (.agg #[.int .i64 0, .int .i64 0]) 2 16 Tryz.underlying88 hi hz0 hz1 hz2 rfl (by decide) (.slice none 0 0) 0 [] (World.ownsRow_nil _ _ _ _) ⟨b, off, none⟩ len cap (entV ts) (by rw [entV_len, hlen]) hT.src (entV_one ts) (by unfold maxLen; omega) (by omega) (Nat.le_refl _)
        exact ⟨v1, w1, hr, by simpa using ho, hg⟩
      · have hl0 : len = 0 := by omega
        subst hl0
        have : ts = [] := List.length_eq_zero_iff.1 hlen
        subst this
        obtain ⟨v1, w1, hr, ho, hg, _⟩ := run_append_own (P := Tryz.prog) ws ws.heap.size 88 88 142 i0 (.agg #[.int .i64 0, .int .i64 0]) 2 16 Tryz.underlying88 hi hz0 hz1 hz2 rfl (by decide) (.slice none 0 0) 0 [] (World.ownsRow_nil _ _ _ _) a 0 cap [] rfl (fun j u hj => by simp at hj) (fun u hu => by simp at hu) (by unfold maxLen; omega) (by omega) (Nat.le_refl _)
        exact ⟨v1, w1, hr, by simpa [entV] using ho, hg⟩
  obtain ⟨v1, w1, hr1, ho1, hg1⟩ := h1
  obtain ⟨v2, w2, hr2, ho2, hg2, hn2⟩ := run_append_own (P := Tryz.prog) (w1.alloc (.cells #[.int .i64 77, .int .i64 0] 142)) ws.heap.size 88 88 142 i0 (.agg #[.int .i64 0, .int .i64 0]) 2 16 Tryz.underlying88 hi hz0 hz1 hz2 rfl (by decide) v1 len (entV ts) (ho1.alloc _) ⟨w1.heap.size, 0, none⟩ 1 1 [.int .i64 77, .int .i64 0] rfl (two_news _ _ _ _) (fun u hu => by simp at hu; rcases hu with rfl | rfl <;> rfl) (by unfold maxLen; omega) (by omega) (by have := hg1.size; simp; omega)
  have hb1 : Below ws.heap.size ws w1 := (Below.refl _ _).grown hg1 (Nat.le_refl _) (fun k e => by cases e)
  have hb2 : Below ws.heap.size ws w2 := (hb1.alloc hg1.size _).grown hg2 (by have := hg1.size; simp; omega) (fun k e => (ho1.lt k e).1)
  rcases ho2.2 with ⟨_, h0⟩ | ⟨g, cap2, cur, hv, hbg, hh, hnc, hcm, hcs, htk⟩
  · omega
  · subst hv
    refine ⟨v1, w1, g, cap2, w2, hr1, hr2, hb2, hnc, hcm, ents_of_owns ho2 len ?_ (by omega) hlen⟩
    rw [List.take_append_of_le_length (by rw [entV_len]; omega), List.take_of_length_le (by rw [entV_len]; omega)]
end Go.Proofs.YtjegaljdindfaabGreatDoor

namespace Go.Proofs.YtjegaljdindfaabGreatDoor
open Go.RowKit

/- One entry more: none, if it may not stand there. -/
def stepT (h : HV) (acc : List (Int × Int)) (e : Int × Int) : Option (List (Int × Int)) :=
  if (acc.length : Int) = h.c then (if e = (0, 0) then some acc else none)
  else if entB e.1 e.2 h.p = true ∧ ¬ (e.1 = 2 ∧ e ∈ acc) then some (acc ++ [e]) else none

def entAt (s : ByteArray) (i : Nat) : Int × Int := (bAt s (i * 2), bAt s (i * 2 + 1))

def rowSt (h : HV) (acc : List (Int × Int)) (s : ByteArray) : Nat → Option (List (Int × Int))
  | 0 => some acc
  | i + 1 => match rowSt h acc s i with
    | none => none
    | some a => stepT h a (entAt s i)

theorem rowSt_none {h : HV} {acc : List (Int × Int)} {s : ByteArray} {i : Nat} (e : rowSt h acc s i = none) : ∀ j, i ≤ j → rowSt h acc s j = none := by
  intro j hj
  induction j with
  | zero => rw [show (0 : Nat) = i by omega]; exact e
  | succ j ih =>
    by_cases e2 : i = j + 1
    · rw [← e2]; exact e
    · have h1 := ih (by omega)
      show (match rowSt h acc s j with | none => none | some a => stepT h a (entAt s j)) = none
      rw [h1]

theorem rowSt_some {h : HV} {acc a : List (Int × Int)} {s : ByteArray} {i : Nat} (e : rowSt h acc s i = some a) : rowSt h acc s (i + 1) = stepT h a (entAt s i) := by
  show (match rowSt h acc s i with | none => none | some a => stepT h a (entAt s i)) = _
  rw [e]

theorem stepT_len {h : HV} {acc a : List (Int × Int)} {e : Int × Int} (hs : stepT h acc e = some a) (hl : (acc.length : Int) ≤ h.c) : (a.length : Int) ≤ h.c := by
  unfold stepT at hs
  split at hs
  · split at hs
    · cases hs; exact hl
    · cases hs
  · split at hs
    · cases hs; rw [List.length_append]; simp; omega
    · cases hs

theorem rowSt_len {h : HV} {acc : List (Int × Int)} {s : ByteArray} (hl : (acc.length : Int) ≤ h.c) : ∀ (i : Nat) (a : List (Int × Int)), rowSt h acc s i = some a → (a.length : Int) ≤ h.c := by
  intro i
  induction i with
  | zero => intro a e; cases e; exact hl
  | succ i ih =>
    intro a e
    cases e2 : rowSt h acc s i with
    | none => rw [rowSt_none e2 (i + 1) (by omega)] at e; cases e
    | some x => rw [rowSt_some e2] at e; exact stepT_len e (ih x e2)

/- Row by row: the entries so far, and what is wrong (0: nothing). -/
def tabTo (h : HV) (rows : List ByteArray) : Nat → List (Int × Int) × Int
  | 0 => ([], 0)
  | j + 1 => if (tabTo h rows j).2 = 0 then (if (rows.getD j ByteArray.empty).size = 16 then (match rowSt h (tabTo h rows j).1 (rows.getD j ByteArray.empty) 8 with | some a => (a, 0) | none => ([], 2)) else ([], 1)) else ([], (tabTo h rows j).2)

def tableIn (h : HV) (rows : List ByteArray) : Bool := h.ok && decide (rows.length = rowsN h.c.toNat)
def tableT (h : HV) (rows : List ByteArray) : List (Int × Int) := if tableIn h rows = true then (tabTo h rows rows.length).1 else []
def tableF (h : HV) (rows : List ByteArray) : Int := if tableIn h rows = true then (tabTo h rows rows.length).2 else 1

theorem tabTo_fault {h : HV} {rows : List ByteArray} {j : Nat} {f : Int} (hf : f ≠ 0) (e : tabTo h rows j = ([], f)) : ∀ i, j ≤ i → tabTo h rows i = ([], f) := by
  intro i hi
  induction i with
  | zero => rw [show (0 : Nat) = j by omega]; exact e
  | succ i ih =>
    by_cases e2 : j = i + 1
    · rw [← e2]; exact e
    · have h1 := ih (by omega)
      unfold tabTo
      rw [h1, if_neg hf]

theorem tabTo_short {h : HV} {rows : List ByteArray} {j : Nat} (e : (tabTo h rows j).2 = 0) (hs : (rows.getD j ByteArray.empty).size ≠ 16) : tabTo h rows (j + 1) = ([], 1) := by
  show (if (tabTo h rows j).2 = 0 then _ else _) = _
  rw [if_pos e, if_neg hs]

theorem tabTo_bad {h : HV} {rows : List ByteArray} {j : Nat} (e : (tabTo h rows j).2 = 0) (hs : (rows.getD j ByteArray.empty).size = 16) (hr : rowSt h (tabTo h rows j).1 (rows.getD j ByteArray.empty) 8 = none) : tabTo h rows (j + 1) = ([], 2) := by
  show (if (tabTo h rows j).2 = 0 then _ else _) = _
  rw [if_pos e, if_pos hs, hr]

theorem tabTo_good {h : HV} {rows : List ByteArray} {j : Nat} {a : List (Int × Int)} (e : (tabTo h rows j).2 = 0) (hs : (rows.getD j ByteArray.empty).size = 16) (hr : rowSt h (tabTo h rows j).1 (rows.getD j ByteArray.empty) 8 = some a) : tabTo h rows (j + 1) = (a, 0) := by
  show (if (tabTo h rows j).2 = 0 then _ else _) = _
  rw [if_pos e, if_pos hs, hr]

theorem tabTo_nonneg (h : HV) (rows : List ByteArray) (j : Nat) : 0 ≤ (tabTo h rows j).2 := by
  induction j with
  | zero => exact Int.le_refl 0
  | succ j ih =>
    by_cases e : (tabTo h rows j).2 = 0
    · by_cases hs : (rows.getD j ByteArray.empty).size = 16
      · cases hr : rowSt h (tabTo h rows j).1 (rows.getD j ByteArray.empty) 8 with
        | none => rw [tabTo_bad e hs hr]; decide
        | some a => rw [tabTo_good e hs hr]; exact Int.le_refl 0
      · rw [tabTo_short e hs]; decide
    · have : tabTo h rows (j + 1) = ([], (tabTo h rows j).2) := by
        show (if (tabTo h rows j).2 = 0 then _ else _) = _
        rw [if_neg e]
      rw [this]; exact ih

theorem tableF_nonneg (h : HV) (rows : List ByteArray) : 0 ≤ tableF h rows := by
  unfold tableF
  split
  · exact tabTo_nonneg h rows _
  · omega

/- The places that are taken. -/
def tkOf (acc : List (Int × Int)) : List Bool := (List.range 40).map fun q : Nat => decide (((2 : Int), (q : Int)) ∈ acc)

theorem tkOf_len (acc : List (Int × Int)) : (tkOf acc).length = 40 := by simp [tkOf]

theorem tkOf_at (acc : List (Int × Int)) (q : Nat) (hq : q < 40) : (tkOf acc).getD q false = decide (((2 : Int), (q : Int)) ∈ acc) := by
  simp [tkOf, List.getD, hq]

theorem tkOf_nil : tkOf [] = List.replicate 40 false := by
  simp [tkOf, List.map_const']

theorem tkOf_other (acc : List (Int × Int)) (k p : Int) (hk : k ≠ 2) : tkOf (acc ++ [(k, p)]) = tkOf acc := by
  unfold tkOf
  apply List.map_congr_left
  intro q _
  have : ((2 : Int), (q : Int)) ≠ (k, p) := fun e => hk (congrArg Prod.fst e).symm
  simp [this]

theorem tkOf_data (acc : List (Int × Int)) (q : Nat) (hq : q < 40) : tkOf (acc ++ [(2, (q : Int))]) = (tkOf acc).set q true := by
  apply List.ext_getElem?
  intro i
  rw [List.getElem?_set]
  by_cases e : q = i
  · subst e
    rw [if_pos rfl, if_pos (by rw [tkOf_len]; exact hq)]
    simp [tkOf, hq]
  · rw [if_neg e]
    by_cases hi : i < 40
    · simp [tkOf, hi]
      intro e2
      omega
    · rw [List.getElem?_eq_none (by rw [tkOf_len]; omega), List.getElem?_eq_none (by rw [tkOf_len]; omega)]

def tabV (h : HV) (v : Value) (tk : List Bool) : List Value := [.int .i64 h.c, .int .i64 h.p, .int .i64 h.b, v] ++ tk.map .bool

end Go.Proofs.YtjegaljdindfaabGreatDoor
