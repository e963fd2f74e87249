/-
The small calls of the document's own image: is there a cluster, where a place begins, how many sectors it needs, is a place free, how many are, its flush, what is read.
The document's own image: its flush, sectors that are written one after the other, an entry that is set.
-/
import Derived.Test.YtjegaljdindfaabGreatDoorQRimMem
import Derived.Deep.RegionHeld3
import Derived.Test.YtjegaljdindfaabGreatDoorQImgWrite
import Derived.Test.YtjegaljdindfaabGreatDoorQImgFill
namespace Go.Proofs.YtjegaljdindfaabGreatDoor
open Go.RowKit Go.Maps
attribute [local go_sem ↓] Go.wp_at_zero Go.wp_at_succ

theorem noughtsN_any (n : Nat) (w : World) (hn : n ≤ 1000) :
    Calls Tryz.prog 38 #[.int .i64 (n : Int)] w fun e w' => e = .returned (.string (bytesOf (List.replicate n 0))) ∧ Below w.heap.size w w' := by
  obtain ⟨i0, hi0, hz0, hz1, hz2⟩ := info_parts info_byte
  obtain ⟨w1, hmk, hown, hgr⟩ := run_make_full (P := Tryz.prog) w w.heap.size 132 5 i0 (.int .u8 0) 1 Tryz.underlying132 hi0 hz0 hz1 .i64 .i64 n (by rw [hz2]; omega) (by unfold maxLen; omega) (Nat.le_refl _)
  have hb : Below w.heap.size w w1 := (Below.refl _ _).grown hgr (Nat.le_refl _) (fun k e => by cases e)
  have hr : w1.rangeAt w.heap.size 0 (secV (List.replicate n 0)) := fun j v hv => by
    have hj : j < n := by
      rcases Nat.lt_or_ge j n with q | q
      · exact q
      · rw [List.getElem?_eq_none (by rw [secV_len, List.length_replicate]; exact q)] at hv; cases hv
    rw [Nat.zero_add, hown.cellAt j (by omega)]
    have e : (madeCells (Value.int .u8 0).cells (n * 1)).toList = secV (List.replicate n 0) := by
      rw [Nat.mul_one]
      show (madeCells #[Value.int .u8 0] n).toList = _
      rw [toList_madeCells_one]; simp [secV]
    rw [e]; exact hv
  have hcv := conv_sec n n (by simp) hr
  have HB : Hid (Below w.heap.size w w1) := hb
  clear hr hown hgr hb hi0 hz0 hz1 hz2
  generalize bytesOf (List.replicate n 0) = S at hcv ⊢
  go_enter Tryz.func38, Tryz.ntmps38
  go_wp2
  go_ret
  exact ⟨rfl, HB.out⟩

set_option maxRecDepth 100000 in
set_option maxHeartbeats 1000000 in
theorem there_rim {B : Gd} {q : Qh} {v : IV} (c : Int) (w : World) (h : IsRim B w q v) (hl : (v.t.length : Int) = v.h.c) :
    Calls Tryz.prog 85 #[.pointer (some ⟨q.p, 0, none⟩), .int .i64 c] w fun e w' => e = .returned (.bool (v.there c)) ∧ w' = w := by
  obtain ⟨c0, c1, c2, c3, c4, c5, fz⟩ := h.cells
  clear h c0 c2 c3 c4 c5 fz
  rw [← hl] at c1
  unfold IV.there
  generalize v.t.length = n at c1 ⊢
  clear hl
  by_cases h0 : 0 ≤ c
  · have g0 : decide (0 ≤ c) = true := decide_eq_true h0
    have HF : Hid (decide (0 ≤ c ∧ c < (n : Int)) = decide (c < (n : Int))) := by unfold Hid; simp [h0]
    go_enter Tryz.func85, Tryz.ntmps85
    go_wp2
    go_ret
    exact ⟨ret_b HF.out.symm, rfl⟩
  · have g0 : decide (0 ≤ c) = false := decide_eq_false h0
    have HF : Hid (decide (0 ≤ c ∧ c < (n : Int)) = false) := by unfold Hid; simp [h0]
    go_enter Tryz.func85, Tryz.ntmps85
    go_wp2
    go_ret
    exact ⟨by first | exact ret_b HF.out.symm | rfl, rfl⟩

set_option maxRecDepth 100000 in
set_option maxHeartbeats 1000000 in
theorem first_rim {B : Gd} {q : Qh} {v : IV} (k : Nat) (w : World) (h : IsRim B w q v) (hk : v.h.ok = true) (hq : k ≤ 40) :
    Calls Tryz.prog 92 #[.pointer (some ⟨q.p, 0, none⟩), .int .i64 (k : Int)] w fun e w' => e = .returned (.int .i64 (beginN v.h k : Int)) ∧ w' = w := by
  obtain ⟨c0, c1, c2, c3, c4, c5, fz⟩ := h.cells
  have hbo := HV.of_ok hk
  have HR : Hid (∀ W : World, Calls Tryz.prog 78 #[.int .i64 v.h.c] W fun e w' => e = .returned (.int .i64 (rowsN v.h.c.toNat : Int)) ∧ w' = W) := fun W => by have := refRows_any v.h.c.toNat W (by omega); rw [show ((v.h.c.toNat : Nat) : Int) = v.h.c by omega] at this; exact this
  have HF : Hid (beginN v.h k = 1 + rowsN v.h.c.toNat + 4 * k) := rfl
  have hrn : rowsN v.h.c.toNat ≤ 10 := by unfold rowsN; omega
  generalize rowsN v.h.c.toNat = rn at HR HF hrn
  generalize beginN v.h k = bn at HF ⊢
  clear hk hbo h c0 c2 c3 c4 c5 fz
  generalize v.h.c = c at c1 HR
  go_enter Tryz.func92, Tryz.ntmps92
  go_wp2_with (go_at_call 78; refine (HR.out _).mono ?_; rintro e w' ⟨rfl, hw⟩; have hw' := hw.symm; subst hw'; clear hw)
  go_ret
  exact ⟨ret_i (by have := HF.out; omega), rfl⟩

set_option maxRecDepth 100000 in
set_option maxHeartbeats 1000000 in
theorem refNeed_any (c p b : Int) (w : World) (hk : HV.ok ⟨c, p, b⟩ = true) :
    Calls Tryz.prog 77 #[.agg #[.int .i64 c, .int .i64 p, .int .i64 b]] w fun e w' => e = .returned (.int .i64 (needN ⟨c, p, b⟩ : Int)) ∧ Below w.heap.size w w' := by
  have hbo := HV.of_ok hk
  simp only at hbo
  have HR : Hid (∀ W : World, Calls Tryz.prog 78 #[.int .i64 c] W fun e w' => e = .returned (.int .i64 (rowsN c.toNat : Int)) ∧ w' = W) := fun W => by have := refRows_any c.toNat W (by omega); rw [show ((c.toNat : Nat) : Int) = c by omega] at this; exact this
  have HF : Hid ((needN ⟨c, p, b⟩ : Int) = 1 + (rowsN c.toNat : Int) + 4 * p) := by unfold Hid needN beginN; simp only; omega
  have hrn : rowsN c.toNat ≤ 10 := by unfold rowsN; omega
  have hp := hbo.2.2.1
  have hp2 := hbo.2.2.2.1
  generalize rowsN c.toNat = rn at HR HF hrn
  generalize (needN ⟨c, p, b⟩ : Int) = bn at HF ⊢
  clear hk hbo
  have x0 : (w.alloc (.cells #[.int .i64 c, .int .i64 p, .int .i64 b] 60)).cell? ⟨w.heap.size, 0, none⟩ = some (.int .i64 c) := by rw [cell_of_row _ _ _ _ _ _ (heap_alloc_new w _)]; rfl
  have x1 : (w.alloc (.cells #[.int .i64 c, .int .i64 p, .int .i64 b] 60)).cell? ⟨w.heap.size, 1, none⟩ = some (.int .i64 p) := by rw [cell_of_row _ _ _ _ _ _ (heap_alloc_new w _)]; rfl
  have HB : Hid (Below w.heap.size w (w.alloc (.cells #[.int .i64 c, .int .i64 p, .int .i64 b] 60))) := (Below.refl _ _).alloc (Nat.le_refl _) _
  go_enter Tryz.func77, Tryz.ntmps77
  go_wp2
  generalize w.alloc (.cells #[.int .i64 c, .int .i64 p, .int .i64 b] 60) = wA at x0 x1 HB ⊢
  have v1 : IntKind.i64.wrap (1 + (rn : Int)) = 1 + (rn : Int) := IntWalk.i64_in _ (by omega)
  have v2 : IntKind.i64.wrap (4 * p) = 4 * p := IntWalk.i64_in _ (by omega)
  have v3 : IntKind.i64.wrap (1 + (rn : Int) + 4 * p) = 1 + (rn : Int) + 4 * p := IntWalk.i64_in _ (by omega)
  have hd0 : Below wA.heap.size wA wA.drew := Below.drew (Below.refl _ _)
  go_region_held3 (fun W => Below wA.heap.size wA W ∧ W.cell? ⟨w.heap.size, 0, none⟩ = some (.int .i64 c) ∧ W.cell? ⟨w.heap.size, 1, none⟩ = some (.int .i64 p))
    (first | (exact ⟨hd0, x0, x1⟩) | assumption)
    (first
      | (go_at_call 78; refine (HR.out _).mono ?_; rintro e w' ⟨rfl, rfl⟩))
  all_goals
    have hst := (by assumption : Below wA.heap.size wA _ ∧ _).1
    go_wp2
    go_ret
    exact ⟨ret_i (by have := HF.out; omega), HB.out.trans (hst.mono HB.out.size)⟩

theorem IsRim.entAt {B : Gd} {w : World} {q : Qh} {v : IV} (h : IsRim B w q v) {c : Nat} (hc : c < v.t.length) :
    ∃ g cap, q.vt = .slice (some ⟨g, 0, none⟩) v.t.length cap ∧ g < w.heap.size ∧ w.cell? ⟨g, c * 2, none⟩ = some (.int .i64 (v.t.getD c (0, 0)).1) ∧ w.cell? ⟨g, c * 2 + 1, none⟩ = some (.int .i64 (v.t.getD c (0, 0)).2) := by
  obtain ⟨g, cap, hv, _, hg⟩ := h.own.form (by omega)
  have ho := h.own
  rw [hv] at ho
  obtain ⟨h1, h2⟩ := entV_at v.t c hc
  refine ⟨g, cap, hv, hg, ?_, ?_⟩
  · rw [ho.cellAt (c * 2) (by omega)]; exact h1
  · rw [ho.cellAt (c * 2 + 1) (by omega)]; exact h2

theorem IsRim.heldAt {B : Gd} {w : World} {q : Qh} {v : IV} (h : IsRim B w q v) {k : Nat} (hk : k < v.held.length) :
    ∃ g cap, q.vh = .slice (some ⟨g, 0, none⟩) v.held.length cap ∧ w.cell? ⟨g, k, none⟩ = some (.int .i64 (v.held.getD k 0 : Int)) := by
  obtain ⟨g, cap, hv, hc, _, _⟩ := ownsRow_cell h.held k hk
  refine ⟨g, cap, hv, ?_⟩
  rw [hc]
  simp [natV, List.getElem?_eq_getElem hk, List.getD]

theorem any_take_succ {α : Type} (l : List α) (f : α → Bool) (d : α) (k : Nat) (h : k < l.length) : (l.take (k + 1)).any f = ((l.take k).any f || f (l.getD k d)) := by
  rw [List.take_succ_eq_append_getElem h, List.any_append]
  congr 1
  rw [List.getD_eq_getElem?_getD, List.getElem?_eq_getElem h]
  simp

theorem any_of_take {α : Type} (l : List α) (f : α → Bool) (k : Nat) (h : (l.take k).any f = true) : l.any f = true := by
  rw [List.any_eq_true] at h ⊢
  obtain ⟨x, hx, hf⟩ := h
  exact ⟨x, List.mem_of_mem_take hx, hf⟩

set_option maxRecDepth 100000 in
set_option maxHeartbeats 1000000 in
theorem open_rim {B : Gd} {q : Qh} {v : IV} (p : Nat) (w : World) (h : IsRim B w q v) (hl : v.t.length ≤ 32) (hh : v.held.length ≤ 1000000000) :
    Calls Tryz.prog 90 #[.pointer (some ⟨q.p, 0, none⟩), .int .i64 (p : Int)] w fun e w' => e = .returned (.bool (v.openB p)) ∧ w' = w := by
  obtain ⟨c0, c1, c2, c3, c4, c5, fz⟩ := h.cells
  obtain ⟨⟨a, cap, e4⟩, a5, cap5, e5⟩ := rim_shape h
  have HE4 := toHid e4
  have HE5 := toHid e5
  rw [e4] at c4
  rw [e5] at c5
  have HI := toHid h
  have HUS : Hid (∀ k, k < v.t.length → (v.t.take (k + 1)).any (fun e => decide (e = (2, (p : Int)))) = ((v.t.take k).any (fun e => decide (e = (2, (p : Int)))) || decide (v.t.getD k (0, 0) = (2, (p : Int))))) := fun k hk => any_take_succ v.t _ (0, 0) k hk
  have HUT : Hid (∀ k, (v.t.take k).any (fun e => decide (e = (2, (p : Int)))) = true → v.openB p = false) := fun k hk => by
    unfold IV.openB IV.usedB
    rw [any_of_take _ _ k hk]; rfl
  have HUF : Hid ((v.t.take v.t.length).any (fun e => decide (e = (2, (p : Int)))) = false → v.openB p = !v.heldB p) := fun hk => by
    unfold IV.openB IV.usedB
    rw [List.take_length] at hk
    rw [hk]; rfl
  have HHS : Hid (∀ k, k < v.held.length → (v.held.take (k + 1)).any (fun x => decide (x = p)) = ((v.held.take k).any (fun x => decide (x = p)) || decide (v.held.getD k 0 = p))) := fun k hk => any_take_succ v.held _ 0 k hk
  have HHT : Hid (∀ k, (v.held.take k).any (fun x => decide (x = p)) = true → v.heldB p = true) := fun k hk => any_of_take _ _ k hk
  have HHF : Hid ((v.held.take v.held.length).any (fun x => decide (x = p)) = false → v.heldB p = false) := fun hk => by rw [List.take_length] at hk; exact hk
  clear e4 e5 h c0 c1 c2 c3 fz
  generalize hn : v.t.length = n at c4 hl HUS HUF
  generalize hm : v.held.length = m at c5 hh HHS HHF
  have HN := toHid hn
  have HM := toHid hm
  clear hn hm
  have HU0 : Hid ((v.t.take 0).any (fun e => decide (e = (2, (p : Int)))) = false) := rfl
  have HH0 : Hid ((v.held.take 0).any (fun x => decide (x = p)) = false) := rfl
  obtain ⟨U, hU⟩ : ∃ U : Nat → Bool, U = fun k => (v.t.take k).any (fun e => decide (e = (2, (p : Int)))) := ⟨_, rfl⟩
  obtain ⟨G, hG⟩ : ∃ G : Nat → Bool, G = fun k => (v.held.take k).any (fun x => decide (x = p)) := ⟨_, rfl⟩
  have HUS2 : Hid (∀ k, k < n → U (k + 1) = (U k || decide (v.t.getD k (0, 0) = (2, (p : Int))))) := fun k hk => by rw [hU]; exact HUS.out k hk
  have HUT2 : Hid (∀ k, U k = true → v.openB p = false) := fun k hk => by rw [hU] at hk; exact HUT.out k hk
  have HUF2 : Hid (U n = false → v.openB p = !v.heldB p) := fun hk => by rw [hU] at hk; exact HUF.out hk
  have HU02 : Hid (U 0 = false) := by rw [hU]; exact HU0
  have HHS2 : Hid (∀ k, k < m → G (k + 1) = (G k || decide (v.held.getD k 0 = p))) := fun k hk => by rw [hG]; exact HHS.out k hk
  have HHT2 : Hid (∀ k, G k = true → v.heldB p = true) := fun k hk => by rw [hG] at hk; exact HHT.out k hk
  have HHF2 : Hid (G m = false → v.heldB p = false) := fun hk => by rw [hG] at hk; exact HHF.out hk
  have HH02 : Hid (G 0 = false) := by rw [hG]; exact HH0
  clear hU hG HUS HUT HUF HU0 HHS HHT HHF HH0
  generalize v.openB p = ob at HUT2 HUF2 ⊢
  generalize v.heldB p = hb at HUF2 HHT2 HHF2
  go_enter Tryz.func90, Tryz.ntmps90
  go_wp2
  go_loop [5] (fun i => ∃ k : Nat, k ≤ n ∧ i = .int .i64 k ∧ U k = false) (fun i => n - (intOf i).toNat)
  case atStart => exact ⟨0, Nat.zero_le _, rfl, HU02.out⟩
  case round =>
    obtain ⟨k, hk, rfl, huk⟩ := hrel
    by_cases hlt : k < n
    · obtain ⟨g, cp, hv, _, t0, t1⟩ := HI.out.entAt (c := k) (by rw [HN.out]; exact hlt)
      rw [HE4.out] at hv
      injection hv with hv1 hv2 hv3
      subst hv1
      have hst := HUS2.out k hlt
      rw [huk, Bool.false_or] at hst
      have k0 : (0 : Int) ≤ (k : Int) := by omega
      have k1 : (k : Int) < (n : Int) := by omega
      generalize v.t.getD k (0, 0) = e at t0 t1 hst
      obtain ⟨y0, y1⟩ := e
      simp only at t0 t1
      have HUT := toHid (HUT2.out (k + 1))
      have HST := toHid hst
      clear hst huk HUS2 HUT2
      by_cases h2 : y0 = 2
      · have g2 : (y0 == 2) = true := by simpa using h2
        by_cases h3 : y1 = (p : Int)
        · have g3 : (y1 == (p : Int)) = true := by simpa using h3
          have HOB : Hid (ob = false) := HUT.out (by rw [HST.out]; exact decide_eq_true (by rw [h2, h3]))
          clear h2 h3 HST HUT
          go_wp2
          go_ret
          exact ⟨ret_b HOB.out.symm, rfl⟩
        · have g3 : (y1 == (p : Int)) = false := by simpa using h3
          have HNX : Hid (U (k + 1) = false) := by unfold Hid; rw [HST.out]; exact decide_eq_false (fun e => h3 (by injection e))
          clear h2 h3 HST HUT
          go_wp2
          go_round
          case rel => exact ⟨k + 1, by omega, by go_num, HNX.out⟩
          case measure => simp [intOf]; omega
      · have g2 : (y0 == 2) = false := by simpa using h2
        have HNX : Hid (U (k + 1) = false) := by unfold Hid; rw [HST.out]; exact decide_eq_false (fun e => h2 (by injection e))
        clear h2 HST HUT
        go_wp2
        go_round
        case rel => exact ⟨k + 1, by omega, by go_num, HNX.out⟩
        case measure => simp [intOf]; omega
    · have hkn : k = n := by omega
      subst hkn
      have HOB := toHid (HUF2.out huk)
      clear huk HUF2 HUT2 HUS2
      go_wp2
      go_loop [6] (fun i => ∃ j : Nat, j ≤ m ∧ i = .int .i64 j ∧ G j = false) (fun i => m - (intOf i).toNat)
      case atStart => exact ⟨0, Nat.zero_le _, rfl, HH02.out⟩
      case round =>
        obtain ⟨j, hj, rfl, hgj⟩ := hrel
        by_cases hlt2 : j < m
        · obtain ⟨g, cp, hv, t0⟩ := HI.out.heldAt (k := j) (by rw [HM.out]; exact hlt2)
          rw [HE5.out] at hv
          injection hv with hv1 hv2 hv3
          subst hv1
          have hst := HHS2.out j hlt2
          rw [hgj, Bool.false_or] at hst
          have j0 : (0 : Int) ≤ (j : Int) := by omega
          have j1 : (j : Int) < (m : Int) := by omega
          generalize v.held.getD j 0 = z at t0 hst
          have HST := toHid hst
          have HHT := toHid (HHT2.out (j + 1))
          clear hst hgj HHS2 HHT2
          by_cases h3 : z = p
          · have g3 : ((z : Int) == (p : Int)) = true := by simp; omega
            have HO2 : Hid (ob = false) := by unfold Hid; rw [HOB.out, HHT.out (by rw [HST.out]; exact decide_eq_true h3)]; rfl
            clear HST HHT h3
            go_wp2
            go_ret
            exact ⟨ret_b HO2.out.symm, rfl⟩
          · have g3 : ((z : Int) == (p : Int)) = false := by simp; omega
            have HNX : Hid (G (j + 1) = false) := by unfold Hid; rw [HST.out]; exact decide_eq_false h3
            clear HST HHT h3
            go_wp2
            go_round
            case rel => exact ⟨j + 1, by omega, by go_num, HNX.out⟩
            case measure => simp [intOf]; omega
        · have hjm : j = m := by omega
          subst hjm
          have HO2 : Hid (ob = true) := by unfold Hid; rw [HOB.out, HHF2.out hgj]; rfl
          clear hgj HHF2 HHS2 HHT2
          go_wp2
          go_ret
          exact ⟨ret_b HO2.out.symm, rfl⟩

set_option maxRecDepth 100000 in
set_option maxHeartbeats 1000000 in
theorem Free_rim {B : Gd} {m : Nat} {q : Qh} {v : IV} (w : World) (h : IsRim B w q v) (hok : v.ok m) (hm : m ≤ 1000000000) :
    Calls Tryz.prog 109 #[.pointer (some ⟨q.p, 0, none⟩)] w fun e w' => e = .returned (.int .i64 (v.freeL.length : Int)) ∧ w' = w := by
  obtain ⟨c0, c1, c2, c3, c4, c5, fz⟩ := h.cells
  have hbo := HV.of_ok hok.h
  have hlen := hok.len
  have hfew := hok.few
  have HOP : Hid (∀ k : Nat, Calls Tryz.prog 90 #[.pointer (some ⟨q.p, 0, none⟩), .int .i64 (k : Int)] w fun e w' => e = .returned (.bool (v.openB k)) ∧ w' = w) := fun k => open_rim k w h (by omega) (by omega)
  obtain ⟨P, hP⟩ : ∃ P : Nat, v.h.p = (P : Int) := ⟨v.h.p.toNat, by omega⟩
  have HFL : Hid (v.freeL = v.freeTo P) := by unfold Hid IV.freeL; rw [hP]; rfl
  have HFS : Hid (∀ k, (v.freeTo (k + 1)).length = (v.freeTo k).length + (if v.openB k = true then 1 else 0)) := fun k => by
    rw [v.freeTo_succ, List.length_append]; split <;> rfl
  have HF0 : Hid ((v.freeTo 0).length = 0) := rfl
  have HFN : Hid (∀ k, (v.freeTo k).length ≤ k) := v.freeTo_len
  rw [hP] at c2
  rw [HFL.out]
  have hp40 : P ≤ 40 := by omega
  clear h hok hbo hlen hfew c0 c1 c3 c4 c5 fz HFL hP
  obtain ⟨F, hF⟩ : ∃ F : Nat → Nat, F = fun k => (v.freeTo k).length := ⟨_, rfl⟩
  have HFS2 : Hid (∀ k, F (k + 1) = F k + (if v.openB k = true then 1 else 0)) := fun k => by rw [hF]; exact HFS.out k
  have HF02 : Hid (F 0 = 0) := by rw [hF]; exact HF0
  have HFN2 : Hid (∀ k, F k ≤ k) := fun k => by rw [hF]; exact HFN.out k
  have HFE : Hid ((v.freeTo P).length = F P) := by rw [hF]; rfl
  rw [HFE.out]
  clear hF HFS HF0 HFN HFE
  go_enter Tryz.func109, Tryz.ntmps109
  go_wp2
  go_loop [3, 4] (fun n i => ∃ k : Nat, k ≤ P ∧ i = .int .i64 k ∧ n = .int .i64 (F k : Int)) (fun _ i => P - (intOf i).toNat)
  case atStart => exact ⟨0, Nat.zero_le _, rfl, by rw [HF02.out]; rfl⟩
  case round =>
    obtain ⟨k, hk, rfl, rfl⟩ := hrel
    by_cases hlt : k < P
    · have HO := toHid (HOP.out k)
      have hst := HFS2.out k
      have hfn := HFN2.out k
      generalize hob : v.openB k = ob at HO hst
      clear hob
      have HST := toHid hst
      clear hst HOP HFS2
      cases ob with
      | true =>
        have HNX : Hid (F (k + 1) = F k + 1) := by unfold Hid; rw [HST.out]; rfl
        clear HST
        go_wp2_with (go_at_call 90; refine HO.out.mono ?_; rintro e w' ⟨rfl, hw⟩; have hw' := hw.symm; subst hw'; clear hw)
        go_round
        case rel => exact ⟨k + 1, by omega, by go_num, by rw [HNX.out]; go_num⟩
        case measure => simp [intOf]; omega
      | false =>
        have HNX : Hid (F (k + 1) = F k) := by unfold Hid; rw [HST.out]; rfl
        clear HST
        go_wp2_with (go_at_call 90; refine HO.out.mono ?_; rintro e w' ⟨rfl, hw⟩; have hw' := hw.symm; subst hw'; clear hw)
        go_round
        case rel => exact ⟨k + 1, by omega, by go_num, by rw [HNX.out]⟩
        case measure => simp [intOf]; omega
    · have hkp : k = P := by omega
      subst hkp
      go_wp2
      go_ret
      exact ⟨rfl, rfl⟩
end Go.Proofs.YtjegaljdindfaabGreatDoor

namespace Go.Proofs.YtjegaljdindfaabGreatDoor
open Go.RowKit Go.Maps
attribute [local go_sem ↓] Go.wp_at_zero Go.wp_at_succ

/- What an act leaves. -/
structure Led (B : Gd) (w : World) (q q' : Qh) (V : IV) (w' : World) : Prop where
  p : q'.p = q.p
  dp : q'.d.p = q.d.p
  vt : ∀ k, q'.vt.ownBlock = some k → q.vt.ownBlock = some k ∨ w.heap.size ≤ k
  rim : IsRim B w' q' V
  kept : KeptR B w w'

def DidR (B : Gd) (w : World) (q : Qh) (V : IV) (f : Int) (e : Ending) (w' : World) : Prop := ∃ q' : Qh, e = .returned (.int .i64 f) ∧ Led B w q q' V w'

theorem Led.refl {B : Gd} {w : World} {q : Qh} {v : IV} (h : IsRim B w q v) : Led B w q q v w := ⟨rfl, rfl, fun _ hk => .inl hk, h, KeptR.refl _ _⟩

theorem Led.trans {B : Gd} {w w1 w2 : World} {q q1 q2 : Qh} {V1 V2 : IV} (a : Led B w q q1 V1 w1) (b : Led B w1 q1 q2 V2 w2) : Led B w q q2 V2 w2 :=
  ⟨b.p.trans a.p, b.dp.trans a.dp, fun k hk => by
    rcases b.vt k hk with h | h
    · exact a.vt k h
    · exact .inr (Nat.le_trans a.kept.size h), b.rim, KeptR.trans a.kept b.kept⟩

theorem Led.below {B : Gd} {w w1 : World} {q : Qh} {v : IV} (h : IsRim B w q v) (hb : Below w.heap.size w w1) : Led B w q q v w1 := ⟨rfl, rfl, fun _ hk => .inl hk, h.below hb, KeptR.of_below hb⟩

theorem Led.dev {B : Gd} {w w' : World} {q : Qh} {v : IV} (h : IsRim B w q v) {q' : Rh} {d' : DV} (hd : IsRefG B w' q' d') (hp : q'.p = q.d.p) (hk : Kept q.d.fp w w') (hv : ∀ r, q'.v1.ownBlock = some r → q.d.v1.ownBlock = some r ∨ w.heap.size ≤ r) :
    Led B w q { q with d := q' } { v with d := d' } w' := by
  obtain ⟨h1, h2⟩ := h.devd hd hp hk hv
  exact ⟨rfl, hp, fun _ hk => .inl hk, h1, h2⟩

set_option maxRecDepth 100000 in
set_option maxHeartbeats 1000000 in
theorem flush_rim {B : Gd} {n m : Nat} {q : Qh} {v : IV} (w : World) (h : IsRim B w q v) (hd : v.d.fine n m) :
    Calls Tryz.prog 93 #[.pointer (some ⟨q.p, 0, none⟩)] w fun e w' => ∃ q' : Qh, e = .returned (.tuple #[]) ∧ Led B w q q' v.flush w' := by
  obtain ⟨c0, c1, c2, c3, c4, c5, fz⟩ := h.cells
  have HI := toHid h
  have HF := toHid (refFlush_any w h.dev.toIsRef hd.ok hd.sn)
  clear c1 c2 c3 c4 c5 fz h hd
  go_enter Tryz.func93, Tryz.ntmps93
  go_wp2_with fail
  refine HF.out.mono ?_
  rintro e w1 ⟨rfl, hd1, hk1⟩
  have hl := Led.dev HI.out (HI.out.dev.nilled hd1) rfl hk1 (fun r e => by cases e)
  obtain ⟨h2, k2⟩ := hl.rim.setP 5 (.slice none 0 0) (q2 := { q with d := { q.d with v1 := .slice none 0 0, v2 := .slice none 0 0 }, vh := .slice none 0 0 }) (v2 := v.flush) rfl rfl rfl rfl hl.rim.own (World.ownsRow_nil _ _ _ _) (fun k e => by cases e) hl.rim.tB (fun k e => by cases e)
  have HL : Hid (Led B w q { q with d := { q.d with v1 := .slice none 0 0, v2 := .slice none 0 0 }, vh := .slice none 0 0 } v.flush (w1.setCell ⟨q.p, 5, none⟩ (.slice none 0 0))) := ⟨rfl, rfl, fun _ hk => .inl hk, h2, KeptR.trans hl.kept k2⟩
  have c5 := hl.rim.cells.2.2.2.2.2.1
  have f5 := hl.rim.cells.2.2.2.2.2.2 5
  clear hl h2 k2 hd1 hk1 HF HI c0
  go_wp2
  go_end0
  exact ⟨_, rfl, HL.out⟩

structure RimAt (B : Gd) (w : World) (q : Qh) (v : IV) (d : DV) (q' : Qh) (W : World) : Prop where
  led : Led B w q q' { v with d := d } W

theorem RimAt.drew {B : Gd} {w W : World} {q q' : Qh} {v : IV} {d : DV} (h : RimAt B w q v d q' W) : RimAt B w q v d q' W.drew := ⟨h.led.trans (Led.below h.led.rim (Below.refl _ _).drew)⟩

theorem extract_chunk2 (s : ByteArray) (k : Nat) : (s.extract (16 * k) (16 * k + 16)).data.toList = chunk s k := by
  have := extract_chunk s k
  rw [show k * 16 = 16 * k by omega, show (k + 1) * 16 = 16 * k + 16 by omega] at this
  exact this

set_option maxRecDepth 100000 in
set_option maxHeartbeats 1000000 in
theorem sectors_rim {B : Gd} {m : Nat} {q : Qh} {v : IV} (a c : Nat) (s : ByteArray) (w : World) (h : IsRim B w q v) (hd : v.d.fine v.d.fl.length m) (hm : m + 4 < 1000000000) (hB : B.top ≤ w.heap.size) (hs : s.size = c * 16) (hf : c ≤ 4) (ha : a + c ≤ v.d.fl.length) :
    Calls Tryz.prog 91 #[.pointer (some ⟨q.p, 0, none⟩), .int .i64 (a : Int), .string s] w (DidR B w q { v with d := (v.d.puts a s c).1 } (v.d.puts a s c).2) := by
  have hn2 := hd.ok.n2
  have HFI : Hid (∀ k, k ≤ c → (v.d.puts a s k).1.fine v.d.fl.length (m + k)) := fun k hk => hd.puts hs (by omega) (by omega) k hk
  have HST : Hid (∀ k, (v.d.puts a s k).2 = 0 → v.d.puts a s (k + 1) = ((v.d.puts a s k).1.put (a + k) (chunk s k), (v.d.puts a s k).1.putF)) := fun k hk => DV.puts_yes hk
  have HEN : Hid (∀ k, (v.d.puts a s k).2 ≠ 0 → k ≤ c → v.d.puts a s c = v.d.puts a s k) := fun k hk hkc => DV.puts_no hk c hkc
  have HFF : Hid (∀ k, (v.d.puts a s k).2 = 0 ∨ (v.d.puts a s k).2 = 7) := fun k => DV.puts_F _ _ _ _
  have H00 : Hid (v.d.puts a s 0 = (v.d, 0)) := rfl
  generalize v.d.puts a s = D at HFI HST HEN H00 HFF ⊢
  have HI := toHid h
  have hbc : a + c ≤ 200 := by omega
  clear h hd
  go_enter Tryz.func91, Tryz.ntmps91
  go_wp2
  go_loopw [7] (fun i wr => ∃ (k : Nat) (y : Qh), k ≤ c ∧ i = .int .i64 k ∧ (D k).2 = 0 ∧ RimAt B w q v (D k).1 y wr) (fun i _ => c - (intOf i).toNat)
  case atStart => exact ⟨0, q, Nat.zero_le _, rfl, by rw [H00.out], ⟨by rw [H00.out]; exact Led.refl HI.out⟩⟩
  case round =>
    obtain ⟨k, y, hkc, rfl, hf0, hat⟩ := hrel
    have k7 : IntKind.i64.wrap (16 * (k : Int)) = 16 * (k : Int) := IntWalk.i64_in _ (by omega)
    by_cases hlt : k < c
    · have hstep := HST.out k hf0
      have hfk := HFI.out k (by omega)
      have hBk : B.top ≤ wr.heap.size := Nat.le_trans hB hat.led.kept.size
      have HW : Hid (∀ W : World, RimAt B w q v (D k).1 y W → wr.heap.size ≤ W.heap.size → Calls Tryz.prog 80 #[.pointer (some ⟨y.d.p, 0, none⟩), .int .i64 ((a : Int) + (k : Int)), .string (s.extract (16 * k) (16 * k + 16))] W fun e w' =>
          ∃ y2 : Qh, e = .returned (.int .i64 (D (k + 1)).2) ∧ RimAt B w q v (D (k + 1)).1 y2 w' ∧ w'.cell? ⟨q.p, 0, none⟩ = some (.pointer (some ⟨y.d.p, 0, none⟩))) := fun W hi hsz => by
        have h1 := rWrite_any (a + k) (s.extract (16 * k) (16 * k + 16)) W hi.led.rim.dev hfk (by omega) (Nat.le_trans hBk hsz) (by rw [ByteArray.size_extract]; omega) (by omega)
        rw [show (((a + k : Nat) : Int)) = (a : Int) + (k : Int) by omega] at h1
        refine h1.mono ?_
        rintro e w' ⟨q2, rfl, hp2, hd2, hk2, hv2⟩
        have hl := Led.dev hi.led.rim hd2 hp2 hk2 hv2
        refine ⟨{ y with d := q2 }, by rw [hstep], ⟨?_⟩, ?_⟩
        · rw [hstep, ← extract_chunk2]
          exact hi.led.trans hl
        · have := hl.rim.cells.1
          rw [show ({ y with d := q2 } : Qh).p = q.p from hi.led.p, show ({ y with d := q2 } : Qh).d.p = y.d.p from hp2] at this
          exact this
      have c0 : wr.cell? ⟨q.p, 0, none⟩ = some (.pointer (some ⟨y.d.p, 0, none⟩)) := by have := hat.led.rim.cells.1; rw [hat.led.p] at this; exact this
      have HA := toHid hat
      have k0 : (0 : Int) ≤ (k : Int) := by omega
      have k2 : 16 * (k : Int) + 16 ≤ (s.size : Int) := by omega
      have k3 : (0 : Int) ≤ 16 * (k : Int) := by omega
      have k4 : (0 : Int) ≤ 16 * (k : Int) + 16 := by omega
      have k5 : (16 * (k : Int)).toNat = 16 * k := by omega
      have k6 : (16 * (k : Int) + 16).toNat = 16 * k + 16 := by omega
      have k9 : IntKind.i64.wrap (16 * (k : Int) + 16) = 16 * (k : Int) + 16 := IntWalk.i64_in _ (by omega)
      have k10 : IntKind.i64.wrap ((a : Int) + (k : Int)) = (a : Int) + (k : Int) := IntWalk.i64_in _ (by omega)
      have k11 : 16 * (k : Int) ≤ 16 * (k : Int) + 16 := by omega
      have k12 : 16 * (k : Int) < (s.size : Int) := by omega
      clear hs hstep hfk hf0 hat HFI HST
      have hdr : wr.drew.cell? ⟨q.p, 0, none⟩ = some (.pointer (some ⟨y.d.p, 0, none⟩)) := c0
      have HAD : Hid (RimAt B w q v (D k).1 y wr.drew ∧ wr.heap.size ≤ wr.drew.heap.size) := ⟨HA.out.drew, Nat.le_refl _⟩
      go_wp2
      go_region_held3 (fun W => W.cell? ⟨q.p, 0, none⟩ = some (.pointer (some ⟨y.d.p, 0, none⟩)))
        (first | (exact hdr) | assumption)
        (first
          | (go_at_call 80; refine (HW.out _ HAD.out.1 HAD.out.2).mono ?_; rintro e w3 ⟨y2, rfl, hat2, hcl2⟩))
      have HA2 := toHid hat2
      clear hat2 hcl2 HA HAD HW hdr c0
      by_cases hz : (D (k + 1)).2 = 0
      · have HZ := toHid hz
        rw [hz]
        clear hz
        go_wp2
        go_roundw
        case rel =>
          have fin : ∃ (k1 : Nat) (y1 : Qh), k1 ≤ c ∧ Value.int .i64 ((k : Int) + 1) = .int .i64 k1 ∧ (D k1).2 = 0 ∧ RimAt B w q v (D k1).1 y1 w3 := ⟨k + 1, y2, by omega, by go_num, HZ.out, HA2.out⟩
          first | exact fin | ((repeat apply Exists.intro); exact ⟨fin, rfl⟩)
        case measure => simp [intOf]; omega
      · have HE := HEN.out (k + 1) hz (by omega)
        have HEE := toHid HE
        have h7 : (D (k + 1)).2 = 7 := by rcases HFF.out (k + 1) with h | h; exact absurd h hz; exact h
        have H7 := toHid h7
        rw [h7]
        clear hz HE h7
        go_wp2
        go_ret
        refine ⟨y2, ?_, ?_⟩
        · rw [HEE.out, H7.out]; rfl
        · rw [HEE.out]; exact HA2.out.led
    · have hkc2 : k = c := by omega
      subst hkc2
      have HA := toHid hat
      have HF0 := toHid hf0
      have k12 : decide (16 * (k : Int) < (s.size : Int)) = false := by simp; omega
      clear hat hf0 HFI HST HEN hs
      go_wp2
      go_ret
      exact ⟨y, by rw [HF0.out]; rfl, HA.out.led⟩
end Go.Proofs.YtjegaljdindfaabGreatDoor
