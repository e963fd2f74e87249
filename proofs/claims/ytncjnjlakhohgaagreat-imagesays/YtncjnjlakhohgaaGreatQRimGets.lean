/-
The small calls of the document's own image: is there a cluster, where a place begins, how many sectors it needs, is a place free, how many are, its flush, what is read.
-/
import Derived.Test.YtncjnjlakhohgaaGreatQRimMem
import Derived.Deep.RegionHeld3
namespace Go.Proofs.YtncjnjlakhohgaaGreat
open Go.RowKit Go.Maps
attribute [local go_sem ↓] Go.wp_at_zero Go.wp_at_succ

theorem noughtsN_any (n : Nat) (w : World) (hn : n ≤ 1000) :
    Calls Tryz.prog 24 #[.int .i64 (n : Int)] w fun e w' => e = .returned (.string (bytesOf (List.replicate n 0))) ∧ Below w.heap.size w w' := by
  obtain ⟨i0, hi0, hz0, hz1, hz2⟩ := info_parts info_byte
  obtain ⟨w1, hmk, hown, hgr⟩ := run_make_full (P := Tryz.prog) w w.heap.size 106 5 i0 (.int .u8 0) 1 Tryz.underlying106 hi0 hz0 hz1 .i64 .i64 n (by rw [hz2]; omega) (by unfold maxLen; omega) (Nat.le_refl _)
  have hb : Below w.heap.size w w1 := (Below.refl _ _).grown hgr (Nat.le_refl _) (fun k e => by cases e)
  have hr : w1.rangeAt w.heap.size 0 (secV (List.replicate n 0)) := fun j v hv => by
    have hj : j < n := by
      rcases Nat.lt_or_ge j n with q | q
      · exact q
      · rw [List.getElem?_eq_none (by rw [secV_len, List.length_replicate]; exact q)] at hv; cases hv
    rw [Nat.zero_add, hown.cellAt j (by omega)]
    have e : (madeCells (Value.int .u8 0).cells (n * 1)).toList = secV (List.replicate n 0) := by
      rw [Nat.mul_one]
      show (madeCells #[Value.int .u8 0] n).toList = _
      rw [toList_madeCells_one]; simp [secV]
    rw [e]; exact hv
  have hcv := conv_sec n n (by simp) hr
  have HB : Hid (Below w.heap.size w w1) := hb
  clear hr hown hgr hb hi0 hz0 hz1 hz2
  generalize bytesOf (List.replicate n 0) = S at hcv ⊢
  go_enter Tryz.func24, Tryz.ntmps24
  go_wp2
  go_ret
  exact ⟨rfl, HB.out⟩

set_option maxRecDepth 100000 in
set_option maxHeartbeats 1000000 in
theorem there_rim {B : Nat} {q : Qh} {v : IV} (c : Int) (w : World) (h : IsRim B w q v) (hl : (v.t.length : Int) = v.h.c) :
    Calls Tryz.prog 63 #[.pointer (some ⟨q.p, 0, none⟩), .int .i64 c] w fun e w' => e = .returned (.bool (v.there c)) ∧ w' = w := by
  obtain ⟨c0, c1, c2, c3, c4, c5, fz⟩ := h.cells
  clear h c0 c2 c3 c4 c5 fz
  rw [← hl] at c1
  unfold IV.there
  generalize v.t.length = n at c1 ⊢
  clear hl
  by_cases h0 : 0 ≤ c
  · have g0 : decide (0 ≤ c) = true := decide_eq_true h0
    have HF : Hid (decide (0 ≤ c ∧ c < (n : Int)) = decide (c < (n : Int))) := by unfold Hid; simp [h0]
    go_enter Tryz.func63, Tryz.ntmps63
    go_wp2
    go_ret
    exact ⟨ret_b HF.out.symm, rfl⟩
  · have g0 : decide (0 ≤ c) = false := decide_eq_false h0
    have HF : Hid (decide (0 ≤ c ∧ c < (n : Int)) = false) := by unfold Hid; simp [h0]
    go_enter Tryz.func63, Tryz.ntmps63
    go_wp2
    go_ret
    exact ⟨by first | exact ret_b HF.out.symm | rfl, rfl⟩

set_option maxRecDepth 100000 in
set_option maxHeartbeats 1000000 in
theorem first_rim {B : Nat} {q : Qh} {v : IV} (k : Nat) (w : World) (h : IsRim B w q v) (hk : v.h.ok = true) (hq : k ≤ 40) :
    Calls Tryz.prog 81 #[.pointer (some ⟨q.p, 0, none⟩), .int .i64 (k : Int)] w fun e w' => e = .returned (.int .i64 (beginN v.h k : Int)) ∧ w' = w := by
  obtain ⟨c0, c1, c2, c3, c4, c5, fz⟩ := h.cells
  have hbo := HV.of_ok hk
  have HR : Hid (∀ W : World, Calls Tryz.prog 34 #[.int .i64 v.h.c] W fun e w' => e = .returned (.int .i64 (rowsN v.h.c.toNat : Int)) ∧ w' = W) := fun W => by have := refRows_any v.h.c.toNat W (by omega); rw [show ((v.h.c.toNat : Nat) : Int) = v.h.c by omega] at this; exact this
  have HF : Hid (beginN v.h k = 1 + rowsN v.h.c.toNat + 4 * k) := rfl
  have hrn : rowsN v.h.c.toNat ≤ 10 := by unfold rowsN; omega
  generalize rowsN v.h.c.toNat = rn at HR HF hrn
  generalize beginN v.h k = bn at HF ⊢
  clear hk hbo h c0 c2 c3 c4 c5 fz
  generalize v.h.c = c at c1 HR
  go_enter Tryz.func81, Tryz.ntmps81
  go_wp2_with (go_at_call 34; refine (HR.out _).mono ?_; rintro e w' ⟨rfl, hw⟩; have hw' := hw.symm; subst hw'; clear hw)
  go_ret
  exact ⟨ret_i (by have := HF.out; omega), rfl⟩

set_option maxRecDepth 100000 in
set_option maxHeartbeats 1000000 in
theorem refNeed_any (c p b : Int) (w : World) (hk : HV.ok ⟨c, p, b⟩ = true) :
    Calls Tryz.prog 13 #[.agg #[.int .i64 c, .int .i64 p, .int .i64 b]] w fun e w' => e = .returned (.int .i64 (needN ⟨c, p, b⟩ : Int)) ∧ Below w.heap.size w w' := by
  have hbo := HV.of_ok hk
  simp only at hbo
  have HR : Hid (∀ W : World, Calls Tryz.prog 34 #[.int .i64 c] W fun e w' => e = .returned (.int .i64 (rowsN c.toNat : Int)) ∧ w' = W) := fun W => by have := refRows_any c.toNat W (by omega); rw [show ((c.toNat : Nat) : Int) = c by omega] at this; exact this
  have HF : Hid ((needN ⟨c, p, b⟩ : Int) = 1 + (rowsN c.toNat : Int) + 4 * p) := by unfold Hid needN beginN; simp only; omega
  have hrn : rowsN c.toNat ≤ 10 := by unfold rowsN; omega
  have hp := hbo.2.2.1
  have hp2 := hbo.2.2.2.1
  generalize rowsN c.toNat = rn at HR HF hrn
  generalize (needN ⟨c, p, b⟩ : Int) = bn at HF ⊢
  clear hk hbo
  have x0 : (w.alloc (.cells #[.int .i64 c, .int .i64 p, .int .i64 b] 23)).cell? ⟨w.heap.size, 0, none⟩ = some (.int .i64 c) := by rw [cell_of_row _ _ _ _ _ _ (heap_alloc_new w _)]; rfl
  have x1 : (w.alloc (.cells #[.int .i64 c, .int .i64 p, .int .i64 b] 23)).cell? ⟨w.heap.size, 1, none⟩ = some (.int .i64 p) := by rw [cell_of_row _ _ _ _ _ _ (heap_alloc_new w _)]; rfl
  have HB : Hid (Below w.heap.size w (w.alloc (.cells #[.int .i64 c, .int .i64 p, .int .i64 b] 23))) := (Below.refl _ _).alloc (Nat.le_refl _) _
  go_enter Tryz.func13, Tryz.ntmps13
  go_wp2
  generalize w.alloc (.cells #[.int .i64 c, .int .i64 p, .int .i64 b] 23) = wA at x0 x1 HB ⊢
  have v1 : IntKind.i64.wrap (1 + (rn : Int)) = 1 + (rn : Int) := IntWalk.i64_in _ (by omega)
  have v2 : IntKind.i64.wrap (4 * p) = 4 * p := IntWalk.i64_in _ (by omega)
  have v3 : IntKind.i64.wrap (1 + (rn : Int) + 4 * p) = 1 + (rn : Int) + 4 * p := IntWalk.i64_in _ (by omega)
  have hd0 : Below wA.heap.size wA wA.drew := Below.drew (Below.refl _ _)
  go_region_held3 (fun W => Below wA.heap.size wA W ∧ W.cell? ⟨w.heap.size, 0, none⟩ = some (.int .i64 c) ∧ W.cell? ⟨w.heap.size, 1, none⟩ = some (.int .i64 p))
    (first | (exact ⟨hd0, x0, x1⟩) | assumption)
    (first
      | (go_at_call 34; refine (HR.out _).mono ?_; rintro e w' ⟨rfl, rfl⟩))
  all_goals
    have hst := (by assumption : Below wA.heap.size wA _ ∧ _).1
    go_wp2
    go_ret
    exact ⟨ret_i (by have := HF.out; omega), HB.out.trans (hst.mono HB.out.size)⟩

theorem IsRim.entAt {B : Nat} {w : World} {q : Qh} {v : IV} (h : IsRim B w q v) {c : Nat} (hc : c < v.t.length) :
    ∃ g cap, q.vt = .slice (some ⟨g, 0, none⟩) v.t.length cap ∧ g < w.heap.size ∧ w.cell? ⟨g, c * 2, none⟩ = some (.int .i64 (v.t.getD c (0, 0)).1) ∧ w.cell? ⟨g, c * 2 + 1, none⟩ = some (.int .i64 (v.t.getD c (0, 0)).2) := by
  obtain ⟨g, cap, hv, _, hg⟩ := h.own.form (by omega)
  have ho := h.own
  rw [hv] at ho
  obtain ⟨h1, h2⟩ := entV_at v.t c hc
  refine ⟨g, cap, hv, hg, ?_, ?_⟩
  · rw [ho.cellAt (c * 2) (by omega)]; exact h1
  · rw [ho.cellAt (c * 2 + 1) (by omega)]; exact h2

theorem IsRim.heldAt {B : Nat} {w : World} {q : Qh} {v : IV} (h : IsRim B w q v) {k : Nat} (hk : k < v.held.length) :
    ∃ g cap, q.vh = .slice (some ⟨g, 0, none⟩) v.held.length cap ∧ w.cell? ⟨g, k, none⟩ = some (.int .i64 (v.held.getD k 0 : Int)) := by
  obtain ⟨g, cap, hv, hc, _, _⟩ := ownsRow_cell h.held k hk
  refine ⟨g, cap, hv, ?_⟩
  rw [hc]
  simp [natV, List.getElem?_eq_getElem hk, List.getD]

theorem any_take_succ {α : Type} (l : List α) (f : α → Bool) (d : α) (k : Nat) (h : k < l.length) : (l.take (k + 1)).any f = ((l.take k).any f || f (l.getD k d)) := by
  rw [List.take_succ_eq_append_getElem h, List.any_append]
  congr 1
  rw [List.getD_eq_getElem?_getD, List.getElem?_eq_getElem h]
  simp

theorem any_of_take {α : Type} (l : List α) (f : α → Bool) (k : Nat) (h : (l.take k).any f = true) : l.any f = true := by
  rw [List.any_eq_true] at h ⊢
  obtain ⟨x, hx, hf⟩ := h
  exact ⟨x, List.mem_of_mem_take hx, hf⟩

set_option maxRecDepth 100000 in
set_option maxHeartbeats 1000000 in
theorem open_rim {B : Nat} {q : Qh} {v : IV} (p : Nat) (w : World) (h : IsRim B w q v) (hl : v.t.length ≤ 32) (hh : v.held.length ≤ 1000000000) :
    Calls Tryz.prog 82 #[.pointer (some ⟨q.p, 0, none⟩), .int .i64 (p : Int)] w fun e w' => e = .returned (.bool (v.openB p)) ∧ w' = w := by
  obtain ⟨c0, c1, c2, c3, c4, c5, fz⟩ := h.cells
  obtain ⟨⟨a, cap, e4⟩, a5, cap5, e5⟩ := rim_shape h
  have HE4 := toHid e4
  have HE5 := toHid e5
  rw [e4] at c4
  rw [e5] at c5
  have HI := toHid h
  have HUS : Hid (∀ k, k < v.t.length → (v.t.take (k + 1)).any (fun e => decide (e = (2, (p : Int)))) = ((v.t.take k).any (fun e => decide (e = (2, (p : Int)))) || decide (v.t.getD k (0, 0) = (2, (p : Int))))) := fun k hk => any_take_succ v.t _ (0, 0) k hk
  have HUT : Hid (∀ k, (v.t.take k).any (fun e => decide (e = (2, (p : Int)))) = true → v.openB p = false) := fun k hk => by
    unfold IV.openB IV.usedB
    rw [any_of_take _ _ k hk]; rfl
  have HUF : Hid ((v.t.take v.t.length).any (fun e => decide (e = (2, (p : Int)))) = false → v.openB p = !v.heldB p) := fun hk => by
    unfold IV.openB IV.usedB
    rw [List.take_length] at hk
    rw [hk]; rfl
  have HHS : Hid (∀ k, k < v.held.length → (v.held.take (k + 1)).any (fun x => decide (x = p)) = ((v.held.take k).any (fun x => decide (x = p)) || decide (v.held.getD k 0 = p))) := fun k hk => any_take_succ v.held _ 0 k hk
  have HHT : Hid (∀ k, (v.held.take k).any (fun x => decide (x = p)) = true → v.heldB p = true) := fun k hk => any_of_take _ _ k hk
  have HHF : Hid ((v.held.take v.held.length).any (fun x => decide (x = p)) = false → v.heldB p = false) := fun hk => by rw [List.take_length] at hk; exact hk
  clear e4 e5 h c0 c1 c2 c3 fz
  generalize hn : v.t.length = n at c4 hl HUS HUF
  generalize hm : v.held.length = m at c5 hh HHS HHF
  have HN := toHid hn
  have HM := toHid hm
  clear hn hm
  have HU0 : Hid ((v.t.take 0).any (fun e => decide (e = (2, (p : Int)))) = false) := rfl
  have HH0 : Hid ((v.held.take 0).any (fun x => decide (x = p)) = false) := rfl
  obtain ⟨U, hU⟩ : ∃ U : Nat → Bool, U = fun k => (v.t.take k).any (fun e => decide (e = (2, (p : Int)))) := ⟨_, rfl⟩
  obtain ⟨G, hG⟩ : ∃ G : Nat → Bool, G = fun k => (v.held.take k).any (fun x => decide (x = p)) := ⟨_, rfl⟩
  have HUS2 : Hid (∀ k, k < n → U (k + 1) = (U k || decide (v.t.getD k (0, 0) = (2, (p : Int))))) := fun k hk => by rw [hU]; exact HUS.out k hk
  have HUT2 : Hid (∀ k, U k = true → v.openB p = false) := fun k hk => by rw [hU] at hk; exact HUT.out k hk
  have HUF2 : Hid (U n = false → v.openB p = !v.heldB p) := fun hk => by rw [hU] at hk; exact HUF.out hk
  have HU02 : Hid (U 0 = false) := by rw [hU]; exact HU0
  have HHS2 : Hid (∀ k, k < m → G (k + 1) = (G k || decide (v.held.getD k 0 = p))) := fun k hk => by rw [hG]; exact HHS.out k hk
  have HHT2 : Hid (∀ k, G k = true → v.heldB p = true) := fun k hk => by rw [hG] at hk; exact HHT.out k hk
  have HHF2 : Hid (G m = false → v.heldB p = false) := fun hk => by rw [hG] at hk; exact HHF.out hk
  have HH02 : Hid (G 0 = false) := by rw [hG]; exact HH0
  clear hU hG HUS HUT HUF HU0 HHS HHT HHF HH0
  generalize v.openB p = ob at HUT2 HUF2 ⊢
  generalize v.heldB p = hb at HUF2 HHT2 HHF2
  go_enter Tryz.func82, Tryz.ntmps82
  go_wp2
  go_loop [5] (fun i => ∃ k : Nat, k ≤ n ∧ i = .int .i64 k ∧ U k = false) (fun i => n - (intOf i).toNat)
  case atStart => exact ⟨0, Nat.zero_le _, rfl, HU02.out⟩
  case round =>
    obtain ⟨k, hk, rfl, huk⟩ := hrel
    by_cases hlt : k < n
    · obtain ⟨g, cp, hv, _, t0, t1⟩ := HI.out.entAt (c := k) (by rw [HN.out]; exact hlt)
      rw [HE4.out] at hv
      injection hv with hv1 hv2 hv3
      subst hv1
      have hst := HUS2.out k hlt
      rw [huk, Bool.false_or] at hst
      have k0 : (0 : Int) ≤ (k : Int) := by omega
      have k1 : (k : Int) < (n : Int) := by omega
      generalize v.t.getD k (0, 0) = e at t0 t1 hst
      obtain ⟨y0, y1⟩ := e
      simp only at t0 t1
      have HUT := toHid (HUT2.out (k + 1))
      have HST := toHid hst
      clear hst huk HUS2 HUT2
      by_cases h2 : y0 = 2
      · have g2 : (y0 == 2) = true := by simpa using h2
        by_cases h3 : y1 = (p : Int)
        · have g3 : (y1 == (p : Int)) = true := by simpa using h3
          have HOB : Hid (ob = false) := HUT.out (by rw [HST.out]; exact decide_eq_true (by rw [h2, h3]))
          clear h2 h3 HST HUT
          go_wp2
          go_ret
          exact ⟨ret_b HOB.out.symm, rfl⟩
        · have g3 : (y1 == (p : Int)) = false := by simpa using h3
          have HNX : Hid (U (k + 1) = false) := by unfold Hid; rw [HST.out]; exact decide_eq_false (fun e => h3 (by injection e))
          clear h2 h3 HST HUT
          go_wp2
          go_round
          case rel => exact ⟨k + 1, by omega, by go_num, HNX.out⟩
          case measure => simp [intOf]; omega
      · have g2 : (y0 == 2) = false := by simpa using h2
        have HNX : Hid (U (k + 1) = false) := by unfold Hid; rw [HST.out]; exact decide_eq_false (fun e => h2 (by injection e))
        clear h2 HST HUT
        go_wp2
        go_round
        case rel => exact ⟨k + 1, by omega, by go_num, HNX.out⟩
        case measure => simp [intOf]; omega
    · have hkn : k = n := by omega
      subst hkn
      have HOB := toHid (HUF2.out huk)
      clear huk HUF2 HUT2 HUS2
      go_wp2
      go_loop [6] (fun i => ∃ j : Nat, j ≤ m ∧ i = .int .i64 j ∧ G j = false) (fun i => m - (intOf i).toNat)
      case atStart => exact ⟨0, Nat.zero_le _, rfl, HH02.out⟩
      case round =>
        obtain ⟨j, hj, rfl, hgj⟩ := hrel
        by_cases hlt2 : j < m
        · obtain ⟨g, cp, hv, t0⟩ := HI.out.heldAt (k := j) (by rw [HM.out]; exact hlt2)
          rw [HE5.out] at hv
          injection hv with hv1 hv2 hv3
          subst hv1
          have hst := HHS2.out j hlt2
          rw [hgj, Bool.false_or] at hst
          have j0 : (0 : Int) ≤ (j : Int) := by omega
          have j1 : (j : Int) < (m : Int) := by omega
          generalize v.held.getD j 0 = z at t0 hst
          have HST := toHid hst
          have HHT := toHid (HHT2.out (j + 1))
          clear hst hgj HHS2 HHT2
          by_cases h3 : z = p
          · have g3 : ((z : Int) == (p : Int)) = true := by simp; omega
            have HO2 : Hid (ob = false) := by unfold Hid; rw [HOB.out, HHT.out (by rw [HST.out]; exact decide_eq_true h3)]; rfl
            clear HST HHT h3
            go_wp2
            go_ret
            exact ⟨ret_b HO2.out.symm, rfl⟩
          · have g3 : ((z : Int) == (p : Int)) = false := by simp; omega
            have HNX : Hid (G (j + 1) = false) := by unfold Hid; rw [HST.out]; exact decide_eq_false h3
            clear HST HHT h3
            go_wp2
            go_round
            case rel => exact ⟨j + 1, by omega, by go_num, HNX.out⟩
            case measure => simp [intOf]; omega
        · have hjm : j = m := by omega
          subst hjm
          have HO2 : Hid (ob = true) := by unfold Hid; rw [HOB.out, HHF2.out hgj]; rfl
          clear hgj HHF2 HHS2 HHT2
          go_wp2
          go_ret
          exact ⟨ret_b HO2.out.symm, rfl⟩

set_option maxRecDepth 100000 in
set_option maxHeartbeats 1000000 in
theorem Free_rim {B m : Nat} {q : Qh} {v : IV} (w : World) (h : IsRim B w q v) (hok : v.ok m) (hm : m ≤ 1000000000) :
    Calls Tryz.prog 59 #[.pointer (some ⟨q.p, 0, none⟩)] w fun e w' => e = .returned (.int .i64 (v.freeL.length : Int)) ∧ w' = w := by
  obtain ⟨c0, c1, c2, c3, c4, c5, fz⟩ := h.cells
  have hbo := HV.of_ok hok.h
  have hlen := hok.len
  have hfew := hok.few
  have HOP : Hid (∀ k : Nat, Calls Tryz.prog 82 #[.pointer (some ⟨q.p, 0, none⟩), .int .i64 (k : Int)] w fun e w' => e = .returned (.bool (v.openB k)) ∧ w' = w) := fun k => open_rim k w h (by omega) (by omega)
  obtain ⟨P, hP⟩ : ∃ P : Nat, v.h.p = (P : Int) := ⟨v.h.p.toNat, by omega⟩
  have HFL : Hid (v.freeL = v.freeTo P) := by unfold Hid IV.freeL; rw [hP]; rfl
  have HFS : Hid (∀ k, (v.freeTo (k + 1)).length = (v.freeTo k).length + (if v.openB k = true then 1 else 0)) := fun k => by
    rw [v.freeTo_succ, List.length_append]; split <;> rfl
  have HF0 : Hid ((v.freeTo 0).length = 0) := rfl
  have HFN : Hid (∀ k, (v.freeTo k).length ≤ k) := v.freeTo_len
  rw [hP] at c2
  rw [HFL.out]
  have hp40 : P ≤ 40 := by omega
  clear h hok hbo hlen hfew c0 c1 c3 c4 c5 fz HFL hP
  obtain ⟨F, hF⟩ : ∃ F : Nat → Nat, F = fun k => (v.freeTo k).length := ⟨_, rfl⟩
  have HFS2 : Hid (∀ k, F (k + 1) = F k + (if v.openB k = true then 1 else 0)) := fun k => by rw [hF]; exact HFS.out k
  have HF02 : Hid (F 0 = 0) := by rw [hF]; exact HF0
  have HFN2 : Hid (∀ k, F k ≤ k) := fun k => by rw [hF]; exact HFN.out k
  have HFE : Hid ((v.freeTo P).length = F P) := by rw [hF]; rfl
  rw [HFE.out]
  clear hF HFS HF0 HFN HFE
  go_enter Tryz.func59, Tryz.ntmps59
  go_wp2
  go_loop [3, 4] (fun n i => ∃ k : Nat, k ≤ P ∧ i = .int .i64 k ∧ n = .int .i64 (F k : Int)) (fun _ i => P - (intOf i).toNat)
  case atStart => exact ⟨0, Nat.zero_le _, rfl, by rw [HF02.out]; rfl⟩
  case round =>
    obtain ⟨k, hk, rfl, rfl⟩ := hrel
    by_cases hlt : k < P
    · have HO := toHid (HOP.out k)
      have hst := HFS2.out k
      have hfn := HFN2.out k
      generalize hob : v.openB k = ob at HO hst
      clear hob
      have HST := toHid hst
      clear hst HOP HFS2
      cases ob with
      | true =>
        have HNX : Hid (F (k + 1) = F k + 1) := by unfold Hid; rw [HST.out]; rfl
        clear HST
        go_wp2_with (go_at_call 82; refine HO.out.mono ?_; rintro e w' ⟨rfl, hw⟩; have hw' := hw.symm; subst hw'; clear hw)
        go_round
        case rel => exact ⟨k + 1, by omega, by go_num, by rw [HNX.out]; go_num⟩
        case measure => simp [intOf]; omega
      | false =>
        have HNX : Hid (F (k + 1) = F k) := by unfold Hid; rw [HST.out]; rfl
        clear HST
        go_wp2_with (go_at_call 82; refine HO.out.mono ?_; rintro e w' ⟨rfl, hw⟩; have hw' := hw.symm; subst hw'; clear hw)
        go_round
        case rel => exact ⟨k + 1, by omega, by go_num, by rw [HNX.out]⟩
        case measure => simp [intOf]; omega
    · have hkp : k = P := by omega
      subst hkp
      go_wp2
      go_ret
      exact ⟨rfl, rfl⟩
end Go.Proofs.YtncjnjlakhohgaaGreat
