/-
FormSays (C1 to C3): its walk, where the head is none.
-/
import Derived.Test.YtmallmchibdkgaaFormDefs
namespace Go.Proofs.Ytmallmchibdkgaa
open Go.RowKit
attribute [local go_sem ↓] Go.wp_at_zero Go.wp_at_succ

theorem arg_h {w W : World} {C D : Array Value} {t t' : TypeId} (hb : Below ((w.alloc (.cells C t)).alloc (.cells D t')).heap.size ((w.alloc (.cells C t)).alloc (.cells D t')) W) (i : Nat) (v : Value) (hv : C[i]? = some v) : W.cell? ⟨w.heap.size, i, none⟩ = some v := by
  rw [hb.cell (by simp; omega), World.cell?_alloc_past _ _ _ (by simp), cell_of_row _ _ _ _ _ _ (heap_alloc_new w _)]; exact hv

theorem arg_d {w W : World} {C D : Array Value} {t t' : TypeId} (hb : Below ((w.alloc (.cells C t)).alloc (.cells D t')).heap.size ((w.alloc (.cells C t)).alloc (.cells D t')) W) (i : Nat) (v : Value) (hv : D[i]? = some v) : W.cell? ⟨w.heap.size + 1, i, none⟩ = some v := by
  have e : (w.alloc (.cells C t)).heap.size = w.heap.size + 1 := by simp
  rw [hb.cell (by simp), ← e, cell_of_row _ _ _ _ _ _ (heap_alloc_new (w.alloc (.cells C t)) _)]; exact hv

set_option maxRecDepth 100000 in
set_option maxHeartbeats 4000000 in
theorem form_bb (c p b r k f a u row : Int) (la : Option Addr) (len cap : Nat) (ts : List (Int × Int)) (w : World) (hT : Ents w la len ts) (hnil : la = none → cap = 0) (h50 : len ≤ 50)
    (hk : HV.ok ⟨c, p, b⟩ = false) (hd : KV.fault ⟨r, k, f, a, u⟩ ≠ 0) :
    Calls Try.prog 7 #[.agg #[.int .i64 c, .int .i64 p, .int .i64 b], .slice la len cap, .int .i64 row, .agg #[.int .i64 r, .int .i64 k, .int .i64 f, .int .i64 a, .int .i64 u]] w fun e w' => e = .returned (.bool true) ∧ Below w.heap.size w w' := by
  have g50 : decide (50 < (len : Int)) = false := by simp; omega
  have ef : HV.fault ⟨c, p, b⟩ = 1 := if_neg (by rw [hk]; decide)
  have HF : Hid (∀ W : World, Calls Try.prog 37 #[.agg #[.int .i64 c, .int .i64 p, .int .i64 b]] W fun e w' => e = .returned (.int .i64 1) ∧ Below W.heap.size W w') := fun W => by have := headFault_any c p b W; rw [ef] at this; exact this
  have HC : Hid (∀ W : World, Calls Try.prog 39 #[.agg #[.int .i64 c, .int .i64 p, .int .i64 b]] W fun e w' => e = .returned (.iface 102 (.int .i64 1)) ∧ Below W.heap.size W w') := fun W => by have := checkHead_any c p b W; rw [ef, erV_1] at this; exact this
  have HS : Hid (∀ W : World, Calls Try.prog 19 #[.iface 102 (.int .i64 1), .int .i64 1] W fun e w' => e = .returned (.bool true) ∧ w' = W) := fun W => errSame_err 1 W (by decide)
  have HH : Hid (∀ W : World, Calls Try.prog 38 #[.agg #[.int .i64 c, .int .i64 p, .int .i64 b]] W fun e w' => e = .returned (.tuple #[.string ⟨#[]⟩, .iface 102 (.int .i64 1)]) ∧ Below W.heap.size W w') := fun W => head_no c p b W hk
  have hnn := rowF_nonneg ts row
  have HS2 : Hid (∀ W : World, Calls Try.prog 19 #[erV (rowF ts row), .int .i64 (rowF ts row)] W fun e w' => e = .returned (.bool true) ∧ w' = W) := fun W => errSame _ W hnn
  have HRw : Hid (∀ (W : World) (lb : Option Addr) (cap2 : Nat), Ents W lb len ts → len ≤ cap2 → Calls Try.prog 42 #[.slice lb len cap2, .int .i64 row] W fun e w' => e = .returned (.tuple #[.string (rowS ts row), erV (rowF ts row)]) ∧ Below W.heap.size W w') := fun W lb cap2 h h2 => row_any lb len cap2 ts row W h h50 h2
  have HRo : Hid (∀ W : World, Ents W la len ts → Calls Try.prog 43 #[.slice la len cap, .int .i64 row] W fun e w' => e = .returned (.tuple #[.string (rowS ts row), .int .i64 (rowF ts row)]) ∧ Below W.heap.size W w') := fun W h => rowOf_any la len cap ts row W h h50
  generalize erV (rowF ts row) = EV2 at HS2 HRw
  generalize rowF ts row = RF at HS2 HRo hnn
  generalize rowS ts row = RS at HRw HRo
  have hRR : (RS.toList == RS.toList) = true := beq_self_eq_true _
  have HR1 : Hid (∀ W : World, Calls Try.prog 45 #[.int .i64 (len : Int)] W fun e w' => e = .returned (.int .i64 (rowsN len : Int)) ∧ w' = W) := fun W => rows_any len W h50
  have HR2 : Hid (∀ W : World, Calls Try.prog 46 #[.int .i64 (len : Int)] W fun e w' => e = .returned (.int .i64 (rowsN len : Int)) ∧ w' = W) := fun W => refRows_any len W h50
  generalize rowsN len = rn at HR1 HR2
  have HDF : Hid (∀ W : World, Calls Try.prog 47 #[.agg #[.int .i64 r, .int .i64 k, .int .i64 f, .int .i64 a, .int .i64 u]] W fun e w' => e = .returned (.int .i64 (KV.fault ⟨r, k, f, a, u⟩)) ∧ Below W.heap.size W w') := fun W => deskFault_any r k f a u W
  have HCD : Hid (∀ W : World, Calls Try.prog 49 #[.agg #[.int .i64 r, .int .i64 k, .int .i64 f, .int .i64 a, .int .i64 u]] W fun e w' => e = .returned (erV (KV.fault ⟨r, k, f, a, u⟩)) ∧ Below W.heap.size W w') := fun W => checkDesk_any r k f a u W
  have e0 : erV (KV.fault ⟨r, k, f, a, u⟩) = .iface 102 (.int .i64 (KV.fault ⟨r, k, f, a, u⟩)) := by unfold erV; rw [if_neg hd]
  rw [e0] at HCD
  have HDk : Hid (∀ W : World, Calls Try.prog 48 #[.agg #[.int .i64 r, .int .i64 k, .int .i64 f, .int .i64 a, .int .i64 u]] W fun e w' => e = .returned (.tuple #[.string ⟨#[]⟩, .iface 102 (.int .i64 (KV.fault ⟨r, k, f, a, u⟩))]) ∧ Below W.heap.size W w') := fun W => desk_no r k f a u W hd
  have hDF := KV.fault_pos hd
  have HSD : Hid (∀ W : World, Calls Try.prog 19 #[.iface 102 (.int .i64 (KV.fault ⟨r, k, f, a, u⟩)), .int .i64 (KV.fault ⟨r, k, f, a, u⟩)] W fun e w' => e = .returned (.bool true) ∧ w' = W) := fun W => errSame_err _ W hDF
  clear e0 hd
  generalize KV.fault ⟨r, k, f, a, u⟩ = DF at HDF HCD HDk hDF HSD
  have gDF : decide (0 < DF) = true := by simpa using hDF
  have HT := toHid hT
  have HNL := toHid hnil
  clear hT hnil ef hk
  go_enter Try.func7, Try.ntmps7
  go_wp2_with fail
  refine (heads_any _).mono ?_
  rintro e w1 ⟨rfl, hb1⟩
  have B1 : Below ((w.alloc (.cells #[.int .i64 c, .int .i64 p, .int .i64 b] 67)).alloc (.cells #[.int .i64 r, .int .i64 k, .int .i64 f, .int .i64 a, .int .i64 u] 70)).heap.size ((w.alloc (.cells #[.int .i64 c, .int .i64 p, .int .i64 b] 67)).alloc (.cells #[.int .i64 r, .int .i64 k, .int .i64 f, .int .i64 a, .int .i64 u] 70)) w1 := hb1
  have x0 := arg_h B1 0 _ rfl
  have x1 := arg_h B1 1 _ rfl
  have x2 := arg_h B1 2 _ rfl
  go_wp2_with fail
  clear x0 x1 x2
  refine (HF.out _).mono ?_
  rintro e w2 ⟨rfl, hb2⟩
  have B2 := B1.trans (hb2.mono B1.size)
  have x0 := arg_h B2 0 _ rfl
  have x1 := arg_h B2 1 _ rfl
  have x2 := arg_h B2 2 _ rfl
  go_wp2_with fail
  clear x0 x1 x2
  refine (HH.out _).mono ?_
  rintro e w3 ⟨rfl, hb3⟩
  have B3 := B2.trans (hb3.mono B2.size)
  have x0 := arg_h B3 0 _ rfl
  have x1 := arg_h B3 1 _ rfl
  have x2 := arg_h B3 2 _ rfl
  go_wp2_with fail
  clear x0 x1 x2
  refine (HC.out _).mono ?_
  rintro e w4 ⟨rfl, hb4⟩
  have B4 := B3.trans (hb4.mono B3.size)
  have x0 := arg_h B4 0 _ rfl
  have x1 := arg_h B4 1 _ rfl
  have x2 := arg_h B4 2 _ rfl
  have hTi : Ents w4 la len ts := HT.out.below ((((Below.refl _ _).alloc (Nat.le_refl _) _).alloc (by simp) _).trans (B4.mono (by simp; omega)))
  obtain ⟨v1, wv, g, cap2, wo, hr1, hr2, hbo, hcap, hcapm, hEo⟩ := own_ents w4 la len cap ts hTi HNL.out h50
  unfold maxLen at hcapm
  have HA1 := toHid hr1
  have HA2 := toHid hr2
  have HEo := toHid hEo
  have HTo := toHid (hTi.below hbo)
  have Bo := B4.trans (hbo.mono B4.size)
  clear hTi hr1 hr2 hEo hbo
  go_wp2_with (first | (go_at_call 19; refine (HS.out _).mono ?_; rintro e w' ⟨rfl, hw⟩; have hw' := hw.symm; subst hw'; clear hw) | (at_builtin; refine step_append rfl _ _ 68 68 rfl rfl rfl rfl HA1.out ?_) | (at_builtin; refine step_append rfl _ _ 68 68 rfl rfl rfl rfl HA2.out ?_))
  clear x0 x1 x2 HA1 HA2
  refine (HRw.out _ _ _ HEo.out (by omega)).mono ?_
  rintro e w5 ⟨rfl, hb5⟩
  have B5 := Bo.trans (hb5.mono Bo.size)
  have HEo2 := toHid (HEo.out.below hb5)
  have HTo2 := toHid (HTo.out.below hb5)
  clear HEo HTo
  go_wp2_with fail
  refine (HRo.out _ HTo2.out).mono ?_
  rintro e w6 ⟨rfl, hb6⟩
  have B6 := B5.trans (hb6.mono B5.size)
  have HEo3 := toHid (HEo2.out.below hb6)
  have HTo3 := toHid (HTo2.out.below hb6)
  clear HEo2 HTo2
  go_wp2_with (go_at_call 19; refine (HS2.out _).mono ?_; rintro e w' ⟨rfl, hw⟩; have hw' := hw.symm; subst hw'; clear hw)
  refine (sameTable_any _ _ len _ _ ts _ HEo3.out HTo3.out h50).mono ?_
  rintro e w7 ⟨rfl, hb7⟩
  have B7 := B6.trans (hb7.mono B6.size)
  clear HEo3 HTo3
  have y0 := arg_d B7 0 _ rfl
  have y1 := arg_d B7 1 _ rfl
  have y2 := arg_d B7 2 _ rfl
  have y3 := arg_d B7 3 _ rfl
  have y4 := arg_d B7 4 _ rfl
  by_cases h32 : (len : Int) ≤ 32
  · have g32 : decide ((len : Int) ≤ 32) = true := by simpa using h32
    clear h32
    go_wp2_with (first | (go_at_call 45; refine (HR1.out _).mono ?_; rintro e w' ⟨rfl, hw⟩; have hw' := hw.symm; subst hw'; clear hw) | (go_at_call 46; refine (HR2.out _).mono ?_; rintro e w' ⟨rfl, hw⟩; have hw' := hw.symm; subst hw'; clear hw))
    clear y0 y1 y2 y3 y4
    refine (HDF.out _).mono ?_
    rintro e w8 ⟨rfl, hb8⟩
    have B8 := B7.trans (hb8.mono B7.size)
    have y0 := arg_d B8 0 _ rfl
    have y1 := arg_d B8 1 _ rfl
    have y2 := arg_d B8 2 _ rfl
    have y3 := arg_d B8 3 _ rfl
    have y4 := arg_d B8 4 _ rfl
    go_wp2_with fail
    clear y0 y1 y2 y3 y4
    refine (HDk.out _).mono ?_
    rintro e w9 ⟨rfl, hb9⟩
    have B9 := B8.trans (hb9.mono B8.size)
    have y0 := arg_d B9 0 _ rfl
    have y1 := arg_d B9 1 _ rfl
    have y2 := arg_d B9 2 _ rfl
    have y3 := arg_d B9 3 _ rfl
    have y4 := arg_d B9 4 _ rfl
    go_wp2_with fail
    clear y0 y1 y2 y3 y4
    refine (HCD.out _).mono ?_
    rintro e w10 ⟨rfl, hb10⟩
    have B10 := B9.trans (hb10.mono B9.size)
    have y0 := arg_d B10 0 _ rfl
    have y1 := arg_d B10 1 _ rfl
    have y2 := arg_d B10 2 _ rfl
    have y3 := arg_d B10 3 _ rfl
    have y4 := arg_d B10 4 _ rfl
    go_wp2_with (go_at_call 19; refine (HSD.out _).mono ?_; rintro e w' ⟨rfl, hw⟩; have hw' := hw.symm; subst hw'; clear hw)
    go_ret
    exact ⟨rfl, (((Below.refl _ _).alloc (Nat.le_refl _) _).alloc (by simp) _).trans (B10.mono (by simp; omega))⟩
  · have g32 : decide ((len : Int) ≤ 32) = false := by simpa using h32
    clear h32
    go_wp2_with (first | (go_at_call 45; refine (HR1.out _).mono ?_; rintro e w' ⟨rfl, hw⟩; have hw' := hw.symm; subst hw'; clear hw) | (go_at_call 46; refine (HR2.out _).mono ?_; rintro e w' ⟨rfl, hw⟩; have hw' := hw.symm; subst hw'; clear hw))
    clear y0 y1 y2 y3 y4
    refine (HDF.out _).mono ?_
    rintro e w8 ⟨rfl, hb8⟩
    have B8 := B7.trans (hb8.mono B7.size)
    have y0 := arg_d B8 0 _ rfl
    have y1 := arg_d B8 1 _ rfl
    have y2 := arg_d B8 2 _ rfl
    have y3 := arg_d B8 3 _ rfl
    have y4 := arg_d B8 4 _ rfl
    go_wp2_with fail
    clear y0 y1 y2 y3 y4
    refine (HDk.out _).mono ?_
    rintro e w9 ⟨rfl, hb9⟩
    have B9 := B8.trans (hb9.mono B8.size)
    have y0 := arg_d B9 0 _ rfl
    have y1 := arg_d B9 1 _ rfl
    have y2 := arg_d B9 2 _ rfl
    have y3 := arg_d B9 3 _ rfl
    have y4 := arg_d B9 4 _ rfl
    go_wp2_with fail
    clear y0 y1 y2 y3 y4
    refine (HCD.out _).mono ?_
    rintro e w10 ⟨rfl, hb10⟩
    have B10 := B9.trans (hb10.mono B9.size)
    have y0 := arg_d B10 0 _ rfl
    have y1 := arg_d B10 1 _ rfl
    have y2 := arg_d B10 2 _ rfl
    have y3 := arg_d B10 3 _ rfl
    have y4 := arg_d B10 4 _ rfl
    go_wp2_with (go_at_call 19; refine (HSD.out _).mono ?_; rintro e w' ⟨rfl, hw⟩; have hw' := hw.symm; subst hw'; clear hw)
    go_ret
    exact ⟨rfl, (((Below.refl _ _).alloc (Nat.le_refl _) _).alloc (by simp) _).trans (B10.mono (by simp; omega))⟩

set_option maxRecDepth 100000 in
set_option maxHeartbeats 4000000 in
theorem form_bg (c p b r k f a u row : Int) (la : Option Addr) (len cap : Nat) (ts : List (Int × Int)) (w : World) (hT : Ents w la len ts) (hnil : la = none → cap = 0) (h50 : len ≤ 50)
    (hk : HV.ok ⟨c, p, b⟩ = false) (hd : KV.fault ⟨r, k, f, a, u⟩ = 0) :
    Calls Try.prog 7 #[.agg #[.int .i64 c, .int .i64 p, .int .i64 b], .slice la len cap, .int .i64 row, .agg #[.int .i64 r, .int .i64 k, .int .i64 f, .int .i64 a, .int .i64 u]] w fun e w' => e = .returned (.bool true) ∧ Below w.heap.size w w' := by
  have g50 : decide (50 < (len : Int)) = false := by simp; omega
  have ef : HV.fault ⟨c, p, b⟩ = 1 := if_neg (by rw [hk]; decide)
  have HF : Hid (∀ W : World, Calls Try.prog 37 #[.agg #[.int .i64 c, .int .i64 p, .int .i64 b]] W fun e w' => e = .returned (.int .i64 1) ∧ Below W.heap.size W w') := fun W => by have := headFault_any c p b W; rw [ef] at this; exact this
  have HC : Hid (∀ W : World, Calls Try.prog 39 #[.agg #[.int .i64 c, .int .i64 p, .int .i64 b]] W fun e w' => e = .returned (.iface 102 (.int .i64 1)) ∧ Below W.heap.size W w') := fun W => by have := checkHead_any c p b W; rw [ef, erV_1] at this; exact this
  have HS : Hid (∀ W : World, Calls Try.prog 19 #[.iface 102 (.int .i64 1), .int .i64 1] W fun e w' => e = .returned (.bool true) ∧ w' = W) := fun W => errSame_err 1 W (by decide)
  have HH : Hid (∀ W : World, Calls Try.prog 38 #[.agg #[.int .i64 c, .int .i64 p, .int .i64 b]] W fun e w' => e = .returned (.tuple #[.string ⟨#[]⟩, .iface 102 (.int .i64 1)]) ∧ Below W.heap.size W w') := fun W => head_no c p b W hk
  have HS0 : Hid (∀ W : World, Calls Try.prog 19 #[.nilIface, .int .i64 0] W fun e w' => e = .returned (.bool true) ∧ w' = W) := fun W => errSame_nil 0 W
  have hnn := rowF_nonneg ts row
  have HS2 : Hid (∀ W : World, Calls Try.prog 19 #[erV (rowF ts row), .int .i64 (rowF ts row)] W fun e w' => e = .returned (.bool true) ∧ w' = W) := fun W => errSame _ W hnn
  have HRw : Hid (∀ (W : World) (lb : Option Addr) (cap2 : Nat), Ents W lb len ts → len ≤ cap2 → Calls Try.prog 42 #[.slice lb len cap2, .int .i64 row] W fun e w' => e = .returned (.tuple #[.string (rowS ts row), erV (rowF ts row)]) ∧ Below W.heap.size W w') := fun W lb cap2 h h2 => row_any lb len cap2 ts row W h h50 h2
  have HRo : Hid (∀ W : World, Ents W la len ts → Calls Try.prog 43 #[.slice la len cap, .int .i64 row] W fun e w' => e = .returned (.tuple #[.string (rowS ts row), .int .i64 (rowF ts row)]) ∧ Below W.heap.size W w') := fun W h => rowOf_any la len cap ts row W h h50
  generalize erV (rowF ts row) = EV2 at HS2 HRw
  generalize rowF ts row = RF at HS2 HRo hnn
  generalize rowS ts row = RS at HRw HRo
  have hRR : (RS.toList == RS.toList) = true := beq_self_eq_true _
  have HR1 : Hid (∀ W : World, Calls Try.prog 45 #[.int .i64 (len : Int)] W fun e w' => e = .returned (.int .i64 (rowsN len : Int)) ∧ w' = W) := fun W => rows_any len W h50
  have HR2 : Hid (∀ W : World, Calls Try.prog 46 #[.int .i64 (len : Int)] W fun e w' => e = .returned (.int .i64 (rowsN len : Int)) ∧ w' = W) := fun W => refRows_any len W h50
  generalize rowsN len = rn at HR1 HR2
  have HDF : Hid (∀ W : World, Calls Try.prog 47 #[.agg #[.int .i64 r, .int .i64 k, .int .i64 f, .int .i64 a, .int .i64 u]] W fun e w' => e = .returned (.int .i64 (KV.fault ⟨r, k, f, a, u⟩)) ∧ Below W.heap.size W w') := fun W => deskFault_any r k f a u W
  have HCD : Hid (∀ W : World, Calls Try.prog 49 #[.agg #[.int .i64 r, .int .i64 k, .int .i64 f, .int .i64 a, .int .i64 u]] W fun e w' => e = .returned (erV (KV.fault ⟨r, k, f, a, u⟩)) ∧ Below W.heap.size W w') := fun W => checkDesk_any r k f a u W
  obtain ⟨Y, hY⟩ : ∃ Y : ByteArray, Y = sealS [68, 75, r, k, f + 1, a % 256, a / 256, u % 256, u / 256] := ⟨_, rfl⟩
  have hYY : (Y.toList == Y.toList) = true := beq_self_eq_true _
  have HDk : Hid (∀ W : World, Calls Try.prog 48 #[.agg #[.int .i64 r, .int .i64 k, .int .i64 f, .int .i64 a, .int .i64 u]] W fun e w' => e = .returned (.tuple #[.string Y, .nilIface]) ∧ Below W.heap.size W w') := fun W => by rw [hY]; exact desk_yes r k f a u W hd
  have HRD : Hid (∀ W : World, Calls Try.prog 50 #[.string Y] W fun e w' => e = .returned (.tuple #[.agg #[.int .i64 r, .int .i64 k, .int .i64 f, .int .i64 a, .int .i64 u], .nilIface]) ∧ Below W.heap.size W w') := fun W => readDesk_text r k f a u W hd Y hY
  have HDS : Hid (∀ W : World, Calls Try.prog 51 #[.agg #[.int .i64 r, .int .i64 k, .int .i64 f, .int .i64 a, .int .i64 u]] W fun e w' => e = .returned (.string Y) ∧ Below W.heap.size W w') := fun W => by rw [hY]; exact deskSector_any r k f a u W hd
  rw [hd] at HDF
  rw [hd, erV_0] at HCD
  clear hY
  have HT := toHid hT
  have HNL := toHid hnil
  clear hT hnil ef hk hd
  go_enter Try.func7, Try.ntmps7
  go_wp2_with fail
  refine (heads_any _).mono ?_
  rintro e w1 ⟨rfl, hb1⟩
  have B1 : Below ((w.alloc (.cells #[.int .i64 c, .int .i64 p, .int .i64 b] 67)).alloc (.cells #[.int .i64 r, .int .i64 k, .int .i64 f, .int .i64 a, .int .i64 u] 70)).heap.size ((w.alloc (.cells #[.int .i64 c, .int .i64 p, .int .i64 b] 67)).alloc (.cells #[.int .i64 r, .int .i64 k, .int .i64 f, .int .i64 a, .int .i64 u] 70)) w1 := hb1
  have x0 := arg_h B1 0 _ rfl
  have x1 := arg_h B1 1 _ rfl
  have x2 := arg_h B1 2 _ rfl
  go_wp2_with fail
  clear x0 x1 x2
  refine (HF.out _).mono ?_
  rintro e w2 ⟨rfl, hb2⟩
  have B2 := B1.trans (hb2.mono B1.size)
  have x0 := arg_h B2 0 _ rfl
  have x1 := arg_h B2 1 _ rfl
  have x2 := arg_h B2 2 _ rfl
  go_wp2_with fail
  clear x0 x1 x2
  refine (HH.out _).mono ?_
  rintro e w3 ⟨rfl, hb3⟩
  have B3 := B2.trans (hb3.mono B2.size)
  have x0 := arg_h B3 0 _ rfl
  have x1 := arg_h B3 1 _ rfl
  have x2 := arg_h B3 2 _ rfl
  go_wp2_with fail
  clear x0 x1 x2
  refine (HC.out _).mono ?_
  rintro e w4 ⟨rfl, hb4⟩
  have B4 := B3.trans (hb4.mono B3.size)
  have x0 := arg_h B4 0 _ rfl
  have x1 := arg_h B4 1 _ rfl
  have x2 := arg_h B4 2 _ rfl
  have hTi : Ents w4 la len ts := HT.out.below ((((Below.refl _ _).alloc (Nat.le_refl _) _).alloc (by simp) _).trans (B4.mono (by simp; omega)))
  obtain ⟨v1, wv, g, cap2, wo, hr1, hr2, hbo, hcap, hcapm, hEo⟩ := own_ents w4 la len cap ts hTi HNL.out h50
  unfold maxLen at hcapm
  have HA1 := toHid hr1
  have HA2 := toHid hr2
  have HEo := toHid hEo
  have HTo := toHid (hTi.below hbo)
  have Bo := B4.trans (hbo.mono B4.size)
  clear hTi hr1 hr2 hEo hbo
  go_wp2_with (first | (go_at_call 19; refine (HS.out _).mono ?_; rintro e w' ⟨rfl, hw⟩; have hw' := hw.symm; subst hw'; clear hw) | (at_builtin; refine step_append rfl _ _ 68 68 rfl rfl rfl rfl HA1.out ?_) | (at_builtin; refine step_append rfl _ _ 68 68 rfl rfl rfl rfl HA2.out ?_))
  clear x0 x1 x2 HA1 HA2
  refine (HRw.out _ _ _ HEo.out (by omega)).mono ?_
  rintro e w5 ⟨rfl, hb5⟩
  have B5 := Bo.trans (hb5.mono Bo.size)
  have HEo2 := toHid (HEo.out.below hb5)
  have HTo2 := toHid (HTo.out.below hb5)
  clear HEo HTo
  go_wp2_with fail
  refine (HRo.out _ HTo2.out).mono ?_
  rintro e w6 ⟨rfl, hb6⟩
  have B6 := B5.trans (hb6.mono B5.size)
  have HEo3 := toHid (HEo2.out.below hb6)
  have HTo3 := toHid (HTo2.out.below hb6)
  clear HEo2 HTo2
  go_wp2_with (go_at_call 19; refine (HS2.out _).mono ?_; rintro e w' ⟨rfl, hw⟩; have hw' := hw.symm; subst hw'; clear hw)
  refine (sameTable_any _ _ len _ _ ts _ HEo3.out HTo3.out h50).mono ?_
  rintro e w7 ⟨rfl, hb7⟩
  have B7 := B6.trans (hb7.mono B6.size)
  clear HEo3 HTo3
  have y0 := arg_d B7 0 _ rfl
  have y1 := arg_d B7 1 _ rfl
  have y2 := arg_d B7 2 _ rfl
  have y3 := arg_d B7 3 _ rfl
  have y4 := arg_d B7 4 _ rfl
  by_cases h32 : (len : Int) ≤ 32
  · have g32 : decide ((len : Int) ≤ 32) = true := by simpa using h32
    clear h32
    go_wp2_with (first | (go_at_call 45; refine (HR1.out _).mono ?_; rintro e w' ⟨rfl, hw⟩; have hw' := hw.symm; subst hw'; clear hw) | (go_at_call 46; refine (HR2.out _).mono ?_; rintro e w' ⟨rfl, hw⟩; have hw' := hw.symm; subst hw'; clear hw))
    clear y0 y1 y2 y3 y4
    refine (HDF.out _).mono ?_
    rintro e w8 ⟨rfl, hb8⟩
    have B8 := B7.trans (hb8.mono B7.size)
    have y0 := arg_d B8 0 _ rfl
    have y1 := arg_d B8 1 _ rfl
    have y2 := arg_d B8 2 _ rfl
    have y3 := arg_d B8 3 _ rfl
    have y4 := arg_d B8 4 _ rfl
    go_wp2_with fail
    clear y0 y1 y2 y3 y4
    refine (HDk.out _).mono ?_
    rintro e w9 ⟨rfl, hb9⟩
    have B9 := B8.trans (hb9.mono B8.size)
    have y0 := arg_d B9 0 _ rfl
    have y1 := arg_d B9 1 _ rfl
    have y2 := arg_d B9 2 _ rfl
    have y3 := arg_d B9 3 _ rfl
    have y4 := arg_d B9 4 _ rfl
    go_wp2_with fail
    clear y0 y1 y2 y3 y4
    refine (HCD.out _).mono ?_
    rintro e w10 ⟨rfl, hb10⟩
    have B10 := B9.trans (hb10.mono B9.size)
    have y0 := arg_d B10 0 _ rfl
    have y1 := arg_d B10 1 _ rfl
    have y2 := arg_d B10 2 _ rfl
    have y3 := arg_d B10 3 _ rfl
    have y4 := arg_d B10 4 _ rfl
    go_wp2_with (go_at_call 19; refine (HS0.out _).mono ?_; rintro e w' ⟨rfl, hw⟩; have hw' := hw.symm; subst hw'; clear hw)
    clear y0 y1 y2 y3 y4
    refine (HRD.out _).mono ?_
    rintro e w11 ⟨rfl, hb11⟩
    have B11 := B10.trans (hb11.mono B10.size)
    have B11b := B11.alloc B11.size (.cells #[.int .i64 r, .int .i64 k, .int .i64 f, .int .i64 a, .int .i64 u] 70)
    have y0 := arg_d B11b 0 _ rfl
    have y1 := arg_d B11b 1 _ rfl
    have y2 := arg_d B11b 2 _ rfl
    have y3 := arg_d B11b 3 _ rfl
    have y4 := arg_d B11b 4 _ rfl
    go_wp2_with fail
    clear y0 y1 y2 y3 y4
    refine (HDS.out _).mono ?_
    rintro e w12 ⟨rfl, hb12⟩
    have B12 := B11b.trans (hb12.mono B11b.size)
    have y0 := arg_d B12 0 _ rfl
    have y1 := arg_d B12 1 _ rfl
    have y2 := arg_d B12 2 _ rfl
    have y3 := arg_d B12 3 _ rfl
    have y4 := arg_d B12 4 _ rfl
    have z0 := new_cell hb12 0 _ rfl
    have z1 := new_cell hb12 1 _ rfl
    have z2 := new_cell hb12 2 _ rfl
    have z3 := new_cell hb12 3 _ rfl
    have z4 := new_cell hb12 4 _ rfl
    go_wp2_with (go_at_call 19; refine (HS0.out _).mono ?_; rintro e w' ⟨rfl, hw⟩; have hw' := hw.symm; subst hw'; clear hw)
    go_ret
    exact ⟨rfl, (((Below.refl _ _).alloc (Nat.le_refl _) _).alloc (by simp) _).trans (B12.mono (by simp; omega))⟩
  · have g32 : decide ((len : Int) ≤ 32) = false := by simpa using h32
    clear h32
    go_wp2_with (first | (go_at_call 45; refine (HR1.out _).mono ?_; rintro e w' ⟨rfl, hw⟩; have hw' := hw.symm; subst hw'; clear hw) | (go_at_call 46; refine (HR2.out _).mono ?_; rintro e w' ⟨rfl, hw⟩; have hw' := hw.symm; subst hw'; clear hw))
    clear y0 y1 y2 y3 y4
    refine (HDF.out _).mono ?_
    rintro e w8 ⟨rfl, hb8⟩
    have B8 := B7.trans (hb8.mono B7.size)
    have y0 := arg_d B8 0 _ rfl
    have y1 := arg_d B8 1 _ rfl
    have y2 := arg_d B8 2 _ rfl
    have y3 := arg_d B8 3 _ rfl
    have y4 := arg_d B8 4 _ rfl
    go_wp2_with fail
    clear y0 y1 y2 y3 y4
    refine (HDk.out _).mono ?_
    rintro e w9 ⟨rfl, hb9⟩
    have B9 := B8.trans (hb9.mono B8.size)
    have y0 := arg_d B9 0 _ rfl
    have y1 := arg_d B9 1 _ rfl
    have y2 := arg_d B9 2 _ rfl
    have y3 := arg_d B9 3 _ rfl
    have y4 := arg_d B9 4 _ rfl
    go_wp2_with fail
    clear y0 y1 y2 y3 y4
    refine (HCD.out _).mono ?_
    rintro e w10 ⟨rfl, hb10⟩
    have B10 := B9.trans (hb10.mono B9.size)
    have y0 := arg_d B10 0 _ rfl
    have y1 := arg_d B10 1 _ rfl
    have y2 := arg_d B10 2 _ rfl
    have y3 := arg_d B10 3 _ rfl
    have y4 := arg_d B10 4 _ rfl
    go_wp2_with (go_at_call 19; refine (HS0.out _).mono ?_; rintro e w' ⟨rfl, hw⟩; have hw' := hw.symm; subst hw'; clear hw)
    clear y0 y1 y2 y3 y4
    refine (HRD.out _).mono ?_
    rintro e w11 ⟨rfl, hb11⟩
    have B11 := B10.trans (hb11.mono B10.size)
    have B11b := B11.alloc B11.size (.cells #[.int .i64 r, .int .i64 k, .int .i64 f, .int .i64 a, .int .i64 u] 70)
    have y0 := arg_d B11b 0 _ rfl
    have y1 := arg_d B11b 1 _ rfl
    have y2 := arg_d B11b 2 _ rfl
    have y3 := arg_d B11b 3 _ rfl
    have y4 := arg_d B11b 4 _ rfl
    go_wp2_with fail
    clear y0 y1 y2 y3 y4
    refine (HDS.out _).mono ?_
    rintro e w12 ⟨rfl, hb12⟩
    have B12 := B11b.trans (hb12.mono B11b.size)
    have y0 := arg_d B12 0 _ rfl
    have y1 := arg_d B12 1 _ rfl
    have y2 := arg_d B12 2 _ rfl
    have y3 := arg_d B12 3 _ rfl
    have y4 := arg_d B12 4 _ rfl
    have z0 := new_cell hb12 0 _ rfl
    have z1 := new_cell hb12 1 _ rfl
    have z2 := new_cell hb12 2 _ rfl
    have z3 := new_cell hb12 3 _ rfl
    have z4 := new_cell hb12 4 _ rfl
    go_wp2_with (go_at_call 19; refine (HS0.out _).mono ?_; rintro e w' ⟨rfl, hw⟩; have hw' := hw.symm; subst hw'; clear hw)
    go_ret
    exact ⟨rfl, (((Below.refl _ _).alloc (Nat.le_refl _) _).alloc (by simp) _).trans (B12.mono (by simp; omega))⟩

end Go.Proofs.Ytmallmchibdkgaa
