/-
A step of a yard's job (J5).
A job is started (J5).
-/
import Derived.Test.YtonhoahnieoebabGreatDoorQYardP7
namespace Go.Proofs.YtonhoahnieoebabGreatDoor
open Go.RowKit Go.Maps
attribute [local go_sem ↓] Go.wp_at_zero Go.wp_at_succ

set_option maxRecDepth 100000 in
set_option maxHeartbeats 1000000 in
theorem yconclude_any {yp m C : Nat} {Y : Yh} {y : YV} {j : JV} (w : World) (h : IsYard w yp Y y) (hs : y.s.ok m) (hj : y.j = some j) (hok : JOk y.s C j) (hm : m + 10 < 1000000000) :
    Calls Tryz.prog 148 #[.pointer (some ⟨Y.jb.jp, 0, none⟩)] w fun e w' =>
      (settleF y.s j ≠ 0 ∧ e = .returned (.tuple #[.bool false, erV (settleF y.s j)]) ∧ YDidJ yp Y y { y with s := settleS y.s j, j := some (settleJ y.s j) } w w') ∨
      (settleF y.s j = 0 ∧ e = .returned (.tuple #[.bool true, .nilIface]) ∧ YDidJ yp Y y { y with s := settleS y.s j, j := some (endJ (settleJ y.s j) true) } w w') := by
  have HSE := toHid (yj_settle w h hs hj hok hm)
  have HE : Hid (∀ W : World, YDidJ yp Y y { y with s := settleS y.s j, j := some (settleJ y.s j) } w W → Calls Tryz.prog 95 #[.pointer (some ⟨Y.jb.jp, 0, none⟩), .bool true] W fun e w' => e = .returned (.tuple #[]) ∧ YDidJ yp Y y { y with s := settleS y.s j, j := some (endJ (settleJ y.s j) true) } w w') := fun W ⟨Y1, e1, h1, h3⟩ => by
    rw [← e1]
    refine (yj_end (C := C) true W h1 (hs.settle j (by omega)) rfl hok.settle).mono ?_
    rintro e w' ⟨rfl, hd⟩
    exact ⟨rfl, YDidJ.trans e1 h3 hd⟩
  clear h hs hj hok
  generalize ({ y with s := settleS y.s j, j := some (settleJ y.s j) } : YV) = z1 at HSE HE ⊢
  generalize ({ y with s := settleS y.s j, j := some (endJ (settleJ y.s j) true) } : YV) = z2 at HE ⊢
  generalize settleF y.s j = F at HSE ⊢
  by_cases hF : F = 0
  · rw [hF, erV_0] at HSE
    go_enter Tryz.func148, Tryz.ntmps148
    go_wp2_with fail
    refine HSE.out.mono ?_
    rintro e w1 ⟨rfl, hd⟩
    have HE1 := toHid (HE.out _ hd)
    clear hd HE HSE
    go_wp2_with fail
    refine HE1.out.mono ?_
    rintro e w2 ⟨rfl, hd⟩
    have HD := toHid hd
    clear hd HE1
    go_wp2
    go_ret2
    exact .inr ⟨hF, rfl, HD.out⟩
  · rw [erV_some hF] at HSE ⊢
    clear HE
    go_enter Tryz.func148, Tryz.ntmps148
    go_wp2_with fail
    refine HSE.out.mono ?_
    rintro e w1 ⟨rfl, hd⟩
    have HD := toHid hd
    clear hd HSE
    go_wp2
    go_ret2
    exact .inl ⟨hF, rfl, HD.out⟩

theorem stepB_no {s : SV} {j : JV} (h : stepF s j ≠ 0) : stepB s j = false := by
  unfold stepF at h
  unfold stepB
  refine decide_eq_false ?_
  rintro ⟨h1, h2, h3, h4⟩
  rw [if_pos h1] at h
  split at h
  · next hx => exact h4 ⟨hx.2.2, h⟩
  · exact h rfl
/- Where a step has no fault, the job goes on. -/
theorem stepJ_stage {s : SV} {j : JV} (hg : j.stage < 4) : (stepJ s j).stage < 4 ∨ ((stepJ s j).stage = 5 ∧ stepF s j ≠ 0) := by
  unfold stepJ
  split
  · next hx =>
    split
    · next hw =>
      refine .inr ⟨rfl, ?_⟩
      unfold stepF
      rw [if_pos hx.1, if_pos ⟨hx.2.1, hx.2.2, hw.1⟩]
      exact hw.2
    · have e : ∀ c, (j.went c).stage = j.stage := fun _ => rfl
      rw [e]; exact .inl hg
  · exact .inl hg
/- Ready behind a step: it had no fault. -/
theorem step_ready {s : SV} {j : JV} (hg : j.stage = 1 ∨ j.stage = 2) (h : (stepJ s j).state = 3) : stepF s j = 0 := by
  refine Classical.byContradiction fun hf => ?_
  rcases hg with h1 | h1
  · have hB := stepB_no hf
    unfold stepF at hf
    rw [if_pos h1] at hf
    split at hf
    · next hx =>
      have : stepJ s j = j.fell := by
        unfold stepJ
        rw [if_pos ⟨h1, hx.1, hx.2.1⟩, if_pos ⟨hx.2.2, hf⟩]
      rw [this] at h
      unfold JV.state at h
      split at h
      · next hy => exact absurd hy.1 (by show ¬ (5 : Int) = 1; decide)
      · exact absurd h (by show ¬ (5 : Int) = 3; decide)
    · exact hf rfl
  · have : stepJ s j = j := by
      unfold stepJ
      rw [if_neg (fun e => by omega)]
    rw [this] at h
    unfold JV.state at h
    split at h
    · next hy => omega
    · omega

set_option maxRecDepth 100000 in
set_option maxHeartbeats 2000000 in
theorem ystep_any {yp C m : Nat} {Y : Yh} {y : YV} (w : World) (h : IsYard w yp Y y) (hY : YOk y C m) (hT : S4.Tab w) (hm : m + 30 < 1000000000) :
    Calls Tryz.prog 54 #[.pointer (some ⟨yp, 0, none⟩)] w fun e w' => e = .returned (.tuple #[.bool y.stepB, erV y.stepF]) ∧ YDidJ yp Y y y.step w w' := by
  have HG := toHid (ygoes_any w h)
  by_cases hb : y.busy = true
  · obtain ⟨j, hj, hg⟩ := busy_of hb
    have hin := hY.job j hj hg
    rw [goV_yes hb] at HG
    have ek : y.kd.kind = j.kind := by rw [← hin.dsk]; rfl
    have hr := hY.root
    have hst12 : j.stage = 1 ∨ j.stage = 2 := by rcases hin.ok.stage with e | e | e | e <;> omega
    obtain ⟨jl, jk⟩ := stepJ_is y.s j
    have jkind : (stepJ y.s j).kind = j.kind := by have := congrArg KDesk.kind jk; exact this
    have HST := toHid (yj_step w h hY.s hj hin.ok hT (by omega))
    have hs1 : (stepS y.s j).ok (m + 10) := hY.s.step j (by omega)
    have hok1 : JOk (stepS y.s j) C (stepJ y.s j) := hin.ok.step
    have HSU : Hid (∀ W : World, YDidJ yp Y y { y with s := stepS y.s j, j := some (stepJ y.s j) } w W → Calls Tryz.prog 25 #[.pointer (some ⟨Y.jb.jp, 0, none⟩)] W fun e w' => e = .returned (.agg #[.int .i64 j.kind, .int .i64 (stepJ y.s j).file, .int .i64 (stepJ y.s j).state, .int .i64 (S4.cnt (stepJ y.s j).x 64 : Nat)]) ∧ ∀ o, YDidJ yp Y y { y with s := stepS y.s j, j := some (stepJ y.s j) } w (w'.alloc o)) := fun W ⟨Y1, e1, h1, h3⟩ => by
      rw [← e1]
      refine (status_any W (h1.job _ rfl).1 hok1.set).mono ?_
      rintro e w' ⟨rfl, hb⟩
      refine ⟨by rw [jkind], fun o => ⟨Y1, e1, h1.below (hb.alloc hb.size o), h3.trans (Moved.of_below (hb.alloc hb.size o))⟩⟩
    have HGO : Hid (∀ (z : YV) (jz : JV) (W : World), z.j = some jz → YDidJ yp Y y z w W → Calls Tryz.prog 27 #[.pointer (some ⟨Y.jb.jp, 0, none⟩)] W fun e w' => e = .returned (.bool (decide (jz.stage < 4))) ∧ w' = W) := fun z jz W hz ⟨Y1, e1, h1, h3⟩ => by
      rw [← e1]
      exact goes_any W (h1.job _ hz).1
    have HRO : Hid (∀ (z : YV) (W : World), z.kd = y.kd → YDidJ yp Y y z w W → W.cell? ⟨yp, 11, none⟩ = some (.int .i64 y.kd.root)) := fun z W hz ⟨Y1, e1, h1, h3⟩ => by
      have := h1.blk.cells.2.2.2.1
      rw [hz] at this; exact this
    have HID : Hid (∀ W : World, Calls Tryz.prog 103 #[.int .i64 y.kd.root] W fun e w' => e = .returned (.agg #[.int .i64 (bareK y.kd.root).root, .int .i64 (bareK y.kd.root).kind, .int .i64 (bareK y.kd.root).file, .int .i64 (bareK y.kd.root).rate, .int .i64 (bareK y.kd.root).burst]) ∧ Below W.heap.size W w') := fun W => yidle_any y.kd.root W
    have HDK : Hid (∀ (z : YV) (W W' : World), z.top = y.top → YDidJ yp Y y z w W → Below W.heap.size W W' → Calls Tryz.prog 102 #[.pointer (some ⟨yp, 0, none⟩), .agg #[.int .i64 (bareK y.kd.root).root, .int .i64 (bareK y.kd.root).kind, .int .i64 (bareK y.kd.root).file, .int .i64 (bareK y.kd.root).rate, .int .i64 (bareK y.kd.root).burst]] W' fun e w' => e = .returned (erV z.deskF) ∧ YDidJ yp Y y (z.desk (bareK y.kd.root)) w w') := fun z W W' hz hd hb => by
      obtain ⟨Y1, e1, h1, h3⟩ := hd
      refine (ydesk_any (m := m) (bareK y.kd.root) W' (h1.below hb) (by rw [hz]; exact hY.top) (bareK_fault hr.1 hr.2) (by omega)).mono ?_
      rintro e w' ⟨rfl, h4⟩
      exact ⟨rfl, YDidJ.trans e1 h3 (YDidJ.from hb h4)⟩
    have hsV : y.step = if stepF y.s j ≠ 0 then (if (stepJ y.s j).stage = 5 then ({ y with s := stepS y.s j, j := some (stepJ y.s j) } : YV).desk (bareK y.kd.root) else { y with s := stepS y.s j, j := some (stepJ y.s j) })
        else if y.kd.kind ≠ 2 ∨ (stepJ y.s j).state ≠ 3 then { y with s := stepS y.s j, j := some (stepJ y.s j) }
        else if settleF (stepS y.s j) (stepJ y.s j) ≠ 0 then ({ y with s := settleS (stepS y.s j) (stepJ y.s j), j := some (settleJ (stepS y.s j) (stepJ y.s j)) } : YV).desk (bareK y.kd.root)
        else { ({ y with s := settleS (stepS y.s j) (stepJ y.s j), l := ((settleS (stepS y.s j) (stepJ y.s j)).walk y.kd.root).1, j := some ((settleJ (stepS y.s j) (stepJ y.s j)).at 4) } : YV).desk (bareK y.kd.root) with kd := bareK y.kd.root } := by
      unfold YV.step; rw [hj]; show (if 4 ≤ j.stage then _ else _) = _; rw [if_neg (by omega)]
    have hsF : y.stepF = if stepF y.s j ≠ 0 then stepF y.s j else if y.kd.kind ≠ 2 ∨ (stepJ y.s j).state ≠ 3 then 0 else settleF (stepS y.s j) (stepJ y.s j) := by
      unfold YV.stepF; rw [hj]; show (if 4 ≤ j.stage then _ else _) = _; rw [if_neg (by omega)]
    have hsB : y.stepB = if stepF y.s j ≠ 0 then false else if y.kd.kind ≠ 2 ∨ (stepJ y.s j).state ≠ 3 then stepB y.s j else decide (settleF (stepS y.s j) (stepJ y.s j) = 0) := by
      unfold YV.stepB; rw [hj]; show (if 4 ≤ j.stage then _ else _) = _; rw [if_neg (by omega)]
    by_cases hC : j.kind = 2 ∧ (stepJ y.s j).state = 3
    · have hF0 := step_ready hst12 hC.2
      have HCO : Hid (∀ W : World, YDidJ yp Y y { y with s := stepS y.s j, j := some (stepJ y.s j) } w W → Calls Tryz.prog 148 #[.pointer (some ⟨Y.jb.jp, 0, none⟩)] W fun e w' =>
          (settleF (stepS y.s j) (stepJ y.s j) ≠ 0 ∧ e = .returned (.tuple #[.bool false, erV (settleF (stepS y.s j) (stepJ y.s j))]) ∧ YDidJ yp Y y { y with s := settleS (stepS y.s j) (stepJ y.s j), j := some (settleJ (stepS y.s j) (stepJ y.s j)) } w w') ∨
          (settleF (stepS y.s j) (stepJ y.s j) = 0 ∧ e = .returned (.tuple #[.bool true, .nilIface]) ∧ YDidJ yp Y y { y with s := settleS (stepS y.s j) (stepJ y.s j), j := some (endJ (settleJ (stepS y.s j) (stepJ y.s j)) true) } w w')) := fun W ⟨Y1, e1, h1, h3⟩ => by
        rw [← e1]
        refine (yconclude_any (m := m + 10) (C := C) W h1 hs1 rfl hok1 (by omega)).mono ?_
        rintro e w' (⟨q1, q2, q3⟩ | ⟨q1, q2, q3⟩)
        · exact .inl ⟨q1, q2, YDidJ.trans e1 h3 q3⟩
        · exact .inr ⟨q1, q2, YDidJ.trans e1 h3 q3⟩
      have g1 : (j.kind == 2) = true := by simpa using hC.1
      have g2 : ((stepJ y.s j).state == 3) = true := by simpa using hC.2
      have hsV1 : y.step = if settleF (stepS y.s j) (stepJ y.s j) ≠ 0 then ({ y with s := settleS (stepS y.s j) (stepJ y.s j), j := some (settleJ (stepS y.s j) (stepJ y.s j)) } : YV).desk (bareK y.kd.root)
        else { ({ y with s := settleS (stepS y.s j) (stepJ y.s j), l := ((settleS (stepS y.s j) (stepJ y.s j)).walk y.kd.root).1, j := some ((settleJ (stepS y.s j) (stepJ y.s j)).at 4) } : YV).desk (bareK y.kd.root) with kd := bareK y.kd.root } := by
        rw [hsV, if_neg (by rw [hF0]; simp), if_neg (by rintro (e | e); exact e (ek.trans hC.1); exact e hC.2)]
      have hsF1 : y.stepF = settleF (stepS y.s j) (stepJ y.s j) := by rw [hsF, if_neg (by rw [hF0]; simp), if_neg (by rintro (e | e); exact e (ek.trans hC.1); exact e hC.2)]
      have hsB1 : y.stepB = decide (settleF (stepS y.s j) (stepJ y.s j) = 0) := by rw [hsB, if_neg (by rw [hF0]; simp), if_neg (by rintro (e | e); exact e (ek.trans hC.1); exact e hC.2)]
      have hS5 : settleF (stepS y.s j) (stepJ y.s j) ≠ 0 → (settleJ (stepS y.s j) (stepJ y.s j)).stage = 5 := fun hf => by
        have h2 := hC.1
        rw [← jkind] at h2
        obtain ⟨_, e2⟩ := settle_str (s := stepS y.s j) hC.2 h2
        rw [e2] at hf
        rw [settleJ_no hC.2 h2 hf]; rfl
      have HN1 : Hid (settleF (stepS y.s j) (stepJ y.s j) ≠ 0 → decide ((settleJ (stepS y.s j) (stepJ y.s j)).stage < 4) = false) := fun hf => decide_eq_false (by rw [hS5 hf]; decide)
      have HN2 : Hid (decide ((endJ (settleJ (stepS y.s j) (stepJ y.s j)) true).stage < 4) = false) := decide_eq_false (by show ¬ (4 : Int) < 4; decide)
      have HK2 : Hid (∀ W : World, settleF (stepS y.s j) (stepJ y.s j) = 0 → YDidJ yp Y y (({ y with s := settleS (stepS y.s j) (stepJ y.s j), j := some (endJ (settleJ (stepS y.s j) (stepJ y.s j)) true) } : YV).desk (bareK y.kd.root)) w W → YDidJ yp Y y y.step w W) := fun W hf hd => by
        rw [hsV1, if_neg (by rw [hf]; simp)]
        refine hd.re ?_ ?_ ?_ ?_ ?_
        all_goals (unfold YV.desk; split <;> rfl)
      have HK1 : Hid (∀ W : World, settleF (stepS y.s j) (stepJ y.s j) ≠ 0 → YDidJ yp Y y (({ y with s := settleS (stepS y.s j) (stepJ y.s j), j := some (settleJ (stepS y.s j) (stepJ y.s j)) } : YV).desk (bareK y.kd.root)) w W → YDidJ yp Y y y.step w W) := fun W hf hd => by
        rw [hsV1, if_pos hf]; exact hd
      rw [hsF1, hsB1]
      rw [hF0, erV_0] at HST
      clear hsV hsF hsB hsV1 hsF1 hsB1 hS5 h hY hb hj hg hin ek hr hst12 jl jk jkind hs1 hok1 hC hF0 hT
      have HDK1 := toHid (fun W W' => HDK.out ({ y with s := settleS (stepS y.s j) (stepJ y.s j), j := some (settleJ (stepS y.s j) (stepJ y.s j)) } : YV) W W' rfl)
      have HDK2 := toHid (fun W W' => HDK.out ({ y with s := settleS (stepS y.s j) (stepJ y.s j), j := some (endJ (settleJ (stepS y.s j) (stepJ y.s j)) true) } : YV) W W' rfl)
      have HRO1 := toHid (fun W => HRO.out ({ y with s := settleS (stepS y.s j) (stepJ y.s j), j := some (settleJ (stepS y.s j) (stepJ y.s j)) } : YV) W rfl)
      have HRO2 := toHid (fun W => HRO.out ({ y with s := settleS (stepS y.s j) (stepJ y.s j), j := some (endJ (settleJ (stepS y.s j) (stepJ y.s j)) true) } : YV) W rfl)
      have HGO1 := toHid (fun W => HGO.out ({ y with s := settleS (stepS y.s j) (stepJ y.s j), j := some (settleJ (stepS y.s j) (stepJ y.s j)) } : YV) _ W rfl)
      have HGO2 := toHid (fun W => HGO.out ({ y with s := settleS (stepS y.s j) (stepJ y.s j), j := some (endJ (settleJ (stepS y.s j) (stepJ y.s j)) true) } : YV) _ W rfl)
      rw [HN2.out] at HGO2
      clear HDK HRO HGO HN2
      generalize y.step = zf at HK1 HK2 ⊢
      generalize ({ y with s := settleS (stepS y.s j) (stepJ y.s j), j := some (settleJ (stepS y.s j) (stepJ y.s j)) } : YV) = z2 at HCO HDK1 HRO1 HGO1 HK1
      generalize ({ y with s := settleS (stepS y.s j) (stepJ y.s j), j := some (endJ (settleJ (stepS y.s j) (stepJ y.s j)) true) } : YV) = z3 at HCO HDK2 HRO2 HGO2 HK2
      generalize ({ y with s := stepS y.s j, j := some (stepJ y.s j) } : YV) = z1 at HST HSU HCO
      generalize decide ((settleJ (stepS y.s j) (stepJ y.s j)).stage < 4) = dg at HGO1 HN1
      generalize settleF (stepS y.s j) (stepJ y.s j) = SF at HCO HN1 HK1 HK2 ⊢
      generalize (stepJ y.s j).state = st at HSU g2
      generalize (stepJ y.s j).file = fl at HSU
      generalize S4.cnt (stepJ y.s j).x 64 = ct at HSU
      generalize stepB y.s j = b1 at HST
      go_enter Tryz.func54, Tryz.ntmps54
      go_wp2_with fail
      refine HG.out.mono ?_
      rintro e w' ⟨rfl, hw⟩
      have hw' := hw.symm
      subst hw'
      clear hw HG
      go_wp2_with fail
      refine HST.out.mono ?_
      rintro e w1 ⟨rfl, hd1⟩
      have HS1 := toHid (HSU.out _ hd1)
      clear hd1 HST HSU
      go_wp2_with fail
      refine HS1.out.mono ?_
      rintro e w2 ⟨rfl, hd2⟩
      have HC1 := toHid (HCO.out _ (hd2 (.cells #[.int .i64 j.kind, .int .i64 fl, .int .i64 st, .int .i64 (ct : Int)] 56)))
      clear hd2 HS1 HCO
      go_wp2_with fail
      refine HC1.out.mono ?_
      rintro e w3 (⟨hf, rfl, hd3⟩ | ⟨hf, rfl, hd3⟩)
      · have HG1 := toHid (HGO1.out _ hd3)
        rw [HN1.out hf] at HG1
        have HD3 := toHid hd3
        clear hd3 HC1 HGO1 HGO2 HK2 HDK2 HRO2 HN1
        go_wp2_with fail
        refine HG1.out.mono ?_
        rintro e w' ⟨rfl, hw⟩
        have hw' := hw.symm
        subst hw'
        clear hw HG1
        have c11 := HRO1.out _ HD3.out
        have HKD := toHid (fun W' hb => HDK1.out _ W' HD3.out hb)
        clear HD3 HRO1 HDK1
        go_wp2_with fail
        refine (HID.out _).mono ?_
        rintro e w5 ⟨rfl, hb5⟩
        have HK5 := toHid (HKD.out _ hb5)
        clear hb5 HKD HID
        go_wp2_with fail
        refine HK5.out.mono ?_
        rintro e w6 ⟨rfl, hd6⟩
        have HD := toHid (HK1.out _ hf hd6)
        clear hd6 HK5 HK1
        go_wp2
        go_ret2
        exact ⟨by rw [decide_eq_false hf]; rfl, HD.out⟩
      · have HG1 := toHid (HGO2.out _ hd3)
        have HD3 := toHid hd3
        clear hd3 HC1 HGO1 HGO2 HK1 HDK1 HRO1 HN1
        go_wp2_with fail
        refine HG1.out.mono ?_
        rintro e w' ⟨rfl, hw⟩
        have hw' := hw.symm
        subst hw'
        clear hw HG1
        have c11 := HRO2.out _ HD3.out
        have HKD := toHid (fun W' hb => HDK2.out _ W' HD3.out hb)
        clear HD3 HRO2 HDK2
        go_wp2_with fail
        refine (HID.out _).mono ?_
        rintro e w5 ⟨rfl, hb5⟩
        have HK5 := toHid (HKD.out _ hb5)
        clear hb5 HKD HID
        go_wp2_with fail
        refine HK5.out.mono ?_
        rintro e w6 ⟨rfl, hd6⟩
        have HD := toHid (HK2.out _ hf hd6)
        clear hd6 HK5 HK2
        go_wp2
        go_ret2
        exact ⟨by rw [decide_eq_true hf, hf, erV_0]; rfl, HD.out⟩
    · have hCn : y.kd.kind ≠ 2 ∨ (stepJ y.s j).state ≠ 3 := by
        by_cases e : j.kind = 2
        · exact .inr fun e2 => hC ⟨e, e2⟩
        · exact .inl fun e2 => e (ek.symm.trans e2)
      have hsF1 : y.stepF = stepF y.s j := by
        rw [hsF]
        by_cases e : stepF y.s j = 0
        · rw [if_neg (fun h => h e), if_pos hCn, e]
        · rw [if_pos e]
      have hsB1 : y.stepB = stepB y.s j := by
        rw [hsB]
        by_cases e : stepF y.s j = 0
        · rw [if_neg (fun h => h e), if_pos hCn]
        · rw [if_pos e, stepB_no e]
      have gC : (j.kind == 2 && (stepJ y.s j).state == 3) = false := by
        cases ha : (j.kind == 2) with
        | false => rfl
        | true =>
          have : ¬ (stepJ y.s j).state = 3 := fun e => hC ⟨by simpa using ha, e⟩
          simpa using this
      rw [hsF1, hsB1]
      by_cases hgo : (stepJ y.s j).stage < 4
      · have hsV1 : y.step = { y with s := stepS y.s j, j := some (stepJ y.s j) } := by
          rw [hsV]
          by_cases e : stepF y.s j = 0
          · rw [if_neg (fun h => h e), if_pos hCn]
          · rw [if_pos e, if_neg (by omega)]
        have HGO1 := toHid (fun W => HGO.out ({ y with s := stepS y.s j, j := some (stepJ y.s j) } : YV) _ W rfl)
        rw [decide_eq_true hgo] at HGO1
        rw [hsV1]
        clear hsV hsF hsB hsV1 hsF1 hsB1 h hY hb hj hg hin ek hr hst12 jl jk jkind hs1 hok1 hT hgo hCn HGO HDK HRO HID
        generalize ({ y with s := stepS y.s j, j := some (stepJ y.s j) } : YV) = z1 at HST HSU HGO1 ⊢
        generalize stepB y.s j = b1 at HST ⊢
        generalize erV (stepF y.s j) = E1 at HST ⊢
        generalize (stepJ y.s j).state = st at HSU gC hC
        generalize (stepJ y.s j).file = fl at HSU
        generalize S4.cnt (stepJ y.s j).x 64 = ct at HSU
        go_enter Tryz.func54, Tryz.ntmps54
        go_wp2_with fail
        refine HG.out.mono ?_
        rintro e w' ⟨rfl, hw⟩
        have hw' := hw.symm
        subst hw'
        clear hw HG
        go_wp2_with fail
        refine HST.out.mono ?_
        rintro e w1 ⟨rfl, hd1⟩
        have HS1 := toHid (HSU.out _ hd1)
        clear hd1 HST HSU
        go_wp2_with fail
        refine HS1.out.mono ?_
        rintro e w2 ⟨rfl, hd2'⟩
        have hd2 := hd2' (.cells #[.int .i64 j.kind, .int .i64 fl, .int .i64 st, .int .i64 (ct : Int)] 56)
        clear hd2'
        have HG1 := toHid (HGO1.out _ hd2)
        have HD2 := toHid hd2
        clear hd2 HS1 HGO1
        have hk2 : ((j.kind == 2) = false) ∨ ((j.kind == 2) = true ∧ (st == 3) = false) := by
          cases ha : (j.kind == 2) with
          | false => exact .inl rfl
          | true => rw [ha] at gC; exact .inr ⟨rfl, by simpa using gC⟩
        clear gC hC
        rcases hk2 with g1 | ⟨g1, g2⟩
        all_goals
          go_wp2_with fail
          refine HG1.out.mono ?_
          rintro e w' ⟨rfl, hw⟩
          have hw' := hw.symm
          subst hw'
          clear hw HG1
          go_wp2
          go_ret2
          exact ⟨rfl, HD2.out⟩
      · have h5 : (stepJ y.s j).stage = 5 ∧ stepF y.s j ≠ 0 := by
          rcases stepJ_stage (s := y.s) hg with e | e
          · exact absurd e hgo
          · exact e
        have hsV1 : y.step = ({ y with s := stepS y.s j, j := some (stepJ y.s j) } : YV).desk (bareK y.kd.root) := by
          rw [hsV, if_pos h5.2, if_pos h5.1]
        have HGO1 := toHid (fun W => HGO.out ({ y with s := stepS y.s j, j := some (stepJ y.s j) } : YV) _ W rfl)
        rw [decide_eq_false hgo] at HGO1
        have HDK1 := toHid (fun W W' => HDK.out ({ y with s := stepS y.s j, j := some (stepJ y.s j) } : YV) W W' rfl)
        have HRO1 := toHid (fun W => HRO.out ({ y with s := stepS y.s j, j := some (stepJ y.s j) } : YV) W rfl)
        rw [hsV1]
        clear hsV hsF hsB hsV1 hsF1 hsB1 h hY hb hj hg hin ek hr hst12 jl jk jkind hs1 hok1 hT hgo hCn HGO HDK HRO h5
        generalize ({ y with s := stepS y.s j, j := some (stepJ y.s j) } : YV) = z1 at HST HSU HGO1 HDK1 HRO1 ⊢
        generalize stepB y.s j = b1 at HST ⊢
        generalize erV (stepF y.s j) = E1 at HST ⊢
        generalize (stepJ y.s j).state = st at HSU gC hC
        generalize (stepJ y.s j).file = fl at HSU
        generalize S4.cnt (stepJ y.s j).x 64 = ct at HSU
        go_enter Tryz.func54, Tryz.ntmps54
        go_wp2_with fail
        refine HG.out.mono ?_
        rintro e w' ⟨rfl, hw⟩
        have hw' := hw.symm
        subst hw'
        clear hw HG
        go_wp2_with fail
        refine HST.out.mono ?_
        rintro e w1 ⟨rfl, hd1⟩
        have HS1 := toHid (HSU.out _ hd1)
        clear hd1 HST HSU
        go_wp2_with fail
        refine HS1.out.mono ?_
        rintro e w2 ⟨rfl, hd2'⟩
        have hd2 := hd2' (.cells #[.int .i64 j.kind, .int .i64 fl, .int .i64 st, .int .i64 (ct : Int)] 56)
        clear hd2'
        have HG1 := toHid (HGO1.out _ hd2)
        have HD2 := toHid hd2
        clear hd2 HS1 HGO1
        have hk2 : ((j.kind == 2) = false) ∨ ((j.kind == 2) = true ∧ (st == 3) = false) := by
          cases ha : (j.kind == 2) with
          | false => exact .inl rfl
          | true => rw [ha] at gC; exact .inr ⟨rfl, by simpa using gC⟩
        clear gC hC
        rcases hk2 with g1 | ⟨g1, g2⟩
        all_goals
          go_wp2_with fail
          refine HG1.out.mono ?_
          rintro e w' ⟨rfl, hw⟩
          have hw' := hw.symm
          subst hw'
          clear hw HG1
          have c11 := HRO1.out _ HD2.out
          have HKD := toHid (fun W' hb => HDK1.out _ W' HD2.out hb)
          clear HD2 HRO1 HDK1
          go_wp2_with fail
          refine (HID.out _).mono ?_
          rintro e w5 ⟨rfl, hb5⟩
          have HK5 := toHid (HKD.out _ hb5)
          clear hb5 HKD HID
          go_wp2_with fail
          refine HK5.out.mono ?_
          rintro e w6 ⟨rfl, hd6⟩
          have HD := toHid hd6
          clear hd6 HK5
          go_wp2
          go_ret2
          exact ⟨rfl, HD.out⟩
  · rw [goV_no hb] at HG
    have e1 : y.stepF = 4 := by
      unfold YV.stepF
      cases hj : y.j with
      | none => rfl
      | some j => show (if 4 ≤ j.stage then _ else _) = _; rw [if_pos (busy_no hb j hj)]
    have e2 : y.stepB = false := by
      unfold YV.stepB
      cases hj : y.j with
      | none => rfl
      | some j => show (if 4 ≤ j.stage then _ else _) = _; rw [if_pos (busy_no hb j hj)]
    have e3 : y.step = y := by
      unfold YV.step
      cases hj : y.j with
      | none => rfl
      | some j => show (if 4 ≤ j.stage then _ else _) = _; rw [if_pos (busy_no hb j hj)]
    have HD : Hid (YDidJ yp Y y y w w) := YDidJ.refl h
    rw [e1, e2, e3, erV_some (by decide)]
    clear h hY hb e1 e2 e3 hT
    go_enter Tryz.func54, Tryz.ntmps54
    go_wp2_with fail
    refine HG.out.mono ?_
    rintro e w' ⟨rfl, hw⟩
    have hw' := hw.symm
    subst hw'
    clear hw HG
    go_wp2
    go_ret2
    exact ⟨rfl, HD.out⟩
end Go.Proofs.YtonhoahnieoebabGreatDoor

namespace Go.Proofs.YtonhoahnieoebabGreatDoor
open Go.RowKit Go.Maps
attribute [local go_sem ↓] Go.wp_at_zero Go.wp_at_succ

/- The new job is the yard's. -/
theorem IsYard.started {w w1 w2 : World} {yp m C : Nat} {Y Y1 : Yh} {y z : YV} {b : Jh} {j : JV} (h : IsYard w yp Y y) (hb : Below w.heap.size w w1) (hP : PJ w1 yp b.jp b.lp b.bp b.a b.cap Y.xs y.s m C j)
    (hn : w.heap.size ≤ b.jp ∧ w.heap.size ≤ b.lp ∧ w.heap.size ≤ b.bp ∧ ∀ g o, b.a = some ⟨g, o, none⟩ → w.heap.size ≤ g) (hz : IsYard w2 yp Y1 z) (hm : Moved (fpY yp Y y) w1 (fpY yp Y1 z) w2) :
    IsYard (w2.setCell ⟨yp, 12, none⟩ (.pointer (some ⟨b.jp, 0, none⟩))) yp { Y1 with jb := b } { z with j := some j } ∧ Moved (fpY yp Y y) w (fpY yp { Y1 with jb := b } { z with j := some j }) (w2.setCell ⟨yp, 12, none⟩ (.pointer (some ⟨b.jp, 0, none⟩))) := by
  obtain ⟨n1, n2, n3, n4⟩ := hn
  obtain ⟨l1, l2, l3⟩ := hP.job.lts
  have hout : ∀ k, w.heap.size ≤ k → ¬ fpY yp Y y k := fun k hk e => by have := h.fp_lt e; omega
  have hne : j.l ≠ [] := hP.ok.ne
  have hJ : IsJob w2 b.jp yp b.lp b.bp b.a b.cap j := hP.job.keep (hm.block l1 (hout _ n1)) (hm.block l2 (hout _ n2)) (hm.block l3 (hout _ n3))
  have hN : Nums w2 b.a j.l := hP.nums.moved hm (fun g o e => hout g (n4 g o e))
  have hA : Apart b.a (fpY yp { Y1 with jb := b } { z with j := some j }) := fun g o e hf => by
    have hg := hP.nums.lt hne e
    rcases hf with hf | hf | hf | ⟨_, hf⟩
    · exact hm.out hg (hout g (n4 g o e)) (.inl hf)
    · exact hm.out hg (hout g (n4 g o e)) (.inr (.inl hf))
    · exact hm.out hg (hout g (n4 g o e)) (.inr (.inr (.inl hf)))
    · exact hP.ap g o e (.inr hf)
  refine ⟨hz.setJob hJ hN hne hP.cap hA, ?_⟩
  have hk : Kept (fun k => k = yp) w2 (w2.setCell ⟨yp, 12, none⟩ (.pointer (some ⟨b.jp, 0, none⟩))) := Kept.setCell (S := fun k => k = yp) (p := ⟨yp, 12, none⟩) (Kept.refl _ w2) (.inl rfl) _
  have hM1 : Moved (fpY yp Y y) w (fpY yp Y1 z) w2 := (Moved.of_below hb).trans hm
  refine ⟨hM1.kept.trans (hk.mono ?_), fun k hk2 => ?_⟩
  · rintro k _ rfl; exact .inl rfl
  · rcases hk2 with hf | hf | hf | ⟨_, hf⟩
    · exact .inl (.inl hf)
    · exact hM1.new k (.inr (.inl hf))
    · exact hM1.new k (.inr (.inr (.inl hf)))
    · refine .inr ?_
      rcases hf with e | e | e
      · rw [e]; exact n1
      · rw [e]; exact n2
      · rw [e]; exact n3

set_option maxRecDepth 100000 in
set_option maxHeartbeats 2000000 in
theorem ystart_any {yp C m : Nat} {Y : Yh} {y : YV} (kind file rate burst : Int) (w : World) (h : IsYard w yp Y y) (hY : YOk y C m) (hm : m < 1000000000) :
    Calls Tryz.prog 53 #[.pointer (some ⟨yp, 0, none⟩), .int .i64 kind, .int .i64 file, .int .i64 rate, .int .i64 burst] w fun e w' => e = .returned (erV (y.startF (startK y kind file rate burst))) ∧ YDid yp Y y (y.start (startK y kind file rate burst)) w w' := by
  have HG := toHid (ygoes_any w h)
  have HD0 : Hid (∀ W : World, Below w.heap.size w W → YDid yp Y y y w W) := fun W hb => YDid.of_below h hb
  by_cases hb : y.busy = true
  · rw [goV_yes hb] at HG
    have e0 : y.startF0 (startK y kind file rate burst) = 8 := by unfold YV.startF0; rw [if_pos hb]
    have e1 : y.startF (startK y kind file rate burst) = 8 := by unfold YV.startF; rw [e0]; rfl
    have e2 : y.start (startK y kind file rate burst) = y := by unfold YV.start; rw [e0]; rfl
    have HD := toHid (HD0.out w (Below.refl _ _))
    rw [e1, e2, erV_some (by decide)]
    clear h hY hb e0 e1 e2 HD0
    go_enter Tryz.func53, Tryz.ntmps53
    go_wp2_with fail
    refine HG.out.mono ?_
    rintro e w' ⟨rfl, hw⟩
    have hw' := hw.symm
    subst hw'
    clear hw HG
    go_wp2
    go_ret
    exact ⟨rfl, HD.out⟩
  · rw [goV_no hb] at HG
    by_cases hk : kind = 0
    · have e0 : y.startF0 (startK y kind file rate burst) = 1 := by unfold YV.startF0; rw [if_neg hb, if_pos (show (startK y kind file rate burst).kind = 0 from hk)]
      have e1 : y.startF (startK y kind file rate burst) = 1 := by unfold YV.startF; rw [e0]; rfl
      have e2 : y.start (startK y kind file rate burst) = y := by unfold YV.start; rw [e0]; rfl
      have HD := toHid (HD0.out w (Below.refl _ _))
      have g1 : (kind == 0) = true := by simpa using hk
      rw [e1, e2, erV_1]
      clear h hY hb e0 e1 e2 HD0 hk
      go_enter Tryz.func53, Tryz.ntmps53
      go_wp2_with fail
      refine HG.out.mono ?_
      rintro e w' ⟨rfl, hw⟩
      have hw' := hw.symm
      subst hw'
      clear hw HG
      go_wp2
      go_ret
      exact ⟨rfl, HD.out⟩
    · have g1 : (kind == 0) = false := by simpa using hk
      obtain ⟨c0, c5, c6, c11, c12, fz⟩ := h.blk.cells
      obtain ⟨d, hd⟩ : ∃ d : KDesk, d = startK y kind file rate burst := ⟨_, rfl⟩
      have hdr : d.root = y.kd.root := by rw [hd]; rfl
      have HB0 : Hid (Below w.heap.size w (w.alloc (deskC d))) := (Below.refl _ _).alloc (Nat.le_refl _) _
      have HDR := toHid (desk_range d w)
      have HDC := toHid (desk_cells d w)
      have HI : Hid ((Tryz.prog.info? 47).map (·.size) = some ([.int .i64 d.root, .int .i64 d.kind, .int .i64 d.file, .int .i64 d.rate, .int .i64 d.burst] : List Value).length) := size_desk
      have HCK : Hid (∀ W : World, Calls Tryz.prog 147 #[.agg #[.int .i64 d.root, .int .i64 d.kind, .int .i64 d.file, .int .i64 d.rate, .int .i64 d.burst]] W fun e w' => e = .returned (erV d.kv.fault) ∧ Below W.heap.size W w') := fun W => checkDesk_any d.root d.kind d.file d.rate d.burst W
      have hF0 : y.startF0 d = if d.kv.fault = 0 then newF y.s d else d.kv.fault := by unfold YV.startF0; rw [if_neg hb, if_neg (by rw [hd]; exact hk)]
      rw [← hd]
      by_cases hf : d.kv.fault = 0
      · rw [if_pos hf] at hF0
        rw [hf, erV_0] at HCK
        by_cases hnf : newF y.s d = 0
        · have e1 : y.startF d = y.deskF := by unfold YV.startF; rw [if_pos (hF0.trans hnf)]
          have e2 : y.start d = if y.deskF = 0 then { y.desk d with j := some ((newJ y.s d).at 1) } else y.desk d := by unfold YV.start; rw [if_pos (hF0.trans hnf)]
          have HNW : Hid (∀ W : World, Below w.heap.size w W → Calls Tryz.prog 22 #[.pointer (some ⟨yp, 6, none⟩), .agg #[.int .i64 d.root, .int .i64 d.kind, .int .i64 d.file, .int .i64 d.rate, .int .i64 d.burst]] W fun e w' => ∃ (b : Jh) (C' : Nat), e = .returned (.tuple #[.pointer (some ⟨b.jp, 0, none⟩), .nilIface]) ∧ PJ w' yp b.jp b.lp b.bp b.a b.cap Y.xs y.s m C' (newJ y.s d) ∧ (w.heap.size ≤ b.jp ∧ w.heap.size ≤ b.lp ∧ w.heap.size ≤ b.bp ∧ ∀ g o, b.a = some ⟨g, o, none⟩ → w.heap.size ≤ g) ∧ Below W.heap.size W w') := fun W hb2 => by
            refine (new_good d W ((h.shelf hY.s).below hb2) hnf).mono ?_
            rintro e w' ⟨jp, lp, bp, C', a, cap, rfl, h1, ⟨q1, q2, q3, q4⟩, h3, _⟩
            have hs := hb2.size
            exact ⟨⟨jp, lp, bp, a, cap⟩, C', rfl, h1, ⟨Nat.le_trans hs q1, Nat.le_trans hs q2, Nat.le_trans hs q3, fun g o e => Nat.le_trans hs (q4 g o e)⟩, h3⟩
          have HDK : Hid (∀ W : World, Below w.heap.size w W → Calls Tryz.prog 102 #[.pointer (some ⟨yp, 0, none⟩), .agg #[.int .i64 d.root, .int .i64 d.kind, .int .i64 d.file, .int .i64 d.rate, .int .i64 d.burst]] W fun e w' => e = .returned (erV y.deskF) ∧ YDidJ yp Y y (y.desk d) W w') := fun W hb2 => ydesk_any d W (h.below hb2) hY.top hf hm
          obtain ⟨s1, s2, s3, s4⟩ := ydesk_s y d
          have HSJ : Hid (∀ (W1 W2 : World) (b : Jh) (C' : Nat), Below w.heap.size w W1 → PJ W1 yp b.jp b.lp b.bp b.a b.cap Y.xs y.s m C' (newJ y.s d) → (w.heap.size ≤ b.jp ∧ w.heap.size ≤ b.lp ∧ w.heap.size ≤ b.bp ∧ ∀ g o, b.a = some ⟨g, o, none⟩ → w.heap.size ≤ g) → YDidJ yp Y y (y.desk d) W1 W2 →
              (∃ v, W2.cell? ⟨yp, 12, none⟩ = some v) ∧ W2.frozen? ⟨yp, 12, none⟩ = false ∧ Calls Tryz.prog 81 #[.pointer (some ⟨b.jp, 0, none⟩), .bool false] (W2.setCell ⟨yp, 12, none⟩ (.pointer (some ⟨b.jp, 0, none⟩))) fun e w' => e = .returned .nilIface ∧ YDid yp Y y { y.desk d with j := some ((newJ y.s d).at 1) } w w') := fun W1 W2 b C' hb1 hP hfr ⟨Y1, e1, h1, h3⟩ => by
            obtain ⟨_, _, _, _, q12, qf⟩ := h1.blk.cells
            obtain ⟨h5, h6⟩ := h.started hb1 hP hfr h1 h3
            refine ⟨⟨_, q12⟩, qf 12, ?_⟩
            have hpz := yj_pause (m := m) (C := C') false _ h5 (by show (y.desk d).s.ok m; rw [s1]; exact hY.s) rfl (by show JOk (y.desk d).s C' _; rw [s1]; exact hP.ok)
            have ep : pauseF (newJ y.s d) false = 0 := rfl
            rw [ep, erV_0] at hpz
            refine hpz.mono ?_
            rintro e w' ⟨rfl, hd⟩
            refine ⟨rfl, ?_⟩
            obtain ⟨Y2, e2, h7, h8⟩ := hd
            refine ⟨Y2, .inr (fun g o e => ?_), h7, h6.trans h8⟩
            have e3 : b.a = some ⟨g, o, none⟩ := by rw [e2] at e; exact e
            have q1 := hP.nums.lt hP.ok.ne e3
            have q2 := h3.size
            have q3 := h8.size
            have q4 : (W2.setCell ⟨yp, 12, none⟩ (.pointer (some ⟨b.jp, 0, none⟩))).heap.size = W2.heap.size := by simp [World.setCell]
            exact ⟨hfr.2.2.2 g o e3, by omega⟩
          rw [e1, e2]
          unfold deskC at HB0 HDR HDC
          rw [← hdr] at c11
          have e5 : kind = d.kind := by rw [hd]; rfl
          have e6 : file = d.file := by rw [hd]; rfl
          have e7 : rate = d.rate := by rw [hd]; rfl
          have e8 : burst = d.burst := by rw [hd]; rfl
          rw [e5, e6, e7, e8]
          rw [e5] at g1
          have HED : Hid (∀ W1 W2 : World, Below w.heap.size w W1 → YDidJ yp Y y (y.desk d) W1 W2 → YDid yp Y y (y.desk d) w W2) := fun W1 W2 hb1 hd => (YDidJ.from hb1 hd).out
          clear h hY hb e1 e2 hF0 hf c0 c5 c6 c12 fz hd hk hdr e5 e6 e7 e8 HD0 s1 s2 s3 s4 hnf
          generalize ({ y.desk d with j := some ((newJ y.s d).at 1) } : YV) = z2 at HSJ ⊢
          generalize y.desk d = z1 at HDK HSJ HED ⊢
          generalize y.deskF = F at HDK ⊢
          by_cases hF : F = 0
          · rw [if_pos hF, hF, erV_0]
            rw [hF, erV_0] at HDK
            go_enter Tryz.func53, Tryz.ntmps53
            go_wp2_with fail
            refine HG.out.mono ?_
            rintro e w' ⟨rfl, hw⟩
            have hw' := hw.symm
            subst hw'
            clear hw HG
            go_wp2_with fail
            refine (HCK.out _).mono ?_
            rintro e w2 ⟨rfl, hb2⟩
            have HB2 := toHid (HB0.out.trans (hb2.mono HB0.out.size))
            have HS2 := toHid (HDC.out _ hb2.drew)
            have HX2 := toHid hb2.drew
            clear hb2 HCK
            go_wp2
            have HBD : Hid (Below w.heap.size w w2.drew) := HB2.out.drew
            go_region_held3 (fun W => W.cell? ⟨w.heap.size, 0, none⟩ = some (.int .i64 d.root) ∧ W.cell? ⟨w.heap.size, 1, none⟩ = some (.int .i64 d.kind) ∧ W.cell? ⟨w.heap.size, 2, none⟩ = some (.int .i64 d.file) ∧ W.cell? ⟨w.heap.size, 3, none⟩ = some (.int .i64 d.rate) ∧ W.cell? ⟨w.heap.size, 4, none⟩ = some (.int .i64 d.burst))
              (first | (exact HS2.out) | assumption)
              (first
                | (go_at_call 22; refine (HNW.out _ HBD.out).mono ?_; rintro e w3 ⟨b, C', rfl, hP, hfr, hb3⟩; have HB3 := toHid (HBD.out.trans (hb3.mono HBD.out.size)); have HR3 := toHid (HDR.out _ (HX2.out.trans (hb3.mono HX2.out.size))); have HPJ := toHid hP; have HFR := toHid hfr; have hS1 := HDC.out _ (HX2.out.trans (hb3.mono HX2.out.size)); clear hb3 hP hfr))
            have HK := toHid (HDK.out _ HB3.out)
            clear HDK HNW HDR HDC HS2 hS1
            go_wp2_with (refine wpList_load_mid (by rfl) 47 (.tmp 11) (by rfl) w.heap.size 0 (by rfl) [.int .i64 d.root, .int .i64 d.kind, .int .i64 d.file, .int .i64 d.rate, .int .i64 d.burst] _ HR3.out Tryz.underlying47 rfl HI.out ?_)
            refine HK.out.mono ?_
            rintro e w4 ⟨rfl, hd4⟩
            obtain ⟨⟨v, q12⟩, qf, hp⟩ := HSJ.out w3 w4 b C' HB3.out HPJ.out HFR.out hd4
            have HP := toHid hp
            clear hd4 hp HK HSJ HPJ HFR HED HR3
            go_wp2_with fail
            refine HP.out.mono ?_
            rintro e w5 ⟨rfl, hd5⟩
            have HD := toHid hd5
            clear hd5 HP
            go_wp2
            go_ret
            exact ⟨rfl, HD.out⟩
          · rw [if_neg hF]
            rw [erV_some hF] at HDK ⊢
            go_enter Tryz.func53, Tryz.ntmps53
            go_wp2_with fail
            refine HG.out.mono ?_
            rintro e w' ⟨rfl, hw⟩
            have hw' := hw.symm
            subst hw'
            clear hw HG
            go_wp2_with fail
            refine (HCK.out _).mono ?_
            rintro e w2 ⟨rfl, hb2⟩
            have HB2 := toHid (HB0.out.trans (hb2.mono HB0.out.size))
            have HS2 := toHid (HDC.out _ hb2.drew)
            have HX2 := toHid hb2.drew
            clear hb2 HCK
            go_wp2
            have HBD : Hid (Below w.heap.size w w2.drew) := HB2.out.drew
            go_region_held3 (fun W => W.cell? ⟨w.heap.size, 0, none⟩ = some (.int .i64 d.root) ∧ W.cell? ⟨w.heap.size, 1, none⟩ = some (.int .i64 d.kind) ∧ W.cell? ⟨w.heap.size, 2, none⟩ = some (.int .i64 d.file) ∧ W.cell? ⟨w.heap.size, 3, none⟩ = some (.int .i64 d.rate) ∧ W.cell? ⟨w.heap.size, 4, none⟩ = some (.int .i64 d.burst))
              (first | (exact HS2.out) | assumption)
              (first
                | (go_at_call 22; refine (HNW.out _ HBD.out).mono ?_; rintro e w3 ⟨b, C', rfl, hP, hfr, hb3⟩; have HB3 := toHid (HBD.out.trans (hb3.mono HBD.out.size)); have HR3 := toHid (HDR.out _ (HX2.out.trans (hb3.mono HX2.out.size))); have HPJ := toHid hP; have HFR := toHid hfr; have hS1 := HDC.out _ (HX2.out.trans (hb3.mono HX2.out.size)); clear hb3 hP hfr))
            have HK := toHid (HDK.out _ HB3.out)
            clear HDK HNW HDR HDC HS2 hS1
            go_wp2_with (refine wpList_load_mid (by rfl) 47 (.tmp 11) (by rfl) w.heap.size 0 (by rfl) [.int .i64 d.root, .int .i64 d.kind, .int .i64 d.file, .int .i64 d.rate, .int .i64 d.burst] _ HR3.out Tryz.underlying47 rfl HI.out ?_)
            refine HK.out.mono ?_
            rintro e w4 ⟨rfl, hd4⟩
            have HD := toHid (HED.out _ _ HB3.out hd4)
            clear hd4 HK HSJ HPJ HFR HED HR3
            go_wp2
            go_ret
            exact ⟨rfl, HD.out⟩
        · have e1 : y.startF d = newF y.s d := by unfold YV.startF; rw [if_neg (fun e => hnf (hF0.symm.trans e)), hF0]
          have e2 : y.start d = y := by unfold YV.start; rw [if_neg (fun e => hnf (hF0.symm.trans e))]
          have HNW : Hid (∀ W : World, Below w.heap.size w W → Calls Tryz.prog 22 #[.pointer (some ⟨yp, 6, none⟩), .agg #[.int .i64 d.root, .int .i64 d.kind, .int .i64 d.file, .int .i64 d.rate, .int .i64 d.burst]] W fun e w' => e = .returned (.tuple #[.pointer none, .iface 127 (.int .i64 (newF y.s d))]) ∧ Below W.heap.size W w') := fun W hb2 => by
            have := new_bad d W ((h.shelf hY.s).below hb2) hnf
            rw [erV_some hnf] at this; exact this
          rw [e1, e2, erV_some hnf]
          unfold deskC at HB0 HDR HDC
          rw [← hdr] at c11
          have e5 : kind = d.kind := by rw [hd]; rfl
          have e6 : file = d.file := by rw [hd]; rfl
          have e7 : rate = d.rate := by rw [hd]; rfl
          have e8 : burst = d.burst := by rw [hd]; rfl
          rw [e5, e6, e7, e8]
          rw [e5] at g1
          clear h hY hb e1 e2 hF0 hf c0 c5 c6 c12 fz hd hk hdr e5 e6 e7 e8
          generalize newF y.s d = nf at HNW hnf
          go_enter Tryz.func53, Tryz.ntmps53
          go_wp2_with fail
          refine HG.out.mono ?_
          rintro e w' ⟨rfl, hw⟩
          have hw' := hw.symm
          subst hw'
          clear hw HG
          go_wp2_with fail
          refine (HCK.out _).mono ?_
          rintro e w2 ⟨rfl, hb2⟩
          have HB2 := toHid (HB0.out.trans (hb2.mono HB0.out.size))
          have HS2 := toHid (HDC.out _ hb2.drew)
          have HX2 := toHid hb2.drew
          clear hb2 HCK HDR HI
          go_wp2
          have HBD : Hid (Below w.heap.size w w2.drew) := HB2.out.drew
          go_region_held3 (fun W => W.cell? ⟨w.heap.size, 0, none⟩ = some (.int .i64 d.root) ∧ W.cell? ⟨w.heap.size, 1, none⟩ = some (.int .i64 d.kind) ∧ W.cell? ⟨w.heap.size, 2, none⟩ = some (.int .i64 d.file) ∧ W.cell? ⟨w.heap.size, 3, none⟩ = some (.int .i64 d.rate) ∧ W.cell? ⟨w.heap.size, 4, none⟩ = some (.int .i64 d.burst))
            (first | (exact HS2.out) | assumption)
            (first
              | (go_at_call 22; refine (HNW.out _ HBD.out).mono ?_; rintro e w3 ⟨rfl, hb3⟩; have HB3 := toHid (HBD.out.trans (hb3.mono HBD.out.size)); have hS1 := HDC.out _ (HX2.out.trans (hb3.mono HX2.out.size)); clear hb3))
          have HD := toHid (HD0.out _ HB3.out)
          go_wp2
          go_ret
          exact ⟨rfl, HD.out⟩
      · rw [if_neg hf] at hF0
        have e1 : y.startF d = d.kv.fault := by unfold YV.startF; rw [if_neg (fun e => hf (hF0.symm.trans e)), hF0]
        have e2 : y.start d = y := by unfold YV.start; rw [if_neg (fun e => hf (hF0.symm.trans e))]
        rw [erV_some hf] at HCK
        rw [e1, e2, erV_some hf]
        unfold deskC at HB0
        rw [← hdr] at c11
        have e5 : kind = d.kind := by rw [hd]; rfl
        have e6 : file = d.file := by rw [hd]; rfl
        have e7 : rate = d.rate := by rw [hd]; rfl
        have e8 : burst = d.burst := by rw [hd]; rfl
        rw [e5, e6, e7, e8]
        rw [e5] at g1
        clear h hY hb e1 e2 hF0 c0 c5 c6 c12 fz hd hk hdr e5 e6 e7 e8 HI HDR
        generalize d.kv.fault = ff at HCK hf
        go_enter Tryz.func53, Tryz.ntmps53
        go_wp2_with fail
        refine HG.out.mono ?_
        rintro e w' ⟨rfl, hw⟩
        have hw' := hw.symm
        subst hw'
        clear hw HG
        go_wp2_with fail
        refine (HCK.out _).mono ?_
        rintro e w2 ⟨rfl, hb2⟩
        have HD := toHid (HD0.out _ (HB0.out.trans (hb2.mono HB0.out.size)))
        clear hb2 HCK
        go_wp2
        go_ret
        exact ⟨rfl, HD.out⟩
end Go.Proofs.YtonhoahnieoebabGreatDoor
