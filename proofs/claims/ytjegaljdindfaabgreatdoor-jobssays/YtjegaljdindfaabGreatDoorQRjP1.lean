/-
What the calls on a job of the document's answer give: whether it goes, its state that turns, what it wants, pause, dirty.
-/
import Derived.Test.YtjegaljdindfaabGreatDoorQRjMem
import Derived.Test.YtjegaljdindfaabGreatDoorQLawAsShelf
import Derived.Test.YtjegaljdindfaabGreatDoorQJobP1
namespace Go.Proofs.YtjegaljdindfaabGreatDoor
open Go.RowKit Go.Maps
attribute [local go_sem ↓] Go.wp_at_zero Go.wp_at_succ

theorem JOk.n64 {s : SV} {C : Nat} {j : JV} (h : JOk s C j) : j.n ≤ 64 := by have := h.n; have := h.c40; omega

set_option maxRecDepth 100000 in
set_option maxHeartbeats 1000000 in
theorem rgoes_any {xp mp cap : Nat} {a : Option Addr} {j : JV} {is : Int} (w : World) (h : IsRjob w xp mp a cap j is) :
    Calls Tryz.prog 22 #[.pointer (some ⟨xp, 0, none⟩)] w fun e w' => e = .returned (.bool (decide (is < 4))) ∧ w' = w := by
  obtain ⟨c0, c2, c3, c6, c7, c73, c74, f73, f74⟩ := h.cells
  clear h
  go_enter Tryz.func22, Tryz.ntmps22
  go_wp2
  go_ret
  exact ⟨rfl, rfl⟩

/- What Turn makes of a state. -/
def turnI (is : Int) (n : Nat) : Int := if is = 1 ∧ n = 0 then 3 else if is = 3 ∧ n ≠ 0 then 1 else is

set_option maxRecDepth 100000 in
set_option maxHeartbeats 2000000 in
theorem rturn_any {xp mp cap m C : Nat} {a : Option Addr} {qs : Nat → Qh} {s : SV} {j : JV} {is : Int} (w : World) (h : RJ w mp xp a cap qs s m C j is) :
    Calls Tryz.prog 125 #[.pointer (some ⟨xp, 0, none⟩)] w fun e w' => e = .returned (.tuple #[]) ∧ RJ w' mp xp a cap qs s m C j (turnI is (S4.cnt j.x 64)) ∧ Moved (fpR qs s xp) w (fpR qs s xp) w' := by
  obtain ⟨c0, c2, c3, c6, c7, c73, c74, f73, f74⟩ := h.job.cells
  have HCT := toHid (S4.r8count_any w h.job.set8)
  have H0 : Hid (RJ w mp xp a cap qs s m C j is) := h
  have H1 : Hid (RJ (w.setCell ⟨xp, 74, none⟩ (.int .i64 1)) mp xp a cap qs s m C j 1 ∧ Moved (fpR qs s xp) w (fpR qs s xp) (w.setCell ⟨xp, 74, none⟩ (.int .i64 1))) := h.set74 1
  have H3 : Hid (RJ (w.setCell ⟨xp, 74, none⟩ (.int .i64 3)) mp xp a cap qs s m C j 3 ∧ Moved (fpR qs s xp) w (fpR qs s xp) (w.setCell ⟨xp, 74, none⟩ (.int .i64 3))) := h.set74 3
  have HM0 : Hid (Moved (fpR qs s xp) w (fpR qs s xp) w) := Moved.refl _ _
  clear h c0 c2 c3 c6 c7 c73 f73
  unfold turnI
  generalize S4.cnt j.x 64 = ct at HCT ⊢
  by_cases h1 : is = 1
  · subst h1
    by_cases h0 : ct = 0
    · subst h0
      rw [if_pos ⟨rfl, rfl⟩]
      go_enter Tryz.func125, Tryz.ntmps125
      go_wp2_with fail
      refine HCT.out.mono ?_
      rintro e w' ⟨rfl, hw⟩
      have hw' := hw.symm
      subst hw'
      clear hw
      go_wp2
      go_end0
      exact ⟨rfl, H3.out.1, H3.out.2⟩
    · have g0 : ((ct : Int) == 0) = false := by simp; omega
      rw [if_neg (fun e => h0 e.2), if_neg (fun e => absurd e.1 (by decide))]
      go_enter Tryz.func125, Tryz.ntmps125
      go_wp2_with fail
      refine HCT.out.mono ?_
      rintro e w' ⟨rfl, hw⟩
      have hw' := hw.symm
      subst hw'
      clear hw
      go_wp2
      go_end0
      exact ⟨rfl, H0.out, HM0.out⟩
  · have g1 : (is == 1) = false := by simpa using h1
    rw [if_neg (fun e => h1 e.1)]
    by_cases h3 : is = 3
    · subst h3
      by_cases h0 : ct = 0
      · subst h0
        rw [if_neg (fun e => e.2 rfl)]
        go_enter Tryz.func125, Tryz.ntmps125
        go_wp2_with fail
        refine HCT.out.mono ?_
        rintro e w' ⟨rfl, hw⟩
        have hw' := hw.symm
        subst hw'
        clear hw
        go_wp2
        go_end0
        exact ⟨rfl, H0.out, HM0.out⟩
      · have g0 : decide ((0 : Int) < (ct : Int)) = true := decide_eq_true (by omega)
        rw [if_pos ⟨rfl, h0⟩]
        go_enter Tryz.func125, Tryz.ntmps125
        go_wp2_with fail
        refine HCT.out.mono ?_
        rintro e w' ⟨rfl, hw⟩
        have hw' := hw.symm
        subst hw'
        clear hw
        go_wp2
        go_end0
        exact ⟨rfl, H1.out.1, H1.out.2⟩
    · have g3 : (is == 3) = false := by simpa using h3
      rw [if_neg (fun e => h3 e.1)]
      go_enter Tryz.func125, Tryz.ntmps125
      go_wp2_with fail
      refine HCT.out.mono ?_
      rintro e w' ⟨rfl, hw⟩
      have hw' := hw.symm
      subst hw'
      clear hw
      go_wp2
      go_end0
      exact ⟨rfl, H0.out, HM0.out⟩

theorem JOk.st3 {s : SV} {C : Nat} {j : JV} (h : JOk s C j) : j.stage ≠ 3 := by have := h.stage; omega
theorem JV.state_cases (j : JV) : (j.stage = 1 ∧ (j.state = 1 ∨ j.state = 3)) ∨ (j.stage ≠ 1 ∧ j.state = j.stage) := by
  unfold JV.state
  by_cases h1 : j.stage = 1
  · left
    refine ⟨h1, ?_⟩
    split
    · exact .inr rfl
    · exact .inl h1
  · right
    exact ⟨h1, by rw [if_neg (fun e => h1 e.1)]⟩

/- Turned, its state is what it should be. -/
theorem turn_state {j : JV} {x : Nat} (h3 : j.stage ≠ 3) : turnI j.state (S4.cnt x 64) = (j.put x).state := by
  have key : (j.put x).state = if j.stage = 1 ∧ S4.cnt x 64 = 0 then 3 else j.stage := rfl
  rw [key]
  unfold turnI
  rcases j.state_cases with ⟨h1, hs | hs⟩ | ⟨h1, hs⟩
  · rw [hs, h1]
    by_cases hx : S4.cnt x 64 = 0 <;> simp [hx]
  · rw [hs, h1]
    by_cases hx : S4.cnt x 64 = 0 <;> simp [hx]
  · rw [hs]
    simp [h1, h3]
theorem JV.at_state (j : JV) {st : Int} (h : st ≠ 1) : (j.at st).state = st := by
  have key : (j.at st).state = if st = 1 ∧ S4.cnt j.x 64 = 0 then 3 else st := rfl
  rw [key, if_neg (fun e => h e.1)]

set_option maxRecDepth 100000 in
set_option maxHeartbeats 1000000 in
theorem rwants_any {xp mp cap m C : Nat} {a : Option Addr} {qs : Nat → Qh} {s : SV} {j : JV} {is : Int} (c : Int) (w : World) (h : RJ w mp xp a cap qs s m C j is) :
    Calls Tryz.prog 52 #[.pointer (some ⟨xp, 0, none⟩), .int .i64 c] w fun e w' => e = .returned (.bool (j.wantB s c)) ∧ Below w.heap.size w w' := by
  obtain ⟨c0, c2, c3, c6, c7, c73, c74, f73, f74⟩ := h.job.cells
  have hab : j.above.length = j.deep := by unfold JV.above; rw [List.length_take]; have := h.ok.deep; omega
  have HFD : Hid (∀ W : World, Below w.heap.size w W → Calls Tryz.prog 45 #[.pointer (some ⟨mp, 0, none⟩), .slice a j.deep cap, .int .i64 c] W fun e w' => e = .returned (.int .i64 (s.found j.above c)) ∧ Below W.heap.size W w') := fun W hb => by
    have := rfound_any (cap := cap) j.above c W (h.shelf.below hb) ((h.nums.below hb).take _) (fun n hn => h.ok.good n (List.mem_of_mem_take hn)) (by rw [hab]; have := h.ok.deep; have := h.ok.len; omega)
    rw [hab] at this; exact this
  have hdp := h.ok.deep
  have hcp := h.cap
  have hkd := h.ok.kind
  obtain ⟨g, o, ha, _⟩ := h.nums 0 (List.length_pos_iff.2 h.ok.ne)
  subst ha
  have HC : Hid (∀ W : World, Below w.heap.size w W → W.cell? ⟨xp, 0, none⟩ = some (.pointer (some ⟨mp, 0, none⟩)) ∧ W.cell? ⟨xp, 2, none⟩ = some (.int .i64 j.kind) ∧ W.cell? ⟨xp, 6, none⟩ = some (.slice (some ⟨g, o, none⟩) j.l.length cap) ∧ W.cell? ⟨xp, 7, none⟩ = some (.int .i64 (j.deep : Int))) := fun W hb => by
    obtain ⟨c0, c2, c3, c6, c7, _⟩ := (h.below hb).job.cells
    exact ⟨c0, c2, c6, c7⟩
  clear h c3 c73 c74 f73 f74 hab
  unfold JV.wantB
  have HBD : Hid (Below w.heap.size w w.drew) := (Below.refl _ _).drew
  generalize s.found j.above c = fo at HFD ⊢
  generalize j.deep = dp at HFD hdp c7 HC
  generalize j.l.length = ln at hdp c6 hcp HC
  generalize j.kind = kd at c2 hkd HC ⊢
  have d0 : w.drew.cell? ⟨xp, 0, none⟩ = some (.pointer (some ⟨mp, 0, none⟩)) := c0
  have d6 : w.drew.cell? ⟨xp, 6, none⟩ = some (.slice (some ⟨g, o, none⟩) ln cap) := c6
  have d7 : w.drew.cell? ⟨xp, 7, none⟩ = some (.int .i64 (dp : Int)) := c7
  have q0 : (0 : Int) ≤ (dp : Int) := by omega
  have q1 : (dp : Int) ≤ (cap : Int) := by omega
  have q3 : dp ≤ cap := by omega
  rcases hkd with rfl | rfl | rfl
  · go_enter Tryz.func52, Tryz.ntmps52
    go_wp2
    go_ret
    exact ⟨rfl, Below.refl _ _⟩
  · go_enter Tryz.func52, Tryz.ntmps52
    go_wp2
    go_region_held3 (fun W => W.cell? ⟨xp, 0, none⟩ = some (.pointer (some ⟨mp, 0, none⟩)) ∧ W.cell? ⟨xp, 6, none⟩ = some (.slice (some ⟨g, o, none⟩) ln cap) ∧ W.cell? ⟨xp, 7, none⟩ = some (.int .i64 (dp : Int)))
      (first | (exact ⟨d0, d6, d7⟩) | assumption)
      (first
        | (go_at_call 45; refine (HFD.out _ HBD.out).mono ?_; rintro e w1 ⟨rfl, hb1⟩; have HB1 := toHid (HBD.out.trans (hb1.mono HBD.out.size)); have hS1 : w1.cell? ⟨xp, 0, none⟩ = some (.pointer (some ⟨mp, 0, none⟩)) ∧ w1.cell? ⟨xp, 6, none⟩ = some (.slice (some ⟨g, o, none⟩) ln cap) ∧ w1.cell? ⟨xp, 7, none⟩ = some (.int .i64 (dp : Int)) := ⟨(HC.out _ HB1.out).1, (HC.out _ HB1.out).2.2.1, (HC.out _ HB1.out).2.2.2⟩; clear hb1))
    obtain ⟨_, e2, _, _⟩ := HC.out _ HB1.out
    clear hS1
    by_cases hx : 0 < fo
    · have gx : decide (0 < fo) = true := decide_eq_true hx
      go_wp2
      go_ret
      exact ⟨by first | rfl | simp [gx, hx], HB1.out⟩
    · have gx : decide (0 < fo) = false := decide_eq_false hx
      go_wp2
      go_ret
      exact ⟨by first | rfl | simp [gx, hx], HB1.out⟩
  · go_enter Tryz.func52, Tryz.ntmps52
    go_wp2
    go_region_held3 (fun W => W.cell? ⟨xp, 0, none⟩ = some (.pointer (some ⟨mp, 0, none⟩)) ∧ W.cell? ⟨xp, 6, none⟩ = some (.slice (some ⟨g, o, none⟩) ln cap) ∧ W.cell? ⟨xp, 7, none⟩ = some (.int .i64 (dp : Int)))
      (first | (exact ⟨d0, d6, d7⟩) | assumption)
      (first
        | (go_at_call 45; refine (HFD.out _ HBD.out).mono ?_; rintro e w1 ⟨rfl, hb1⟩; have HB1 := toHid (HBD.out.trans (hb1.mono HBD.out.size)); have hS1 : w1.cell? ⟨xp, 0, none⟩ = some (.pointer (some ⟨mp, 0, none⟩)) ∧ w1.cell? ⟨xp, 6, none⟩ = some (.slice (some ⟨g, o, none⟩) ln cap) ∧ w1.cell? ⟨xp, 7, none⟩ = some (.int .i64 (dp : Int)) := ⟨(HC.out _ HB1.out).1, (HC.out _ HB1.out).2.2.1, (HC.out _ HB1.out).2.2.2⟩; clear hb1))
    obtain ⟨_, e2, _, _⟩ := HC.out _ HB1.out
    clear hS1
    by_cases hx : 0 ≤ fo
    · have gx : decide (0 ≤ fo) = true := decide_eq_true hx
      go_wp2
      go_ret
      exact ⟨by first | rfl | simp [gx, hx], HB1.out⟩
    · have gx : decide (0 ≤ fo) = false := decide_eq_false hx
      go_wp2
      go_ret
      exact ⟨by first | rfl | simp [gx, hx], HB1.out⟩

set_option maxRecDepth 100000 in
set_option maxHeartbeats 1000000 in
theorem rstatus_any {xp mp cap : Nat} {a : Option Addr} {j : JV} {is : Int} (w : World) (h : IsRjob w xp mp a cap j is) :
    Calls Tryz.prog 20 #[.pointer (some ⟨xp, 0, none⟩)] w fun e w' => e = .returned (.agg #[.int .i64 j.kind, .int .i64 j.file, .int .i64 is, .int .i64 (S4.cnt j.x 64 : Nat)]) ∧ Below w.heap.size w w' := by
  have HCT : Hid (∀ W : World, Below w.heap.size w W → Calls Tryz.prog 64 #[.pointer (some ⟨xp, 8, none⟩)] W fun e w' => e = .returned (.int .i64 (S4.cnt j.x 64 : Nat)) ∧ w' = W) := fun W hb => S4.r8count_any W (h.keep (hb.block _ h.lt)).set8
  obtain ⟨c0, c2, c3, c6, c7, c73, c74, f73, f74⟩ := h.cells
  have hjl := h.lt
  clear h c0 c6 c7 c73 f73 f74
  generalize S4.cnt j.x 64 = ct at HCT ⊢
  generalize j.kind = kd at c2 ⊢
  generalize j.file = fl at c3 ⊢
  have HW1 : Hid (Below w.heap.size w (w.alloc (.cells #[.int .i64 0, .int .i64 0, .int .i64 0, .int .i64 0] 56)).drew) := ((Below.refl _ _).alloc (Nat.le_refl _) _).drew
  have e2 : (w.alloc (.cells #[.int .i64 0, .int .i64 0, .int .i64 0, .int .i64 0] 56)).drew.cell? ⟨xp, 2, none⟩ = some (.int .i64 kd) := (HW1.out.cell (p := ⟨xp, 2, none⟩) hjl).trans c2
  have e3 : (w.alloc (.cells #[.int .i64 0, .int .i64 0, .int .i64 0, .int .i64 0] 56)).drew.cell? ⟨xp, 3, none⟩ = some (.int .i64 fl) := (HW1.out.cell (p := ⟨xp, 3, none⟩) hjl).trans c3
  have e5 : (w.alloc (.cells #[.int .i64 0, .int .i64 0, .int .i64 0, .int .i64 0] 56)).drew.cell? ⟨xp, 74, none⟩ = some (.int .i64 is) := (HW1.out.cell (p := ⟨xp, 74, none⟩) hjl).trans c74
  have HK : Hid ((w.alloc (.cells #[.int .i64 kd, .int .i64 fl, .int .i64 is, .int .i64 (ct : Int)] 56)).drew.cell? ⟨xp, 2, none⟩ = some (.int .i64 kd) ∧ (w.alloc (.cells #[.int .i64 kd, .int .i64 fl, .int .i64 is, .int .i64 (ct : Int)] 56)).drew.cell? ⟨xp, 3, none⟩ = some (.int .i64 fl) ∧ (w.alloc (.cells #[.int .i64 kd, .int .i64 fl, .int .i64 is, .int .i64 (ct : Int)] 56)).drew.cell? ⟨xp, 74, none⟩ = some (.int .i64 is)) := by
    have hb : Below w.heap.size w (w.alloc (.cells #[.int .i64 kd, .int .i64 fl, .int .i64 is, .int .i64 (ct : Int)] 56)).drew := ((Below.refl _ _).alloc (Nat.le_refl _) _).drew
    exact ⟨(hb.cell (p := ⟨xp, 2, none⟩) hjl).trans c2, (hb.cell (p := ⟨xp, 3, none⟩) hjl).trans c3, (hb.cell (p := ⟨xp, 74, none⟩) hjl).trans c74⟩
  have HC1 := toHid (HCT.out _ HW1.out)
  clear HCT c2 c3 c74
  go_enter Tryz.func20, Tryz.ntmps20
  go_wp2_with fail
  go_region_held3 (fun W => W.cell? ⟨xp, 2, none⟩ = some (.int .i64 kd) ∧ W.cell? ⟨xp, 3, none⟩ = some (.int .i64 fl) ∧ W.cell? ⟨xp, 74, none⟩ = some (.int .i64 is))
    (first | (exact ⟨e2, e3, e5⟩) | (exact HK.out) | assumption)
    (first
      | (go_at_call 64; refine HC1.out.mono ?_; rintro e w' ⟨rfl, rfl⟩))
  go_wp2
  exact bodyPost_ret (v := .agg #[.int .i64 kd, .int .i64 fl, .int .i64 is, .int .i64 (ct : Int)]) (by simp [results, Tryz.results20, go_sem]) rfl ⟨rfl, (by first | exact ((Below.refl _ _).alloc (Nat.le_refl _) _).drew | exact ((Below.refl _ _).alloc (Nat.le_refl _) _))⟩

/- What a call leaves, from a state that is told. -/
theorem DDid.of {w w' : World} {mp xp cap m C : Nat} {a : Option Addr} {qs : Nat → Qh} {s : SV} {j' : JV} {is : Int} (h : RJ w' mp xp a cap qs s m C j' is) (he : is = j'.state) (hm : Moved (fpR qs s xp) w (fpR qs s xp) w') : DDid mp xp a cap qs s s m C j' w w' := by subst he; exact ⟨qs, h, hm⟩

set_option maxRecDepth 100000 in
set_option maxHeartbeats 2000000 in
theorem rpause_any {xp mp cap m C : Nat} {a : Option Addr} {qs : Nat → Qh} {s : SV} {j : JV} (on : Bool) (w : World) (h : RJ w mp xp a cap qs s m C j j.state) :
    Calls Tryz.prog 56 #[.pointer (some ⟨xp, 0, none⟩), .bool on] w fun e w' => e = .returned (.int .i64 (pauseF j on)) ∧ DDid mp xp a cap qs s s m C (pauseJ j on) w w' := by
  obtain ⟨c0, c2, c3, c6, c7, c73, c74, f73, f74⟩ := h.job.cells
  have h3 := h.ok.st3
  have hst := h.ok.stage
  have HD0 : Hid (DDid mp xp a cap qs s s m C j w w) := DDid.below h (Below.refl _ _)
  have HD2 : Hid (DDid mp xp a cap qs s s m C (j.at 2) w (w.setCell ⟨xp, 74, none⟩ (.int .i64 2))) := DDid.of ((h.set74 2).1.staged (st := 2) (.inr (.inl rfl))) (j.at_state (by decide)).symm (h.set74 2).2
  have hR1 := (h.set74 1).1.staged (st := 1) (.inl rfl)
  have HT := toHid (rturn_any (w.setCell ⟨xp, 74, none⟩ (.int .i64 1)) hR1)
  have HM1 := toHid (h.set74 1).2
  have HTS : Hid (turnI 1 (S4.cnt j.x 64) = (j.at 1).state) := by
    have key : (j.at 1).state = if (1 : Int) = 1 ∧ S4.cnt j.x 64 = 0 then 3 else 1 := rfl
    unfold Hid turnI
    rw [key]
    by_cases hx : S4.cnt j.x 64 = 0 <;> simp [hx]
  rw [show (j.at 1).x = j.x from rfl, HTS.out] at HT
  have hsc := JV.state_cases j
  clear h hR1 c0 c2 c3 c6 c7 c73 f73 HTS
  unfold pauseF pauseJ
  cases on with
  | true =>
    rw [if_pos rfl, if_pos rfl]
    rcases hsc with ⟨h1, hs⟩ | ⟨h1, hs⟩
    · rw [if_pos h1, if_pos h1]
      rcases hs with hs | hs
      · rw [hs] at c74
        clear HT
        go_enter Tryz.func56, Tryz.ntmps56
        go_wp2
        go_ret
        exact ⟨rfl, HD2.out⟩
      · rw [hs] at c74
        clear HT
        go_enter Tryz.func56, Tryz.ntmps56
        go_wp2
        go_ret
        exact ⟨rfl, HD2.out⟩
    · rw [if_neg h1, if_neg h1]
      have g1 : (j.state == 1) = false := by rw [hs]; simpa using h1
      have g3 : (j.state == 3) = false := by rw [hs]; simpa using h3
      clear HT HD2
      generalize j.state = st at c74 g1 g3
      go_enter Tryz.func56, Tryz.ntmps56
      go_wp2
      go_ret
      exact ⟨rfl, HD0.out⟩
  | false =>
    rw [if_neg (show ¬ (false = true) by decide), if_neg (show ¬ (false = true) by decide)]
    by_cases h2 : j.stage = 2
    · rw [if_pos h2, if_pos h2]
      have e2 : j.state = 2 := by
        rcases hsc with ⟨h1, _⟩ | ⟨h1, hs⟩
        · omega
        · rw [hs, h2]
      rw [e2] at c74
      go_enter Tryz.func56, Tryz.ntmps56
      go_wp2_with fail
      refine HT.out.mono ?_
      rintro e w' ⟨rfl, hr, hm⟩
      have HD : Hid (DDid mp xp a cap qs s s m C (j.at 1) w w') := DDid.of hr rfl (HM1.out.trans hm)
      clear hr hm HT
      go_wp2
      go_ret
      exact ⟨rfl, HD.out⟩
    · rw [if_neg h2, if_neg h2]
      have g2 : (j.state == 2) = false := by
        rcases hsc with ⟨h1, hs | hs⟩ | ⟨h1, hs⟩
        · rw [hs]; rfl
        · rw [hs]; rfl
        · rw [hs]; simpa using h2
      clear HT HD2
      generalize j.state = st at c74 g2
      go_enter Tryz.func56, Tryz.ntmps56
      go_wp2
      go_ret
      exact ⟨rfl, HD0.out⟩

set_option maxRecDepth 100000 in
set_option maxHeartbeats 2000000 in
theorem rdirty_any {xp mp cap m C : Nat} {a : Option Addr} {qs : Nat → Qh} {s : SV} {j : JV} (c : Int) (w : World) (h : RJ w mp xp a cap qs s m C j j.state) :
    Calls Tryz.prog 55 #[.pointer (some ⟨xp, 0, none⟩), .int .i64 c] w fun e w' => e = .returned (.tuple #[]) ∧ DDid mp xp a cap qs s s m C (dirtyJ j c) w w' := by
  obtain ⟨c0, c2, c3, c6, c7, c73, c74, f73, f74⟩ := h.job.cells
  have h3 := h.ok.st3
  have hsc := JV.state_cases j
  have HD0 : Hid (DDid mp xp a cap qs s s m C j w w) := DDid.below h (Below.refl _ _)
  have HPT := toHid (S4.r8put_any c true w h.job.set8 h.ok.n64)
  have HPU := toHid (h.putS c true)
  have HTS : Hid (turnI j.state (S4.cnt (S4.putV j.n j.x c true) 64) = (j.put (S4.putV j.n j.x c true)).state) := turn_state h3
  have HTN : Hid (∀ W : World, RJ W mp xp a cap qs s m C (j.put (S4.putV j.n j.x c true)) j.state → Moved (fpR qs s xp) w (fpR qs s xp) W → Calls Tryz.prog 125 #[.pointer (some ⟨xp, 0, none⟩)] W fun e w' => e = .returned (.tuple #[]) ∧ DDid mp xp a cap qs s s m C (j.put (S4.putV j.n j.x c true)) w w') := fun W hr hm => (rturn_any W hr).mono fun e w' ⟨h1, h2, h4⟩ => ⟨h1, DDid.of h2 HTS.out (hm.trans h4)⟩
  clear h c0 c3 c6 c7 c73 f73 HTS
  unfold dirtyJ
  by_cases h4 : 4 ≤ j.stage
  · rw [if_pos (.inr h4)]
    have g4 : decide (j.state < 4) = false := by
      rcases hsc with ⟨h1, _⟩ | ⟨h1, hs⟩
      · omega
      · rw [hs]; exact decide_eq_false (by omega)
    clear HPT HPU HTN
    generalize j.state = st at c74 g4
    go_enter Tryz.func55, Tryz.ntmps55
    go_wp2
    go_end0
    exact ⟨rfl, HD0.out⟩
  · have g4 : decide (j.state < 4) = true := by
      rcases hsc with ⟨h1, hs | hs⟩ | ⟨h1, hs⟩
      · rw [hs]; rfl
      · rw [hs]; rfl
      · rw [hs]; exact decide_eq_true (by omega)
    by_cases hk : j.kind = 2
    · rw [if_pos (.inl hk)]
      have gk : (j.kind != 2) = false := by simpa using hk
      clear HPT HPU HTN
      generalize j.state = st at c74 g4
      go_enter Tryz.func55, Tryz.ntmps55
      go_wp2
      go_end0
      exact ⟨rfl, HD0.out⟩
    · rw [if_neg (by rintro (e | e); exact hk e; exact h4 e)]
      have gk : (j.kind != 2) = true := by simpa using hk
      have HTW := toHid (HTN.out _ HPU.out.1 HPU.out.2)
      generalize (if S4.putB j.n j.x c true = true then w.setCell ⟨xp, 9 + c.toNat, none⟩ (.bool true) else w) = W1 at HPT HTW
      generalize S4.putB j.n j.x c true = pb at HPT
      generalize j.state = st at c74 g4
      clear HPU HTN
      go_enter Tryz.func55, Tryz.ntmps55
      go_wp2_with fail
      refine HPT.out.mono ?_
      rintro e w' ⟨rfl, hw⟩
      have hw' := hw.symm
      subst hw'
      clear hw
      go_wp2_with fail
      refine HTW.out.mono ?_
      rintro e w2 ⟨rfl, hd⟩
      have HD := toHid hd
      clear hd HTW
      go_wp2
      go_end0
      exact ⟨rfl, HD.out⟩
end Go.Proofs.YtjegaljdindfaabGreatDoor
