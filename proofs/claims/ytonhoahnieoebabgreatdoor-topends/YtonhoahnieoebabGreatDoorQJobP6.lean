/-
A step of a job (program).
-/
import Derived.Test.YtonhoahnieoebabGreatDoorQJobP5
import Derived.Test.YtonhoahnieoebabGreatDoorQJobDefs
namespace Go.Proofs.YtonhoahnieoebabGreatDoor
open Go.RowKit Go.Maps
attribute [local go_sem ↓] Go.wp_at_zero Go.wp_at_succ

/- The parts of a step behind the taken tokens. -/
theorem PJ.wentC {w w1 w2 : World} {sp jp lp bp cap m C : Nat} {a : Option Addr} {xs ys : Nat → Ih} {s z : SV} {j : JV} {k : Nat} (hk : k < 64) (h : PJ w1 sp jp lp bp a cap ys z m C j.took) (hm : Moved (fpP xs s jp lp bp) w (fpP ys z jp lp bp) w1) (h1 : S4.IsSet w2 lp j.n (S4.putV j.n j.x (k : Int) false)) (h2 : S4.Kept (fun i => i = lp) w1 w2) :
    w2.cell? ⟨jp, 7, none⟩ = some (.int .i64 j.last) ∧ w2.frozen? ⟨jp, 7, none⟩ = false ∧ PDid sp jp lp bp a cap xs s z m C (j.went (k : Int)) w (w2.setCell ⟨jp, 7, none⟩ (.int .i64 (k : Int))) := by
  obtain ⟨p1, m1⟩ := h.putS (c := (k : Int)) (b := false) h1 h2
  obtain ⟨p2, m2⟩ := p1.set7 (c := (k : Int)) ⟨by omega, by omega⟩
  obtain ⟨_, _, _, _, _, _, _, c7, _, f7⟩ := p1.job.cells
  exact ⟨c7, f7, ys, p2, hm.trans (m1.trans m2)⟩

set_option maxRecDepth 100000 in
set_option maxHeartbeats 2000000 in
theorem jstep_off {sp jp lp bp cap m C : Nat} {a : Option Addr} {xs : Nat → Ih} {s : SV} {j : JV} (w : World) (h : PJ w sp jp lp bp a cap xs s m C j) (h1 : j.stage ≠ 1) :
    Calls Tryz.prog 82 #[.pointer (some ⟨jp, 0, none⟩)] w fun e w' => e = .returned (.tuple #[.bool false, erV 9]) ∧ PDid sp jp lp bp a cap xs s s (m + 10) C j w w' := by
  have HD := toHid ((PDid.refl h).more (show m ≤ m + 10 by omega))
  obtain ⟨c0, c1, c2, c3, c4, c5, c6, c7, f4, f7⟩ := h.job.cells
  have g1 : (j.stage != 1) = true := by simpa using h1
  rw [erV_some (by decide)]
  clear h h1 c0 c1 c2 c3 c5 c6 c7 f4 f7
  go_enter Tryz.func82, Tryz.ntmps82
  go_wp2
  go_ret2
  exact ⟨rfl, HD.out⟩

set_option maxRecDepth 100000 in
set_option maxHeartbeats 2000000 in
theorem jstep_none {sp jp lp bp cap m C : Nat} {a : Option Addr} {xs : Nat → Ih} {s : SV} {j : JV} (w : World) (h : PJ w sp jp lp bp a cap xs s m C j) (hT : S4.Tab w) (h1 : j.stage = 1) (hso : j.some = false) :
    Calls Tryz.prog 82 #[.pointer (some ⟨jp, 0, none⟩)] w fun e w' => e = .returned (.tuple #[.bool false, .nilIface]) ∧ PDid sp jp lp bp a cap xs s s (m + 10) C j w w' := by
  have HP := toHid h
  obtain ⟨c0, c1, c2, c3, c4, c5, c6, c7, f4, f7⟩ := h.job.cells
  rw [h1] at c4
  have HBD : Hid (Below w.heap.size w w.drew) := (Below.refl _ _).drew
  have hsl : S4.ElOf j.x (S4.elems j.x) := ⟨rfl⟩
  have HNX : Hid (Calls Tryz.prog 192 #[.pointer (some ⟨lp, 0, none⟩), .int .i64 (j.last + 1)] w.drew fun e w' => e = .returned (.tuple #[.int .i64 j.pick, .bool j.some]) ∧ Below w.drew.heap.size w.drew w') := S4.snext_any (S4.elems j.x) hsl (j.last + 1) w.drew (h.job.set.below HBD.out) h.ok.set hT
  have HC : Hid (∀ W : World, Below w.heap.size w W → W.cell? ⟨jp, 5, none⟩ = some (.pointer (some ⟨lp, 0, none⟩)) ∧ W.cell? ⟨jp, 7, none⟩ = some (.int .i64 j.last)) := fun W hb => by
    obtain ⟨c0, c1, c2, c3, c4, c5, c6, c7, _⟩ := (h.below hb).job.cells
    exact ⟨c5, c7⟩
  have hla := h.ok.last
  have hadd : IntKind.i64.wrap (j.last + 1) = j.last + 1 := IntWalk.i64_in _ (by omega)
  have d5 : w.drew.cell? ⟨jp, 5, none⟩ = some (.pointer (some ⟨lp, 0, none⟩)) := c5
  have d7 : w.drew.cell? ⟨jp, 7, none⟩ = some (.int .i64 j.last) := c7
  rw [hso] at HNX
  have HD0 : Hid (∀ W : World, Below w.heap.size w W → PDid sp jp lp bp a cap xs s s (m + 10) C j w W) := fun W hb => (PDid.below h hb).more (by omega)
  clear h HP hT hsl hso h1 c0 c1 c2 c3 c5 c6 c7 f4 f7
  generalize j.pick = pk at HNX
  generalize j.last = lst at HNX hla hadd d7 HC
  go_enter Tryz.func82, Tryz.ntmps82
  go_wp2
  go_region_held3 (fun W => W.cell? ⟨jp, 5, none⟩ = some (.pointer (some ⟨lp, 0, none⟩)) ∧ W.cell? ⟨jp, 7, none⟩ = some (.int .i64 lst))
    (first | (exact ⟨d5, d7⟩) | assumption)
    (first
      | (go_at_call 192; refine HNX.out.mono ?_; rintro e w1 ⟨rfl, hb1⟩; have HB1 := toHid (HBD.out.trans (hb1.mono HBD.out.size)); have hS1 := HC.out _ HB1.out; clear hb1))
  have HD := toHid (HD0.out _ HB1.out)
  clear hS1
  go_wp2
  go_ret2
  exact ⟨rfl, HD.out⟩

set_option maxRecDepth 100000 in
set_option maxHeartbeats 2000000 in
theorem jstep_poor {sp jp lp bp cap m C : Nat} {a : Option Addr} {xs : Nat → Ih} {s : SV} {j : JV} (w : World) (h : PJ w sp jp lp bp a cap xs s m C j) (hT : S4.Tab w) (h1 : j.stage = 1) (hso : j.some = true) (hlv : S4.inB 4 j.lv = false) :
    Calls Tryz.prog 82 #[.pointer (some ⟨jp, 0, none⟩)] w fun e w' => e = .returned (.tuple #[.bool false, .nilIface]) ∧ PDid sp jp lp bp a cap xs s s (m + 10) C j w w' := by
  have HP := toHid h
  obtain ⟨c0, c1, c2, c3, c4, c5, c6, c7, f4, f7⟩ := h.job.cells
  rw [h1] at c4
  have HBD : Hid (Below w.heap.size w w.drew) := (Below.refl _ _).drew
  have hsl : S4.ElOf j.x (S4.elems j.x) := ⟨rfl⟩
  have HNX : Hid (Calls Tryz.prog 192 #[.pointer (some ⟨lp, 0, none⟩), .int .i64 (j.last + 1)] w.drew fun e w' => e = .returned (.tuple #[.int .i64 j.pick, .bool j.some]) ∧ Below w.drew.heap.size w.drew w') := S4.snext_any (S4.elems j.x) hsl (j.last + 1) w.drew (h.job.set.below HBD.out) h.ok.set hT
  have HC : Hid (∀ W : World, Below w.heap.size w W → W.cell? ⟨jp, 5, none⟩ = some (.pointer (some ⟨lp, 0, none⟩)) ∧ W.cell? ⟨jp, 7, none⟩ = some (.int .i64 j.last)) := fun W hb => by
    obtain ⟨c0, c1, c2, c3, c4, c5, c6, c7, _⟩ := (h.below hb).job.cells
    exact ⟨c5, c7⟩
  have hla := h.ok.last
  have hadd : IntKind.i64.wrap (j.last + 1) = j.last + 1 := IntWalk.i64_in _ (by omega)
  have d5 : w.drew.cell? ⟨jp, 5, none⟩ = some (.pointer (some ⟨lp, 0, none⟩)) := c5
  have d7 : w.drew.cell? ⟨jp, 7, none⟩ = some (.int .i64 j.last) := c7
  rw [hso] at HNX
  have HC6 : Hid (∀ W : World, Below w.heap.size w W → W.cell? ⟨jp, 6, none⟩ = some (.pointer (some ⟨bp, 0, none⟩))) := fun W hb => by
    obtain ⟨c0, c1, c2, c3, c4, c5, c6, c7, _⟩ := (h.below hb).job.cells
    exact c6
  have HTK : Hid (∀ W : World, Below w.heap.size w W → Calls Tryz.prog 193 #[.pointer (some ⟨bp, 0, none⟩), .int .i64 4] W fun e w' => e = .returned (.bool (S4.inB 4 j.lv)) ∧ S4.Three 245 w' bp j.rate j.burst (S4.takeV j.lv 4) ∧ S4.Kept (fun k => k = bp) W w') := fun W hb => S4.btake_any 4 W (h.job.bkt.below hb) ⟨h.ok.lv.1, by have := h.ok.lv; omega⟩
  have htv : S4.takeV j.lv 4 = j.lv := by unfold S4.takeV; rw [hlv]; rfl
  rw [hlv, htv] at HTK
  have HPU : Hid (∀ W w' : World, Below w.heap.size w W → S4.Three 245 w' bp j.rate j.burst j.lv → S4.Kept (fun k => k = bp) W w' → PDid sp jp lp bp a cap xs s s (m + 10) C j w w') := fun W w' hb h1 h2 => by
    obtain ⟨p1, m1⟩ := (HP.out.below hb).putL h1 h2 ⟨HP.out.ok.lv.1, HP.out.ok.lv.2.1⟩
    exact ⟨xs, p1.more (by omega), (Moved.of_below hb).trans m1⟩
  clear h HP hT hsl hso h1 c0 c1 c2 c3 c5 c6 c7 f4 f7 hlv htv
  generalize j.pick = pk at HNX
  generalize j.last = lst at HNX hla hadd d7 HC
  go_enter Tryz.func82, Tryz.ntmps82
  go_wp2
  go_region_held3 (fun W => W.cell? ⟨jp, 5, none⟩ = some (.pointer (some ⟨lp, 0, none⟩)) ∧ W.cell? ⟨jp, 7, none⟩ = some (.int .i64 lst))
    (first | (exact ⟨d5, d7⟩) | assumption)
    (first
      | (go_at_call 192; refine HNX.out.mono ?_; rintro e w1 ⟨rfl, hb1⟩; have HB1 := toHid (HBD.out.trans (hb1.mono HBD.out.size)); have hS1 := HC.out _ HB1.out; clear hb1))
  have e6 := HC6.out _ HB1.out
  clear hS1 HC6 HC
  go_wp2_with fail
  refine (HTK.out _ HB1.out).mono ?_
  rintro e w2 ⟨rfl, h1, h2⟩
  have HD := toHid (HPU.out _ _ HB1.out h1 h2)
  clear h1 h2 e6 HTK HPU HB1
  go_wp2
  go_ret2
  exact ⟨rfl, HD.out⟩

set_option maxRecDepth 100000 in
set_option maxHeartbeats 2000000 in
theorem jstep_skip {sp jp lp bp cap m C : Nat} {a : Option Addr} {xs : Nat → Ih} {s : SV} {j : JV} (w : World) (h : PJ w sp jp lp bp a cap xs s m C j) (hT : S4.Tab w) (h1 : j.stage = 1) (hso : j.some = true) (hlv : S4.inB 4 j.lv = true) (hwt : j.wantB s j.pick = false) :
    Calls Tryz.prog 82 #[.pointer (some ⟨jp, 0, none⟩)] w fun e w' => e = .returned (.tuple #[.bool true, .nilIface]) ∧ PDid sp jp lp bp a cap xs s s (m + 10) C (j.went j.pick) w w' := by
  have HP := toHid h
  obtain ⟨c0, c1, c2, c3, c4, c5, c6, c7, f4, f7⟩ := h.job.cells
  rw [h1] at c4
  have HBD : Hid (Below w.heap.size w w.drew) := (Below.refl _ _).drew
  have hsl : S4.ElOf j.x (S4.elems j.x) := ⟨rfl⟩
  have HNX : Hid (Calls Tryz.prog 192 #[.pointer (some ⟨lp, 0, none⟩), .int .i64 (j.last + 1)] w.drew fun e w' => e = .returned (.tuple #[.int .i64 j.pick, .bool j.some]) ∧ Below w.drew.heap.size w.drew w') := S4.snext_any (S4.elems j.x) hsl (j.last + 1) w.drew (h.job.set.below HBD.out) h.ok.set hT
  have HC : Hid (∀ W : World, Below w.heap.size w W → W.cell? ⟨jp, 5, none⟩ = some (.pointer (some ⟨lp, 0, none⟩)) ∧ W.cell? ⟨jp, 7, none⟩ = some (.int .i64 j.last)) := fun W hb => by
    obtain ⟨c0, c1, c2, c3, c4, c5, c6, c7, _⟩ := (h.below hb).job.cells
    exact ⟨c5, c7⟩
  have hla := h.ok.last
  have hadd : IntKind.i64.wrap (j.last + 1) = j.last + 1 := IntWalk.i64_in _ (by omega)
  have d5 : w.drew.cell? ⟨jp, 5, none⟩ = some (.pointer (some ⟨lp, 0, none⟩)) := c5
  have d7 : w.drew.cell? ⟨jp, 7, none⟩ = some (.int .i64 j.last) := c7
  rw [hso] at HNX
  have HC6 : Hid (∀ W : World, Below w.heap.size w W → W.cell? ⟨jp, 6, none⟩ = some (.pointer (some ⟨bp, 0, none⟩))) := fun W hb => by
    obtain ⟨c0, c1, c2, c3, c4, c5, c6, c7, _⟩ := (h.below hb).job.cells
    exact c6
  have HTK : Hid (∀ W : World, Below w.heap.size w W → Calls Tryz.prog 193 #[.pointer (some ⟨bp, 0, none⟩), .int .i64 4] W fun e w' => e = .returned (.bool (S4.inB 4 j.lv)) ∧ S4.Three 245 w' bp j.rate j.burst (S4.takeV j.lv 4) ∧ S4.Kept (fun k => k = bp) W w') := fun W hb => S4.btake_any 4 W (h.job.bkt.below hb) ⟨h.ok.lv.1, by have := h.ok.lv; omega⟩
  have h4 : 4 ≤ j.lv := by unfold S4.inB at hlv; simp at hlv; omega
  have htv : S4.takeV j.lv 4 = j.lv - 4 := by unfold S4.takeV; rw [hlv]; rfl
  rw [hlv, htv] at HTK
  have HPU : Hid (∀ W w' : World, Below w.heap.size w W → S4.Three 245 w' bp j.rate j.burst (j.lv - 4) → S4.Kept (fun k => k = bp) W w' → PJ w' sp jp lp bp a cap xs s m C j.took ∧ Moved (fpP xs s jp lp bp) w (fpP xs s jp lp bp) w') := fun W w' hb h1 h2 => by
    obtain ⟨p1, m1⟩ := (HP.out.below hb).putL h1 h2 ⟨by omega, by have := HP.out.ok.lv; omega⟩
    exact ⟨p1, (Moved.of_below hb).trans m1⟩
  obtain ⟨k, hpk, hkC, hk64⟩ := h.ok.pick hso
  rw [hpk] at HNX hwt ⊢
  clear h HP hT hsl hso h1 c0 c1 c2 c3 c5 c6 c7 f4 f7 hlv htv hpk h4
  generalize hlst : j.last = lst at HNX hla hadd d7 HC
  go_enter Tryz.func82, Tryz.ntmps82
  go_wp2
  go_region_held3 (fun W => W.cell? ⟨jp, 5, none⟩ = some (.pointer (some ⟨lp, 0, none⟩)) ∧ W.cell? ⟨jp, 7, none⟩ = some (.int .i64 lst))
    (first | (exact ⟨d5, d7⟩) | assumption)
    (first
      | (go_at_call 192; refine HNX.out.mono ?_; rintro e w1 ⟨rfl, hb1⟩; have HB1 := toHid (HBD.out.trans (hb1.mono HBD.out.size)); have hS1 := HC.out _ HB1.out; clear hb1))
  have e6 := HC6.out _ HB1.out
  clear hS1 HC6 HC d5 d7 HNX
  go_wp2_with fail
  refine (HTK.out _ HB1.out).mono ?_
  rintro e w2 ⟨rfl, h1, h2⟩
  obtain ⟨p2, m2⟩ := HPU.out _ _ HB1.out h1 h2
  have HM2 := toHid m2
  have HP2 := toHid p2
  have HWN := toHid (wants_any (k : Int) w2 (p2.job.hd p2.cap) p2.shelf p2.nums p2.ok)
  rw [show j.took.wantB s (k : Int) = j.wantB s (k : Int) from rfl, hwt] at HWN
  clear h1 h2 p2 m2 e6 HTK HPU HB1 HBD
  go_wp2_with fail
  refine HWN.out.mono ?_
  rintro e w3 ⟨rfl, hb3⟩
  have HP3 := toHid (HP2.out.below hb3)
  have HM3 := toHid (HM2.out.trans (Moved.of_below hb3))
  clear hb3 HWN HP2 HM2
  have e5 := HP3.out.job.cells.2.2.2.2.2.1
  have HPT : Hid (Calls Tryz.prog 196 #[.pointer (some ⟨lp, 0, none⟩), .int .i64 (k : Int), .bool false] w3 fun e w' => e = .returned (.bool (S4.putB j.n j.x (k : Int) false)) ∧ S4.IsSet w' lp j.n (S4.putV j.n j.x (k : Int) false) ∧ S4.Kept (fun i => i = lp) w3 w') := S4.sput_any (k : Int) false w3 HP3.out.job.set HP3.out.ok.set
  generalize S4.putB j.n j.x (k : Int) false = pb at HPT
  go_wp2_with fail
  refine HPT.out.mono ?_
  rintro e w6 ⟨rfl, h1, h2⟩
  obtain ⟨c7, f7, hd⟩ := PJ.wentC hk64 HP3.out HM3.out h1 h2
  have HD := toHid (hd.more (show m ≤ m + 10 by omega))
  clear hd h1 h2 HPT e5 HP3 HM3
  go_wp2
  go_ret2
  exact ⟨rfl, HD.out⟩

set_option maxRecDepth 100000 in
set_option maxHeartbeats 2000000 in
theorem jstep_move {sp jp lp bp cap m C : Nat} {a : Option Addr} {xs : Nat → Ih} {s : SV} {j : JV} (w : World) (h : PJ w sp jp lp bp a cap xs s m C j) (hT : S4.Tab w) (hm : m + 10 < 1000000000) (h1 : j.stage = 1) (hso : j.some = true) (hlv : S4.inB 4 j.lv = true) (hwt : j.wantB s j.pick = true) (hR : (j.moved s j.pick).2 = 0) :
    Calls Tryz.prog 82 #[.pointer (some ⟨jp, 0, none⟩)] w fun e w' => e = .returned (.tuple #[.bool true, .nilIface]) ∧ PDid sp jp lp bp a cap xs s (j.moved s j.pick).1 (m + 10) C (j.went j.pick) w w' := by
  have HP := toHid h
  obtain ⟨c0, c1, c2, c3, c4, c5, c6, c7, f4, f7⟩ := h.job.cells
  rw [h1] at c4
  have HBD : Hid (Below w.heap.size w w.drew) := (Below.refl _ _).drew
  have hsl : S4.ElOf j.x (S4.elems j.x) := ⟨rfl⟩
  have HNX : Hid (Calls Tryz.prog 192 #[.pointer (some ⟨lp, 0, none⟩), .int .i64 (j.last + 1)] w.drew fun e w' => e = .returned (.tuple #[.int .i64 j.pick, .bool j.some]) ∧ Below w.drew.heap.size w.drew w') := S4.snext_any (S4.elems j.x) hsl (j.last + 1) w.drew (h.job.set.below HBD.out) h.ok.set hT
  have HC : Hid (∀ W : World, Below w.heap.size w W → W.cell? ⟨jp, 5, none⟩ = some (.pointer (some ⟨lp, 0, none⟩)) ∧ W.cell? ⟨jp, 7, none⟩ = some (.int .i64 j.last)) := fun W hb => by
    obtain ⟨c0, c1, c2, c3, c4, c5, c6, c7, _⟩ := (h.below hb).job.cells
    exact ⟨c5, c7⟩
  have hla := h.ok.last
  have hadd : IntKind.i64.wrap (j.last + 1) = j.last + 1 := IntWalk.i64_in _ (by omega)
  have d5 : w.drew.cell? ⟨jp, 5, none⟩ = some (.pointer (some ⟨lp, 0, none⟩)) := c5
  have d7 : w.drew.cell? ⟨jp, 7, none⟩ = some (.int .i64 j.last) := c7
  rw [hso] at HNX
  have HC6 : Hid (∀ W : World, Below w.heap.size w W → W.cell? ⟨jp, 6, none⟩ = some (.pointer (some ⟨bp, 0, none⟩))) := fun W hb => by
    obtain ⟨c0, c1, c2, c3, c4, c5, c6, c7, _⟩ := (h.below hb).job.cells
    exact c6
  have HTK : Hid (∀ W : World, Below w.heap.size w W → Calls Tryz.prog 193 #[.pointer (some ⟨bp, 0, none⟩), .int .i64 4] W fun e w' => e = .returned (.bool (S4.inB 4 j.lv)) ∧ S4.Three 245 w' bp j.rate j.burst (S4.takeV j.lv 4) ∧ S4.Kept (fun k => k = bp) W w') := fun W hb => S4.btake_any 4 W (h.job.bkt.below hb) ⟨h.ok.lv.1, by have := h.ok.lv; omega⟩
  have h4 : 4 ≤ j.lv := by unfold S4.inB at hlv; simp at hlv; omega
  have htv : S4.takeV j.lv 4 = j.lv - 4 := by unfold S4.takeV; rw [hlv]; rfl
  rw [hlv, htv] at HTK
  have HPU : Hid (∀ W w' : World, Below w.heap.size w W → S4.Three 245 w' bp j.rate j.burst (j.lv - 4) → S4.Kept (fun k => k = bp) W w' → PJ w' sp jp lp bp a cap xs s m C j.took ∧ Moved (fpP xs s jp lp bp) w (fpP xs s jp lp bp) w') := fun W w' hb h1 h2 => by
    obtain ⟨p1, m1⟩ := (HP.out.below hb).putL h1 h2 ⟨by omega, by have := HP.out.ok.lv; omega⟩
    exact ⟨p1, (Moved.of_below hb).trans m1⟩
  obtain ⟨k, hpk, hkC, hk64⟩ := h.ok.pick hso
  rw [hpk] at HNX hwt hR ⊢
  clear h HP hT hsl hso h1 c0 c1 c2 c3 c5 c6 c7 f4 f7 hlv htv hpk h4
  generalize hlst : j.last = lst at HNX hla hadd d7 HC
  go_enter Tryz.func82, Tryz.ntmps82
  go_wp2
  go_region_held3 (fun W => W.cell? ⟨jp, 5, none⟩ = some (.pointer (some ⟨lp, 0, none⟩)) ∧ W.cell? ⟨jp, 7, none⟩ = some (.int .i64 lst))
    (first | (exact ⟨d5, d7⟩) | assumption)
    (first
      | (go_at_call 192; refine HNX.out.mono ?_; rintro e w1 ⟨rfl, hb1⟩; have HB1 := toHid (HBD.out.trans (hb1.mono HBD.out.size)); have hS1 := HC.out _ HB1.out; clear hb1))
  have e6 := HC6.out _ HB1.out
  clear hS1 HC6 HC d5 d7 HNX
  go_wp2_with fail
  refine (HTK.out _ HB1.out).mono ?_
  rintro e w2 ⟨rfl, h1, h2⟩
  obtain ⟨p2, m2⟩ := HPU.out _ _ HB1.out h1 h2
  have HM2 := toHid m2
  have HP2 := toHid p2
  have HWN := toHid (wants_any (k : Int) w2 (p2.job.hd p2.cap) p2.shelf p2.nums p2.ok)
  rw [show j.took.wantB s (k : Int) = j.wantB s (k : Int) from rfl, hwt] at HWN
  clear h1 h2 p2 m2 e6 HTK HPU HB1 HBD
  go_wp2_with fail
  refine HWN.out.mono ?_
  rintro e w3 ⟨rfl, hb3⟩
  have HP3 := toHid (HP2.out.below hb3)
  have HM3 := toHid (HM2.out.trans (Moved.of_below hb3))
  clear hb3 HWN HP2 HM2
  have HMV : Hid (Calls Tryz.prog 195 #[.pointer (some ⟨jp, 0, none⟩), .int .i64 (k : Int)] w3 fun e w' => e = .returned (erV (j.moved s (k : Int)).2) ∧ PDid sp jp lp bp a cap xs s (j.moved s (k : Int)).1 (m + 10) C j.took w3 w') := jmove_any k w3 HP3.out hkC hm
  generalize hRR : j.moved s (k : Int) = R at HMV hR ⊢
  rw [hR, erV_0] at HMV
  go_wp2_with fail
  refine HMV.out.mono ?_
  rintro e w4 ⟨rfl, zs, p4, m4⟩
  have HP4 := toHid p4
  have HM4 := toHid (HM3.out.trans m4)
  clear p4 m4 HMV HP3 HM3
  have e5 := HP4.out.job.cells.2.2.2.2.2.1
  have HPT : Hid (Calls Tryz.prog 196 #[.pointer (some ⟨lp, 0, none⟩), .int .i64 (k : Int), .bool false] w4 fun e w' => e = .returned (.bool (S4.putB j.n j.x (k : Int) false)) ∧ S4.IsSet w' lp j.n (S4.putV j.n j.x (k : Int) false) ∧ S4.Kept (fun i => i = lp) w4 w') := S4.sput_any (k : Int) false w4 HP4.out.job.set HP4.out.ok.set
  generalize S4.putB j.n j.x (k : Int) false = pb at HPT
  go_wp2_with fail
  refine HPT.out.mono ?_
  rintro e w6 ⟨rfl, h1, h2⟩
  obtain ⟨c7, f7, hd⟩ := PJ.wentC hk64 HP4.out HM4.out h1 h2
  have HD := toHid (hd.more (show m + 10 ≤ m + 10 by omega))
  clear hd h1 h2 HPT e5 HP4 HM4
  go_wp2
  go_ret2
  exact ⟨rfl, by rw [hRR]; exact HD.out⟩

set_option maxRecDepth 100000 in
set_option maxHeartbeats 2000000 in
theorem jstep_fall {sp jp lp bp cap m C : Nat} {a : Option Addr} {xs : Nat → Ih} {s : SV} {j : JV} (w : World) (h : PJ w sp jp lp bp a cap xs s m C j) (hT : S4.Tab w) (hm : m + 10 < 1000000000) (h1 : j.stage = 1) (hso : j.some = true) (hlv : S4.inB 4 j.lv = true) (hwt : j.wantB s j.pick = true) (hR : (j.moved s j.pick).2 ≠ 0) :
    Calls Tryz.prog 82 #[.pointer (some ⟨jp, 0, none⟩)] w fun e w' => e = .returned (.tuple #[.bool false, erV (j.moved s j.pick).2]) ∧ PDid sp jp lp bp a cap xs s (j.moved s j.pick).1 (m + 10) C j.fell w w' := by
  have HP := toHid h
  obtain ⟨c0, c1, c2, c3, c4, c5, c6, c7, f4, f7⟩ := h.job.cells
  rw [h1] at c4
  have HBD : Hid (Below w.heap.size w w.drew) := (Below.refl _ _).drew
  have hsl : S4.ElOf j.x (S4.elems j.x) := ⟨rfl⟩
  have HNX : Hid (Calls Tryz.prog 192 #[.pointer (some ⟨lp, 0, none⟩), .int .i64 (j.last + 1)] w.drew fun e w' => e = .returned (.tuple #[.int .i64 j.pick, .bool j.some]) ∧ Below w.drew.heap.size w.drew w') := S4.snext_any (S4.elems j.x) hsl (j.last + 1) w.drew (h.job.set.below HBD.out) h.ok.set hT
  have HC : Hid (∀ W : World, Below w.heap.size w W → W.cell? ⟨jp, 5, none⟩ = some (.pointer (some ⟨lp, 0, none⟩)) ∧ W.cell? ⟨jp, 7, none⟩ = some (.int .i64 j.last)) := fun W hb => by
    obtain ⟨c0, c1, c2, c3, c4, c5, c6, c7, _⟩ := (h.below hb).job.cells
    exact ⟨c5, c7⟩
  have hla := h.ok.last
  have hadd : IntKind.i64.wrap (j.last + 1) = j.last + 1 := IntWalk.i64_in _ (by omega)
  have d5 : w.drew.cell? ⟨jp, 5, none⟩ = some (.pointer (some ⟨lp, 0, none⟩)) := c5
  have d7 : w.drew.cell? ⟨jp, 7, none⟩ = some (.int .i64 j.last) := c7
  rw [hso] at HNX
  have HC6 : Hid (∀ W : World, Below w.heap.size w W → W.cell? ⟨jp, 6, none⟩ = some (.pointer (some ⟨bp, 0, none⟩))) := fun W hb => by
    obtain ⟨c0, c1, c2, c3, c4, c5, c6, c7, _⟩ := (h.below hb).job.cells
    exact c6
  have HTK : Hid (∀ W : World, Below w.heap.size w W → Calls Tryz.prog 193 #[.pointer (some ⟨bp, 0, none⟩), .int .i64 4] W fun e w' => e = .returned (.bool (S4.inB 4 j.lv)) ∧ S4.Three 245 w' bp j.rate j.burst (S4.takeV j.lv 4) ∧ S4.Kept (fun k => k = bp) W w') := fun W hb => S4.btake_any 4 W (h.job.bkt.below hb) ⟨h.ok.lv.1, by have := h.ok.lv; omega⟩
  have h4 : 4 ≤ j.lv := by unfold S4.inB at hlv; simp at hlv; omega
  have htv : S4.takeV j.lv 4 = j.lv - 4 := by unfold S4.takeV; rw [hlv]; rfl
  rw [hlv, htv] at HTK
  have HPU : Hid (∀ W w' : World, Below w.heap.size w W → S4.Three 245 w' bp j.rate j.burst (j.lv - 4) → S4.Kept (fun k => k = bp) W w' → PJ w' sp jp lp bp a cap xs s m C j.took ∧ Moved (fpP xs s jp lp bp) w (fpP xs s jp lp bp) w') := fun W w' hb h1 h2 => by
    obtain ⟨p1, m1⟩ := (HP.out.below hb).putL h1 h2 ⟨by omega, by have := HP.out.ok.lv; omega⟩
    exact ⟨p1, (Moved.of_below hb).trans m1⟩
  obtain ⟨k, hpk, hkC, hk64⟩ := h.ok.pick hso
  rw [hpk] at HNX hwt hR ⊢
  clear h HP hT hsl hso h1 c0 c1 c2 c3 c5 c6 c7 f4 f7 hlv htv hpk h4
  generalize hlst : j.last = lst at HNX hla hadd d7 HC
  go_enter Tryz.func82, Tryz.ntmps82
  go_wp2
  go_region_held3 (fun W => W.cell? ⟨jp, 5, none⟩ = some (.pointer (some ⟨lp, 0, none⟩)) ∧ W.cell? ⟨jp, 7, none⟩ = some (.int .i64 lst))
    (first | (exact ⟨d5, d7⟩) | assumption)
    (first
      | (go_at_call 192; refine HNX.out.mono ?_; rintro e w1 ⟨rfl, hb1⟩; have HB1 := toHid (HBD.out.trans (hb1.mono HBD.out.size)); have hS1 := HC.out _ HB1.out; clear hb1))
  have e6 := HC6.out _ HB1.out
  clear hS1 HC6 HC d5 d7 HNX
  go_wp2_with fail
  refine (HTK.out _ HB1.out).mono ?_
  rintro e w2 ⟨rfl, h1, h2⟩
  obtain ⟨p2, m2⟩ := HPU.out _ _ HB1.out h1 h2
  have HM2 := toHid m2
  have HP2 := toHid p2
  have HWN := toHid (wants_any (k : Int) w2 (p2.job.hd p2.cap) p2.shelf p2.nums p2.ok)
  rw [show j.took.wantB s (k : Int) = j.wantB s (k : Int) from rfl, hwt] at HWN
  clear h1 h2 p2 m2 e6 HTK HPU HB1 HBD
  go_wp2_with fail
  refine HWN.out.mono ?_
  rintro e w3 ⟨rfl, hb3⟩
  have HP3 := toHid (HP2.out.below hb3)
  have HM3 := toHid (HM2.out.trans (Moved.of_below hb3))
  clear hb3 HWN HP2 HM2
  have HMV : Hid (Calls Tryz.prog 195 #[.pointer (some ⟨jp, 0, none⟩), .int .i64 (k : Int)] w3 fun e w' => e = .returned (erV (j.moved s (k : Int)).2) ∧ PDid sp jp lp bp a cap xs s (j.moved s (k : Int)).1 (m + 10) C j.took w3 w') := jmove_any k w3 HP3.out hkC hm
  generalize hRR : j.moved s (k : Int) = R at HMV hR ⊢
  rw [erV_some hR] at HMV
  go_wp2_with fail
  refine HMV.out.mono ?_
  rintro e w4 ⟨rfl, zs, p4, m4⟩
  have HEN : Hid (Calls Tryz.prog 95 #[.pointer (some ⟨jp, 0, none⟩), .bool false] w4 fun e w' => e = .returned (.tuple #[]) ∧ PDid sp jp lp bp a cap xs s R.1 (m + 10) C j.fell w w') := (end_any false w4 p4).mono fun e w' ⟨h3, h4⟩ => ⟨h3, PDid.after (HM3.out.trans m4) h4⟩
  clear p4 m4 HMV HP3 HM3
  go_wp2_with fail
  refine HEN.out.mono ?_
  rintro e w5 ⟨rfl, hd⟩
  have HD := toHid hd
  clear hd HEN
  go_wp2
  go_ret2
  exact ⟨by rw [hRR, erV_some hR]; rfl, by rw [hRR]; exact HD.out⟩

theorem jstep_any {sp jp lp bp cap m C : Nat} {a : Option Addr} {xs : Nat → Ih} {s : SV} {j : JV} (w : World) (h : PJ w sp jp lp bp a cap xs s m C j) (hT : S4.Tab w) (hm : m + 10 < 1000000000) :
    Calls Tryz.prog 82 #[.pointer (some ⟨jp, 0, none⟩)] w fun e w' => e = .returned (.tuple #[.bool (stepB s j), erV (stepF s j)]) ∧ PDid sp jp lp bp a cap xs s (stepS s j) (m + 10) C (stepJ s j) w w' := by
  unfold stepB stepF stepS stepJ
  by_cases h1 : j.stage = 1
  · cases hso : j.some with
    | false =>
      rw [decide_eq_false (fun e => absurd e.2.1 (by decide)), if_pos h1, if_neg (fun e => absurd e.1 (by decide)), if_neg (fun e => absurd e.2.1 (by decide)), if_neg (fun e => absurd e.2.1 (by decide)), erV_0]
      exact jstep_none w h hT h1 hso
    | true =>
      cases hlv : S4.inB 4 j.lv with
      | false =>
        rw [decide_eq_false (fun e => absurd e.2.2.1 (by decide)), if_pos h1, if_neg (fun e => absurd e.2.1 (by decide)), if_neg (fun e => absurd e.2.2.1 (by decide)), if_neg (fun e => absurd e.2.2 (by decide)), erV_0]
        exact jstep_poor w h hT h1 hso hlv
      | true =>
        cases hwt : j.wantB s j.pick with
        | false =>
          rw [decide_eq_true ⟨h1, rfl, rfl, fun e => absurd e.1 (by decide)⟩, if_pos h1, if_neg (fun e => absurd e.2.2 (by decide)), if_neg (fun e => absurd e.2.2.2 (by decide)), if_pos ⟨h1, rfl, rfl⟩, if_neg (fun e => absurd e.1 (by decide)), erV_0]
          exact jstep_skip w h hT h1 hso hlv hwt
        | true =>
          by_cases hR : (j.moved s j.pick).2 = 0
          · rw [decide_eq_true ⟨h1, rfl, rfl, fun e => e.2 hR⟩, if_pos h1, if_pos ⟨rfl, rfl, rfl⟩, if_pos ⟨h1, rfl, rfl, rfl⟩, if_pos ⟨h1, rfl, rfl⟩, if_neg (fun e => e.2 hR), hR, erV_0]
            exact jstep_move w h hT hm h1 hso hlv hwt hR
          · rw [decide_eq_false (fun e => e.2.2.2 ⟨rfl, hR⟩), if_pos h1, if_pos ⟨rfl, rfl, rfl⟩, if_pos ⟨h1, rfl, rfl, rfl⟩, if_pos ⟨h1, rfl, rfl⟩, if_pos ⟨rfl, hR⟩]
            exact jstep_fall w h hT hm h1 hso hlv hwt hR
  · rw [decide_eq_false (fun e => h1 e.1), if_neg h1, if_neg (fun e => h1 e.1), if_neg (fun e => h1 e.1)]
    exact jstep_off w h h1
end Go.Proofs.YtonhoahnieoebabGreatDoor
