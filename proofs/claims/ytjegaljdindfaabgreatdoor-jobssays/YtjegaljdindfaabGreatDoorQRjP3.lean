/-
A step of a job of the document's answer.
-/
import Derived.Test.YtjegaljdindfaabGreatDoorQRjP2
namespace Go.Proofs.YtjegaljdindfaabGreatDoor
open Go.RowKit Go.Maps
attribute [local go_sem ↓] Go.wp_at_zero Go.wp_at_succ

theorem JV.some_cnt (j : JV) : j.some = true ↔ S4.cnt j.x 64 ≠ 0 := by
  unfold JV.some S4.nextB
  have h := S4.elemsTo_len j.x 64
  have h' : (S4.elems j.x).length = S4.cnt j.x 64 := h
  rw [← h']
  cases S4.elems j.x with
  | nil => simp
  | cons y r => simp

/- Behind a step that went well. -/
theorem RJ.wentR {w w1 : World} {mp xp cap m C : Nat} {a : Option Addr} {qs ys : Nat → Qh} {s z : SV} {j : JV} {k : Nat} (hk : k < 64) (h1s : j.stage = 1) (h : RJ w1 mp xp a cap ys z m C j.took 1) (hm : Moved (fpR qs s xp) w (fpR ys z xp) w1) :
    (if S4.putB j.n j.x (k : Int) false = true then w1.setCell ⟨xp, 9 + k, none⟩ (.bool false) else w1).cell? ⟨xp, 73, none⟩ = some (.int .i64 j.last) ∧ (if S4.putB j.n j.x (k : Int) false = true then w1.setCell ⟨xp, 9 + k, none⟩ (.bool false) else w1).frozen? ⟨xp, 73, none⟩ = false ∧
    Calls Tryz.prog 125 #[.pointer (some ⟨xp, 0, none⟩)] ((if S4.putB j.n j.x (k : Int) false = true then w1.setCell ⟨xp, 9 + k, none⟩ (.bool false) else w1).setCell ⟨xp, 73, none⟩ (.int .i64 (k : Int))) fun e w' => e = .returned (.tuple #[]) ∧ DDid mp xp a cap qs s z m C (j.went (k : Int)) w w' := by
  obtain ⟨p1, m1⟩ := h.putS (k : Int) false
  obtain ⟨p2, m2⟩ := p1.set73 (c := (k : Int)) ⟨by omega, by omega⟩
  obtain ⟨_, _, _, _, _, c73, _, f73, _⟩ := p1.job.cells
  refine ⟨c73, f73, (rturn_any _ p2).mono fun e w' ⟨h1, h2, h3⟩ => ⟨h1, ys, ?_, hm.trans (m1.trans (m2.trans h3))⟩⟩
  have hts : turnI 1 (S4.cnt (S4.putV j.n j.x (k : Int) false) 64) = (j.went (k : Int)).state := by
    have key : (j.went (k : Int)).state = if j.stage = 1 ∧ S4.cnt (S4.putV j.n j.x (k : Int) false) 64 = 0 then 3 else j.stage := rfl
    rw [key, h1s]
    unfold turnI
    by_cases hx : S4.cnt (S4.putV j.n j.x (k : Int) false) 64 = 0 <;> simp [hx]
  rw [← hts]
  exact h2

set_option maxRecDepth 100000 in
set_option maxHeartbeats 2000000 in
theorem rstep_off {xp mp cap m C : Nat} {a : Option Addr} {qs : Nat → Qh} {s : SV} {j : JV} (w : World) (h : RJ w mp xp a cap qs s m C j j.state) (h1 : j.stage ≠ 1) :
    Calls Tryz.prog 53 #[.pointer (some ⟨xp, 0, none⟩)] w fun e w' => e = .returned (.tuple #[.bool false, .int .i64 9]) ∧ DDid mp xp a cap qs s s (m + 10) C j w w' := by
  have HD0 : Hid (DDid mp xp a cap qs s s (m + 10) C j w w) := (DDid.below h (Below.refl _ _)).more (by omega)
  obtain ⟨c0, c2, c3, c6, c7, c73, c74, f73, f74⟩ := h.job.cells
  have hs : j.state = j.stage := by
    rcases j.state_cases with ⟨e, _⟩ | ⟨_, e⟩
    · exact absurd e h1
    · exact e
  have g1 : (j.state != 1) = true := by rw [hs]; simpa using h1
  have g3 : (j.state != 3) = true := by have := h.ok.st3; rw [hs]; simpa using this
  clear h c0 c2 c3 c6 c7 c73 f73 f74 hs h1
  generalize j.state = st at c74 g1 g3
  go_enter Tryz.func53, Tryz.ntmps53
  go_wp2
  go_ret2
  exact ⟨rfl, HD0.out⟩

set_option maxRecDepth 100000 in
set_option maxHeartbeats 2000000 in
theorem rstep_none {xp mp cap m C : Nat} {a : Option Addr} {qs : Nat → Qh} {s : SV} {j : JV} (w : World) (h : RJ w mp xp a cap qs s m C j j.state) (h1 : j.stage = 1) (hso : j.some = false) :
    Calls Tryz.prog 53 #[.pointer (some ⟨xp, 0, none⟩)] w fun e w' => e = .returned (.tuple #[.bool false, .int .i64 0]) ∧ DDid mp xp a cap qs s s (m + 10) C j w w' := by
  have HP := toHid h
  have HD0 : Hid (DDid mp xp a cap qs s s (m + 10) C j w w) := (DDid.below h (Below.refl _ _)).more (by omega)
  obtain ⟨c0, c2, c3, c6, c7, c73, c74, f73, f74⟩ := h.job.cells
  have HBD : Hid (Below w.heap.size w w.drew) := (Below.refl _ _).drew
  have hsl : S4.ElOf j.x (S4.elems j.x) := ⟨rfl⟩
  have HNX : Hid (Calls Tryz.prog 122 #[.pointer (some ⟨xp, 8, none⟩), .int .i64 (j.last + 1)] w.drew fun e w' => e = .returned (.tuple #[.int .i64 j.pick, .bool j.some]) ∧ w' = w.drew) := S4.r8next_any (S4.elems j.x) hsl (j.last + 1) w.drew (h.below HBD.out).job.set8 h.ok.set
  have hla := h.ok.last
  have hadd : IntKind.i64.wrap (j.last + 1) = j.last + 1 := IntWalk.i64_in _ (by omega)
  have d73 : w.drew.cell? ⟨xp, 73, none⟩ = some (.int .i64 j.last) := c73
  have hs : j.state = 3 := by
    have : ¬ S4.cnt j.x 64 ≠ 0 := fun e => by rw [j.some_cnt.2 e] at hso; cases hso
    unfold JV.state
    rw [if_pos ⟨h1, by omega⟩]
  rw [hs] at c74
  rw [hso] at HNX
  have HD := toHid ((DDid.below h HBD.out).more (show m ≤ m + 10 by omega))
  clear h HP HD0 hsl hs hso h1 c0 c2 c3 c6 c7 f73 f74
  generalize j.pick = pk at HNX
  generalize j.last = lst at HNX hla hadd d73 c73
  go_enter Tryz.func53, Tryz.ntmps53
  go_wp2
  go_region_held3 (fun W => W.cell? ⟨xp, 73, none⟩ = some (.int .i64 lst))
    (first | (exact d73) | assumption)
    (first
      | (go_at_call 122; refine HNX.out.mono ?_; rintro e w1 ⟨rfl, rfl⟩))
  go_wp2
  go_ret2
  exact ⟨rfl, HD.out⟩

set_option maxRecDepth 100000 in
set_option maxHeartbeats 2000000 in
theorem rstep_poor {xp mp cap m C : Nat} {a : Option Addr} {qs : Nat → Qh} {s : SV} {j : JV} (w : World) (h : RJ w mp xp a cap qs s m C j j.state) (h1 : j.stage = 1) (hso : j.some = true) (hlv : S4.inB 4 j.lv = false) :
    Calls Tryz.prog 53 #[.pointer (some ⟨xp, 0, none⟩)] w fun e w' => e = .returned (.tuple #[.bool false, .int .i64 0]) ∧ DDid mp xp a cap qs s s (m + 10) C j w w' := by
  have HP := toHid h
  have HD0 : Hid (DDid mp xp a cap qs s s (m + 10) C j w w) := (DDid.below h (Below.refl _ _)).more (by omega)
  obtain ⟨c0, c2, c3, c6, c7, c73, c74, f73, f74⟩ := h.job.cells
  have HBD : Hid (Below w.heap.size w w.drew) := (Below.refl _ _).drew
  have hsl : S4.ElOf j.x (S4.elems j.x) := ⟨rfl⟩
  have HNX : Hid (Calls Tryz.prog 122 #[.pointer (some ⟨xp, 8, none⟩), .int .i64 (j.last + 1)] w.drew fun e w' => e = .returned (.tuple #[.int .i64 j.pick, .bool j.some]) ∧ w' = w.drew) := S4.r8next_any (S4.elems j.x) hsl (j.last + 1) w.drew (h.below HBD.out).job.set8 h.ok.set
  have hla := h.ok.last
  have hadd : IntKind.i64.wrap (j.last + 1) = j.last + 1 := IntWalk.i64_in _ (by omega)
  have d73 : w.drew.cell? ⟨xp, 73, none⟩ = some (.int .i64 j.last) := c73
  have hs : j.state = 1 := by
    have := j.some_cnt.1 hso
    unfold JV.state
    rw [if_neg (fun e => this e.2), h1]
  rw [hs] at c74 HP
  rw [hso] at HNX
  obtain ⟨cur, hb75, hcur⟩ := (HP.out.below HBD.out).job.bkt
  have HTK := toHid (S4.r75take_any 4 w.drew hb75 ⟨h.ok.lv.1, by have := h.ok.lv; omega⟩)
  have htv : S4.takeV j.lv 4 = j.lv := by unfold S4.takeV; rw [hlv]; rfl
  rw [hlv, htv] at HTK
  have HPU : Hid (∀ w' : World, S4.Job75 121 cur w' xp j.rate j.burst j.lv → S4.Kept (fun k => k = xp) w.drew w' → DDid mp xp a cap qs s s (m + 10) C j w w') := fun w' e1 e2 => by
    obtain ⟨p1, m1⟩ := (HP.out.below HBD.out).putL hcur e1 e2 ⟨h.ok.lv.1, h.ok.lv.2.1⟩
    refine ⟨qs, ?_, (Moved.of_below HBD.out).trans m1⟩
    rw [hs]
    exact p1.more (by omega)
  clear h HP HD0 hsl hs hso h1 c0 c2 c3 c6 c7 f73 f74 hcur hb75 htv hlv
  generalize j.pick = pk at HNX
  generalize j.last = lst at HNX hla hadd d73 c73
  go_enter Tryz.func53, Tryz.ntmps53
  go_wp2
  go_region_held3 (fun W => W.cell? ⟨xp, 73, none⟩ = some (.int .i64 lst))
    (first | (exact d73) | assumption)
    (first
      | (go_at_call 122; refine HNX.out.mono ?_; rintro e w1 ⟨rfl, rfl⟩))
  go_wp2_with fail
  refine HTK.out.mono ?_
  rintro e w2 ⟨rfl, e1, e2⟩
  have HD := toHid (HPU.out _ e1 e2)
  clear e1 e2
  go_wp2
  go_ret2
  exact ⟨rfl, HD.out⟩

set_option maxRecDepth 100000 in
set_option maxHeartbeats 2000000 in
theorem rstep_skip {xp mp cap m C : Nat} {a : Option Addr} {qs : Nat → Qh} {s : SV} {j : JV} (w : World) (h : RJ w mp xp a cap qs s m C j j.state) (h1 : j.stage = 1) (hso : j.some = true) (hlv : S4.inB 4 j.lv = true) (hwt : j.wantB s j.pick = false) :
    Calls Tryz.prog 53 #[.pointer (some ⟨xp, 0, none⟩)] w fun e w' => e = .returned (.tuple #[.bool true, .int .i64 0]) ∧ DDid mp xp a cap qs s s (m + 10) C (j.went j.pick) w w' := by
  have HP := toHid h
  have HD0 : Hid (DDid mp xp a cap qs s s (m + 10) C j w w) := (DDid.below h (Below.refl _ _)).more (by omega)
  obtain ⟨c0, c2, c3, c6, c7, c73, c74, f73, f74⟩ := h.job.cells
  have HBD : Hid (Below w.heap.size w w.drew) := (Below.refl _ _).drew
  have hsl : S4.ElOf j.x (S4.elems j.x) := ⟨rfl⟩
  have HNX : Hid (Calls Tryz.prog 122 #[.pointer (some ⟨xp, 8, none⟩), .int .i64 (j.last + 1)] w.drew fun e w' => e = .returned (.tuple #[.int .i64 j.pick, .bool j.some]) ∧ w' = w.drew) := S4.r8next_any (S4.elems j.x) hsl (j.last + 1) w.drew (h.below HBD.out).job.set8 h.ok.set
  have hla := h.ok.last
  have hadd : IntKind.i64.wrap (j.last + 1) = j.last + 1 := IntWalk.i64_in _ (by omega)
  have d73 : w.drew.cell? ⟨xp, 73, none⟩ = some (.int .i64 j.last) := c73
  have hs : j.state = 1 := by
    have := j.some_cnt.1 hso
    unfold JV.state
    rw [if_neg (fun e => this e.2), h1]
  rw [hs] at c74 HP
  rw [hso] at HNX
  obtain ⟨cur, hb75, hcur⟩ := (HP.out.below HBD.out).job.bkt
  have HTK := toHid (S4.r75take_any 4 w.drew hb75 ⟨h.ok.lv.1, by have := h.ok.lv; omega⟩)
  have h4 : 4 ≤ j.lv := by unfold S4.inB at hlv; simp at hlv; omega
  have htv : S4.takeV j.lv 4 = j.lv - 4 := by unfold S4.takeV; rw [hlv]; rfl
  rw [hlv, htv] at HTK
  have HPU : Hid (∀ w' : World, S4.Job75 121 cur w' xp j.rate j.burst (j.lv - 4) → S4.Kept (fun k => k = xp) w.drew w' → RJ w' mp xp a cap qs s m C j.took 1 ∧ Moved (fpR qs s xp) w (fpR qs s xp) w') := fun w' e1 e2 => by
    obtain ⟨p1, m1⟩ := (HP.out.below HBD.out).putL hcur e1 e2 ⟨by omega, by have := h.ok.lv; omega⟩
    exact ⟨p1, (Moved.of_below HBD.out).trans m1⟩
  obtain ⟨k, hpk, hkC, hk64⟩ := h.ok.pick hso
  rw [hpk] at HNX hwt ⊢
  clear h HP HD0 hsl hs hso c0 c2 c3 c6 c7 f73 f74 hcur hb75 htv hlv hpk
  generalize hlst : j.last = lst at HNX hla hadd d73 c73
  go_enter Tryz.func53, Tryz.ntmps53
  go_wp2
  go_region_held3 (fun W => W.cell? ⟨xp, 73, none⟩ = some (.int .i64 lst))
    (first | (exact d73) | assumption)
    (first
      | (go_at_call 122; refine HNX.out.mono ?_; rintro e w1 ⟨rfl, rfl⟩))
  go_wp2_with fail
  refine HTK.out.mono ?_
  rintro e w2 ⟨rfl, e1, e2⟩
  obtain ⟨p2, m2⟩ := HPU.out _ e1 e2
  have HP2 := toHid p2
  have HM2 := toHid m2
  have HWN := toHid (rwants_any (k : Int) w2 p2)
  rw [show j.took.wantB s (k : Int) = j.wantB s (k : Int) from rfl, hwt] at HWN
  clear e1 e2 p2 m2
  go_wp2_with fail
  refine HWN.out.mono ?_
  rintro e w3 ⟨rfl, hb3⟩
  have HP3 := toHid (HP2.out.below hb3)
  have HM3 := toHid (HM2.out.trans (Moved.of_below hb3))
  clear hb3 HWN
  have HPT := toHid (S4.r8put_any (k : Int) false w3 HP3.out.job.set8 HP3.out.ok.n64)
  rw [show j.took.n = j.n from rfl, show j.took.x = j.x from rfl, show ((k : Int)).toNat = k from rfl] at HPT
  obtain ⟨g73, gf73, hwent⟩ := RJ.wentR hk64 h1 HP3.out HM3.out
  have HWT := toHid hwent
  clear hwent
  generalize (if S4.putB j.n j.x (k : Int) false = true then w3.setCell ⟨xp, 9 + k, none⟩ (.bool false) else w3) = W4 at HPT HWT g73 gf73
  generalize S4.putB j.n j.x (k : Int) false = pb at HPT
  go_wp2_with fail
  refine HPT.out.mono ?_
  rintro e w' ⟨rfl, hw⟩
  have hw' := hw.symm
  subst hw'
  clear hw
  go_wp2_with fail
  refine HWT.out.mono ?_
  rintro e w6 ⟨rfl, hd⟩
  have HD := toHid (hd.more (show m ≤ m + 10 by omega))
  clear hd HWT
  go_wp2
  go_ret2
  exact ⟨rfl, HD.out⟩

set_option maxRecDepth 100000 in
set_option maxHeartbeats 2000000 in
theorem rstep_move2 {xp mp cap m C : Nat} {a : Option Addr} {qs : Nat → Qh} {s : SV} {j : JV} (w : World) (h : RJ w mp xp a cap qs s m C j j.state) (hm : m + 10 < 1000000000) (h1 : j.stage = 1) (hso : j.some = true) (hlv : S4.inB 4 j.lv = true) (hwt : j.wantB s j.pick = true) (hR : (j.moved s j.pick).2 = 0) (hk2 : j.kind = 2) :
    Calls Tryz.prog 53 #[.pointer (some ⟨xp, 0, none⟩)] w fun e w' => e = .returned (.tuple #[.bool true, .int .i64 0]) ∧ DDid mp xp a cap qs s (j.moved s j.pick).1 (m + 10) C (j.went j.pick) w w' := by
  have HP := toHid h
  have HD0 : Hid (DDid mp xp a cap qs s s (m + 10) C j w w) := (DDid.below h (Below.refl _ _)).more (by omega)
  obtain ⟨c0, c2, c3, c6, c7, c73, c74, f73, f74⟩ := h.job.cells
  have HBD : Hid (Below w.heap.size w w.drew) := (Below.refl _ _).drew
  have hsl : S4.ElOf j.x (S4.elems j.x) := ⟨rfl⟩
  have HNX : Hid (Calls Tryz.prog 122 #[.pointer (some ⟨xp, 8, none⟩), .int .i64 (j.last + 1)] w.drew fun e w' => e = .returned (.tuple #[.int .i64 j.pick, .bool j.some]) ∧ w' = w.drew) := S4.r8next_any (S4.elems j.x) hsl (j.last + 1) w.drew (h.below HBD.out).job.set8 h.ok.set
  have hla := h.ok.last
  have hadd : IntKind.i64.wrap (j.last + 1) = j.last + 1 := IntWalk.i64_in _ (by omega)
  have d73 : w.drew.cell? ⟨xp, 73, none⟩ = some (.int .i64 j.last) := c73
  have hs : j.state = 1 := by
    have := j.some_cnt.1 hso
    unfold JV.state
    rw [if_neg (fun e => this e.2), h1]
  rw [hs] at c74 HP
  rw [hso] at HNX
  obtain ⟨cur, hb75, hcur⟩ := (HP.out.below HBD.out).job.bkt
  have HTK := toHid (S4.r75take_any 4 w.drew hb75 ⟨h.ok.lv.1, by have := h.ok.lv; omega⟩)
  have h4 : 4 ≤ j.lv := by unfold S4.inB at hlv; simp at hlv; omega
  have htv : S4.takeV j.lv 4 = j.lv - 4 := by unfold S4.takeV; rw [hlv]; rfl
  rw [hlv, htv] at HTK
  have HPU : Hid (∀ w' : World, S4.Job75 121 cur w' xp j.rate j.burst (j.lv - 4) → S4.Kept (fun k => k = xp) w.drew w' → RJ w' mp xp a cap qs s m C j.took 1 ∧ Moved (fpR qs s xp) w (fpR qs s xp) w') := fun w' e1 e2 => by
    obtain ⟨p1, m1⟩ := (HP.out.below HBD.out).putL hcur e1 e2 ⟨by omega, by have := h.ok.lv; omega⟩
    exact ⟨p1, (Moved.of_below HBD.out).trans m1⟩
  obtain ⟨k, hpk, hkC, hk64⟩ := h.ok.pick hso
  rw [hpk] at HNX hwt hR ⊢
  clear h HP HD0 hsl hs hso c0 c2 c3 c6 c7 f73 f74 hcur hb75 htv hlv hpk
  generalize hlst : j.last = lst at HNX hla hadd d73 c73
  go_enter Tryz.func53, Tryz.ntmps53
  go_wp2
  go_region_held3 (fun W => W.cell? ⟨xp, 73, none⟩ = some (.int .i64 lst))
    (first | (exact d73) | assumption)
    (first
      | (go_at_call 122; refine HNX.out.mono ?_; rintro e w1 ⟨rfl, rfl⟩))
  go_wp2_with fail
  refine HTK.out.mono ?_
  rintro e w2 ⟨rfl, e1, e2⟩
  obtain ⟨p2, m2⟩ := HPU.out _ e1 e2
  have HP2 := toHid p2
  have HM2 := toHid m2
  have HWN := toHid (rwants_any (k : Int) w2 p2)
  rw [show j.took.wantB s (k : Int) = j.wantB s (k : Int) from rfl, hwt] at HWN
  clear e1 e2 p2 m2
  go_wp2_with fail
  refine HWN.out.mono ?_
  rintro e w3 ⟨rfl, hb3⟩
  have HP3 := toHid (HP2.out.below hb3)
  have HM3 := toHid (HM2.out.trans (Moved.of_below hb3))
  clear hb3 HWN
  obtain ⟨v, hv⟩ := HP3.out.ok.into
  obtain ⟨r1, r2⟩ := HP3.out.ok.read HP3.out.shelf.ok hkC
  have HRD : Hid (∀ W : World, Below w3.heap.size w3 W → Calls Tryz.prog 43 #[.pointer (some ⟨mp, 0, none⟩), .slice a j.l.length cap, .int .i64 (k : Int)] W fun e w' => e = .returned (.tuple #[.string (s.read j.l (k : Int)).1, .int .i64 0]) ∧ Below W.heap.size W w') := fun W hb => by
    have := rread_any (cap := cap) j.l (k : Int) W (HP3.out.shelf.below hb) (HP3.out.nums.below hb) HP3.out.ok.good (by have := HP3.out.ok.len; have e : j.took.l = j.l := rfl; rw [e] at this; omega)
    rw [show (s.read j.l (k : Int)).2 = 0 from r1] at this; exact this
  have HMV : Hid (∀ W : World, Below w3.heap.size w3 W → Calls Tryz.prog 42 #[.pointer (some ⟨mp, 0, none⟩), .int .i64 j.into, .int .i64 (k : Int), .string (s.read j.l (k : Int)).1] W fun e w' => e = .returned (.int .i64 (j.moved s (k : Int)).2) ∧ ∃ qs', RJ w' mp xp a cap qs' (j.moved s (k : Int)).1 (m + 10) C j.took 1 ∧ Moved (fpR qs s xp) w3 (fpR qs' (j.moved s (k : Int)).1 xp) w') := fun W hb =>
    (rmove_any j.into (k : Int) _ W (HP3.out.shelf.below hb) hv r2 hm).mono fun e w' hd => HP3.out.rdid hb hd (SV.alike.move _ _ _ _)
  obtain ⟨g, o, n, r, v', ha, hl, _, _, hre⟩ := HP3.out.reads
  have HRE : Hid (∀ W : World, Below w3.heap.size w3 W → W.cell? ⟨xp, 0, none⟩ = some (.pointer (some ⟨mp, 0, none⟩)) ∧ W.cell? ⟨xp, 2, none⟩ = some (.int .i64 j.kind) ∧ W.cell? ⟨xp, 3, none⟩ = some (.int .i64 j.file) ∧ W.cell? ⟨xp, 6, none⟩ = some (.slice a j.l.length cap) ∧ W.cell? ⟨g, o, none⟩ = some (.int .i64 (n : Int))) := fun W hb => by
    obtain ⟨k0, k2, k3, k6, kg, _⟩ := hre W hb
    exact ⟨k0, k2, k3, k6, kg⟩
  have hl' : j.l = (n : Int) :: r := hl
  have HIN : Hid (j.into = if j.kind = 2 then (n : Int) else j.file) := by unfold Hid JV.into; rw [hl']; rfl
  have hln : 0 < j.l.length := by rw [hl']; simp
  have hlen : (0 : Int) < (j.l.length : Int) := by omega
  subst ha
  clear hre hl hl' hv r1 r2
  have HB3 : Hid (Below w3.heap.size w3 w3.drew) := (Below.refl _ _).drew
  obtain ⟨k0, k2, k3, k6, kg⟩ := HRE.out w3 (Below.refl _ _)
  have l0 : w3.drew.cell? ⟨xp, 0, none⟩ = some (.pointer (some ⟨mp, 0, none⟩)) := k0
  have l6 : w3.drew.cell? ⟨xp, 6, none⟩ = some (.slice (some ⟨g, o, none⟩) j.l.length cap) := k6
  clear k0 k6 kg k2 k3
  generalize (s.read j.l (k : Int)).1 = T at HRD HMV
  generalize hRR : j.moved s (k : Int) = R at HMV hR ⊢
  generalize j.into = into at HMV HIN
  generalize j.l.length = ln at HRD HRE hlen hln l6
  generalize j.file = fl at HRE HIN
  rw [HIN.out, if_pos hk2] at HMV
  have gk : (j.kind == 2) = true := by simpa using hk2
  generalize j.kind = kd at HRE gk HIN hk2
  go_wp2
  go_region_held3 (fun W => W.cell? ⟨xp, 0, none⟩ = some (.pointer (some ⟨mp, 0, none⟩)) ∧ W.cell? ⟨xp, 6, none⟩ = some (.slice (some ⟨g, o, none⟩) ln cap))
    (first | (exact ⟨l0, l6⟩) | assumption)
    (first
      | (go_at_call 43; refine (HRD.out _ HB3.out).mono ?_; rintro e w4 ⟨rfl, hb4⟩; have HB4 := toHid (HB3.out.trans (hb4.mono HB3.out.size)); have hS4 : w4.cell? ⟨xp, 0, none⟩ = some (.pointer (some ⟨mp, 0, none⟩)) ∧ w4.cell? ⟨xp, 6, none⟩ = some (.slice (some ⟨g, o, none⟩) ln cap) := ⟨(HRE.out _ HB4.out).1, (HRE.out _ HB4.out).2.2.2.1⟩; clear hb4))
  obtain ⟨q0, q2, q3, q6, q7⟩ := HRE.out w4 HB4.out
  clear hS4
  rw [hR] at HMV
  go_wp2_with fail
  refine (HMV.out _ HB4.out).mono ?_
  rintro e w5 ⟨rfl, zs, p5, m5⟩
  have HP5 := toHid p5
  have HM5 := toHid (HM3.out.trans m5)
  clear p5 m5 HMV HRD
  have HPT := toHid (S4.r8put_any (k : Int) false w5 HP5.out.job.set8 HP5.out.ok.n64)
  rw [show j.took.n = j.n from rfl, show j.took.x = j.x from rfl, show ((k : Int)).toNat = k from rfl] at HPT
  obtain ⟨g73, gf73, hwent⟩ := RJ.wentR hk64 h1 HP5.out HM5.out
  have HWT := toHid hwent
  clear hwent
  generalize (if S4.putB j.n j.x (k : Int) false = true then w5.setCell ⟨xp, 9 + k, none⟩ (.bool false) else w5) = W4 at HPT HWT g73 gf73
  generalize S4.putB j.n j.x (k : Int) false = pb at HPT
  go_wp2_with fail
  refine HPT.out.mono ?_
  rintro e w' ⟨rfl, hw⟩
  have hw' := hw.symm
  subst hw'
  clear hw
  go_wp2_with fail
  refine HWT.out.mono ?_
  rintro e w6 ⟨rfl, hd⟩
  have HD := toHid (hd.more (show m + 10 ≤ m + 10 by omega))
  clear hd HWT
  go_wp2
  go_ret2
  exact ⟨rfl, by rw [hRR]; exact HD.out⟩

set_option maxRecDepth 100000 in
set_option maxHeartbeats 2000000 in
theorem rstep_fall2 {xp mp cap m C : Nat} {a : Option Addr} {qs : Nat → Qh} {s : SV} {j : JV} (w : World) (h : RJ w mp xp a cap qs s m C j j.state) (hm : m + 10 < 1000000000) (h1 : j.stage = 1) (hso : j.some = true) (hlv : S4.inB 4 j.lv = true) (hwt : j.wantB s j.pick = true) (hR : (j.moved s j.pick).2 ≠ 0) (hk2 : j.kind = 2) :
    Calls Tryz.prog 53 #[.pointer (some ⟨xp, 0, none⟩)] w fun e w' => e = .returned (.tuple #[.bool false, .int .i64 (j.moved s j.pick).2]) ∧ DDid mp xp a cap qs s (j.moved s j.pick).1 (m + 10) C j.fell w w' := by
  have HP := toHid h
  have HD0 : Hid (DDid mp xp a cap qs s s (m + 10) C j w w) := (DDid.below h (Below.refl _ _)).more (by omega)
  obtain ⟨c0, c2, c3, c6, c7, c73, c74, f73, f74⟩ := h.job.cells
  have HBD : Hid (Below w.heap.size w w.drew) := (Below.refl _ _).drew
  have hsl : S4.ElOf j.x (S4.elems j.x) := ⟨rfl⟩
  have HNX : Hid (Calls Tryz.prog 122 #[.pointer (some ⟨xp, 8, none⟩), .int .i64 (j.last + 1)] w.drew fun e w' => e = .returned (.tuple #[.int .i64 j.pick, .bool j.some]) ∧ w' = w.drew) := S4.r8next_any (S4.elems j.x) hsl (j.last + 1) w.drew (h.below HBD.out).job.set8 h.ok.set
  have hla := h.ok.last
  have hadd : IntKind.i64.wrap (j.last + 1) = j.last + 1 := IntWalk.i64_in _ (by omega)
  have d73 : w.drew.cell? ⟨xp, 73, none⟩ = some (.int .i64 j.last) := c73
  have hs : j.state = 1 := by
    have := j.some_cnt.1 hso
    unfold JV.state
    rw [if_neg (fun e => this e.2), h1]
  rw [hs] at c74 HP
  rw [hso] at HNX
  obtain ⟨cur, hb75, hcur⟩ := (HP.out.below HBD.out).job.bkt
  have HTK := toHid (S4.r75take_any 4 w.drew hb75 ⟨h.ok.lv.1, by have := h.ok.lv; omega⟩)
  have h4 : 4 ≤ j.lv := by unfold S4.inB at hlv; simp at hlv; omega
  have htv : S4.takeV j.lv 4 = j.lv - 4 := by unfold S4.takeV; rw [hlv]; rfl
  rw [hlv, htv] at HTK
  have HPU : Hid (∀ w' : World, S4.Job75 121 cur w' xp j.rate j.burst (j.lv - 4) → S4.Kept (fun k => k = xp) w.drew w' → RJ w' mp xp a cap qs s m C j.took 1 ∧ Moved (fpR qs s xp) w (fpR qs s xp) w') := fun w' e1 e2 => by
    obtain ⟨p1, m1⟩ := (HP.out.below HBD.out).putL hcur e1 e2 ⟨by omega, by have := h.ok.lv; omega⟩
    exact ⟨p1, (Moved.of_below HBD.out).trans m1⟩
  obtain ⟨k, hpk, hkC, hk64⟩ := h.ok.pick hso
  rw [hpk] at HNX hwt hR ⊢
  clear h HP HD0 hsl hs hso c0 c2 c3 c6 c7 f73 f74 hcur hb75 htv hlv hpk
  generalize hlst : j.last = lst at HNX hla hadd d73 c73
  go_enter Tryz.func53, Tryz.ntmps53
  go_wp2
  go_region_held3 (fun W => W.cell? ⟨xp, 73, none⟩ = some (.int .i64 lst))
    (first | (exact d73) | assumption)
    (first
      | (go_at_call 122; refine HNX.out.mono ?_; rintro e w1 ⟨rfl, rfl⟩))
  go_wp2_with fail
  refine HTK.out.mono ?_
  rintro e w2 ⟨rfl, e1, e2⟩
  obtain ⟨p2, m2⟩ := HPU.out _ e1 e2
  have HP2 := toHid p2
  have HM2 := toHid m2
  have HWN := toHid (rwants_any (k : Int) w2 p2)
  rw [show j.took.wantB s (k : Int) = j.wantB s (k : Int) from rfl, hwt] at HWN
  clear e1 e2 p2 m2
  go_wp2_with fail
  refine HWN.out.mono ?_
  rintro e w3 ⟨rfl, hb3⟩
  have HP3 := toHid (HP2.out.below hb3)
  have HM3 := toHid (HM2.out.trans (Moved.of_below hb3))
  clear hb3 HWN
  obtain ⟨v, hv⟩ := HP3.out.ok.into
  obtain ⟨r1, r2⟩ := HP3.out.ok.read HP3.out.shelf.ok hkC
  have HRD : Hid (∀ W : World, Below w3.heap.size w3 W → Calls Tryz.prog 43 #[.pointer (some ⟨mp, 0, none⟩), .slice a j.l.length cap, .int .i64 (k : Int)] W fun e w' => e = .returned (.tuple #[.string (s.read j.l (k : Int)).1, .int .i64 0]) ∧ Below W.heap.size W w') := fun W hb => by
    have := rread_any (cap := cap) j.l (k : Int) W (HP3.out.shelf.below hb) (HP3.out.nums.below hb) HP3.out.ok.good (by have := HP3.out.ok.len; have e : j.took.l = j.l := rfl; rw [e] at this; omega)
    rw [show (s.read j.l (k : Int)).2 = 0 from r1] at this; exact this
  have HMV : Hid (∀ W : World, Below w3.heap.size w3 W → Calls Tryz.prog 42 #[.pointer (some ⟨mp, 0, none⟩), .int .i64 j.into, .int .i64 (k : Int), .string (s.read j.l (k : Int)).1] W fun e w' => e = .returned (.int .i64 (j.moved s (k : Int)).2) ∧ ∃ qs', RJ w' mp xp a cap qs' (j.moved s (k : Int)).1 (m + 10) C j.took 1 ∧ Moved (fpR qs s xp) w3 (fpR qs' (j.moved s (k : Int)).1 xp) w') := fun W hb =>
    (rmove_any j.into (k : Int) _ W (HP3.out.shelf.below hb) hv r2 hm).mono fun e w' hd => HP3.out.rdid hb hd (SV.alike.move _ _ _ _)
  obtain ⟨g, o, n, r, v', ha, hl, _, _, hre⟩ := HP3.out.reads
  have HRE : Hid (∀ W : World, Below w3.heap.size w3 W → W.cell? ⟨xp, 0, none⟩ = some (.pointer (some ⟨mp, 0, none⟩)) ∧ W.cell? ⟨xp, 2, none⟩ = some (.int .i64 j.kind) ∧ W.cell? ⟨xp, 3, none⟩ = some (.int .i64 j.file) ∧ W.cell? ⟨xp, 6, none⟩ = some (.slice a j.l.length cap) ∧ W.cell? ⟨g, o, none⟩ = some (.int .i64 (n : Int))) := fun W hb => by
    obtain ⟨k0, k2, k3, k6, kg, _⟩ := hre W hb
    exact ⟨k0, k2, k3, k6, kg⟩
  have hl' : j.l = (n : Int) :: r := hl
  have HIN : Hid (j.into = if j.kind = 2 then (n : Int) else j.file) := by unfold Hid JV.into; rw [hl']; rfl
  have hln : 0 < j.l.length := by rw [hl']; simp
  have hlen : (0 : Int) < (j.l.length : Int) := by omega
  subst ha
  clear hre hl hl' hv r1 r2
  have HB3 : Hid (Below w3.heap.size w3 w3.drew) := (Below.refl _ _).drew
  obtain ⟨k0, k2, k3, k6, kg⟩ := HRE.out w3 (Below.refl _ _)
  have l0 : w3.drew.cell? ⟨xp, 0, none⟩ = some (.pointer (some ⟨mp, 0, none⟩)) := k0
  have l6 : w3.drew.cell? ⟨xp, 6, none⟩ = some (.slice (some ⟨g, o, none⟩) j.l.length cap) := k6
  clear k0 k6 kg k2 k3
  generalize (s.read j.l (k : Int)).1 = T at HRD HMV
  generalize hRR : j.moved s (k : Int) = R at HMV hR ⊢
  generalize j.into = into at HMV HIN
  generalize j.l.length = ln at HRD HRE hlen hln l6
  generalize j.file = fl at HRE HIN
  rw [HIN.out, if_pos hk2] at HMV
  have gk : (j.kind == 2) = true := by simpa using hk2
  generalize j.kind = kd at HRE gk HIN hk2
  go_wp2
  go_region_held3 (fun W => W.cell? ⟨xp, 0, none⟩ = some (.pointer (some ⟨mp, 0, none⟩)) ∧ W.cell? ⟨xp, 6, none⟩ = some (.slice (some ⟨g, o, none⟩) ln cap))
    (first | (exact ⟨l0, l6⟩) | assumption)
    (first
      | (go_at_call 43; refine (HRD.out _ HB3.out).mono ?_; rintro e w4 ⟨rfl, hb4⟩; have HB4 := toHid (HB3.out.trans (hb4.mono HB3.out.size)); have hS4 : w4.cell? ⟨xp, 0, none⟩ = some (.pointer (some ⟨mp, 0, none⟩)) ∧ w4.cell? ⟨xp, 6, none⟩ = some (.slice (some ⟨g, o, none⟩) ln cap) := ⟨(HRE.out _ HB4.out).1, (HRE.out _ HB4.out).2.2.2.1⟩; clear hb4))
  obtain ⟨q0, q2, q3, q6, q7⟩ := HRE.out w4 HB4.out
  clear hS4
  go_wp2_with fail
  refine (HMV.out _ HB4.out).mono ?_
  rintro e w5 ⟨rfl, zs, p5, m5⟩
  have HP5 := toHid p5
  have HM5 := toHid (HM3.out.trans m5)
  clear p5 m5 HMV HRD
  have gf : decide (0 < R.2) = true := decide_eq_true (by have : 0 ≤ R.2 := by rw [← hRR]; exact SV.move_pos _ _ _ _
                                                          omega)
  obtain ⟨_, _, _, _, _, _, g74, _, gf74⟩ := HP5.out.job.cells
  have HD : Hid (DDid mp xp (some ⟨g, o, none⟩) cap qs s R.1 (m + 10) C j.fell w (w5.setCell ⟨xp, 74, none⟩ (.int .i64 5))) := by
    obtain ⟨p6, m6⟩ := HP5.out.set74 5
    refine ⟨zs, ?_, HM5.out.trans m6⟩
    have e5 : j.fell.state = 5 := j.took.at_state (by decide)
    rw [e5]
    exact p6.staged (st := 5) (.inr (.inr (.inr rfl)))
  go_wp2
  go_ret2
  exact ⟨by rw [hRR]; rfl, by rw [hRR]; exact HD.out⟩

set_option maxRecDepth 100000 in
set_option maxHeartbeats 2000000 in
theorem rstep_move1 {xp mp cap m C : Nat} {a : Option Addr} {qs : Nat → Qh} {s : SV} {j : JV} (w : World) (h : RJ w mp xp a cap qs s m C j j.state) (hm : m + 10 < 1000000000) (h1 : j.stage = 1) (hso : j.some = true) (hlv : S4.inB 4 j.lv = true) (hwt : j.wantB s j.pick = true) (hR : (j.moved s j.pick).2 = 0) (hk2 : j.kind ≠ 2) :
    Calls Tryz.prog 53 #[.pointer (some ⟨xp, 0, none⟩)] w fun e w' => e = .returned (.tuple #[.bool true, .int .i64 0]) ∧ DDid mp xp a cap qs s (j.moved s j.pick).1 (m + 10) C (j.went j.pick) w w' := by
  have HP := toHid h
  have HD0 : Hid (DDid mp xp a cap qs s s (m + 10) C j w w) := (DDid.below h (Below.refl _ _)).more (by omega)
  obtain ⟨c0, c2, c3, c6, c7, c73, c74, f73, f74⟩ := h.job.cells
  have HBD : Hid (Below w.heap.size w w.drew) := (Below.refl _ _).drew
  have hsl : S4.ElOf j.x (S4.elems j.x) := ⟨rfl⟩
  have HNX : Hid (Calls Tryz.prog 122 #[.pointer (some ⟨xp, 8, none⟩), .int .i64 (j.last + 1)] w.drew fun e w' => e = .returned (.tuple #[.int .i64 j.pick, .bool j.some]) ∧ w' = w.drew) := S4.r8next_any (S4.elems j.x) hsl (j.last + 1) w.drew (h.below HBD.out).job.set8 h.ok.set
  have hla := h.ok.last
  have hadd : IntKind.i64.wrap (j.last + 1) = j.last + 1 := IntWalk.i64_in _ (by omega)
  have d73 : w.drew.cell? ⟨xp, 73, none⟩ = some (.int .i64 j.last) := c73
  have hs : j.state = 1 := by
    have := j.some_cnt.1 hso
    unfold JV.state
    rw [if_neg (fun e => this e.2), h1]
  rw [hs] at c74 HP
  rw [hso] at HNX
  obtain ⟨cur, hb75, hcur⟩ := (HP.out.below HBD.out).job.bkt
  have HTK := toHid (S4.r75take_any 4 w.drew hb75 ⟨h.ok.lv.1, by have := h.ok.lv; omega⟩)
  have h4 : 4 ≤ j.lv := by unfold S4.inB at hlv; simp at hlv; omega
  have htv : S4.takeV j.lv 4 = j.lv - 4 := by unfold S4.takeV; rw [hlv]; rfl
  rw [hlv, htv] at HTK
  have HPU : Hid (∀ w' : World, S4.Job75 121 cur w' xp j.rate j.burst (j.lv - 4) → S4.Kept (fun k => k = xp) w.drew w' → RJ w' mp xp a cap qs s m C j.took 1 ∧ Moved (fpR qs s xp) w (fpR qs s xp) w') := fun w' e1 e2 => by
    obtain ⟨p1, m1⟩ := (HP.out.below HBD.out).putL hcur e1 e2 ⟨by omega, by have := h.ok.lv; omega⟩
    exact ⟨p1, (Moved.of_below HBD.out).trans m1⟩
  obtain ⟨k, hpk, hkC, hk64⟩ := h.ok.pick hso
  rw [hpk] at HNX hwt hR ⊢
  clear h HP HD0 hsl hs hso c0 c2 c3 c6 c7 f73 f74 hcur hb75 htv hlv hpk
  generalize hlst : j.last = lst at HNX hla hadd d73 c73
  go_enter Tryz.func53, Tryz.ntmps53
  go_wp2
  go_region_held3 (fun W => W.cell? ⟨xp, 73, none⟩ = some (.int .i64 lst))
    (first | (exact d73) | assumption)
    (first
      | (go_at_call 122; refine HNX.out.mono ?_; rintro e w1 ⟨rfl, rfl⟩))
  go_wp2_with fail
  refine HTK.out.mono ?_
  rintro e w2 ⟨rfl, e1, e2⟩
  obtain ⟨p2, m2⟩ := HPU.out _ e1 e2
  have HP2 := toHid p2
  have HM2 := toHid m2
  have HWN := toHid (rwants_any (k : Int) w2 p2)
  rw [show j.took.wantB s (k : Int) = j.wantB s (k : Int) from rfl, hwt] at HWN
  clear e1 e2 p2 m2
  go_wp2_with fail
  refine HWN.out.mono ?_
  rintro e w3 ⟨rfl, hb3⟩
  have HP3 := toHid (HP2.out.below hb3)
  have HM3 := toHid (HM2.out.trans (Moved.of_below hb3))
  clear hb3 HWN
  obtain ⟨v, hv⟩ := HP3.out.ok.into
  obtain ⟨r1, r2⟩ := HP3.out.ok.read HP3.out.shelf.ok hkC
  have HRD : Hid (∀ W : World, Below w3.heap.size w3 W → Calls Tryz.prog 43 #[.pointer (some ⟨mp, 0, none⟩), .slice a j.l.length cap, .int .i64 (k : Int)] W fun e w' => e = .returned (.tuple #[.string (s.read j.l (k : Int)).1, .int .i64 0]) ∧ Below W.heap.size W w') := fun W hb => by
    have := rread_any (cap := cap) j.l (k : Int) W (HP3.out.shelf.below hb) (HP3.out.nums.below hb) HP3.out.ok.good (by have := HP3.out.ok.len; have e : j.took.l = j.l := rfl; rw [e] at this; omega)
    rw [show (s.read j.l (k : Int)).2 = 0 from r1] at this; exact this
  have HMV : Hid (∀ W : World, Below w3.heap.size w3 W → Calls Tryz.prog 42 #[.pointer (some ⟨mp, 0, none⟩), .int .i64 j.into, .int .i64 (k : Int), .string (s.read j.l (k : Int)).1] W fun e w' => e = .returned (.int .i64 (j.moved s (k : Int)).2) ∧ ∃ qs', RJ w' mp xp a cap qs' (j.moved s (k : Int)).1 (m + 10) C j.took 1 ∧ Moved (fpR qs s xp) w3 (fpR qs' (j.moved s (k : Int)).1 xp) w') := fun W hb =>
    (rmove_any j.into (k : Int) _ W (HP3.out.shelf.below hb) hv r2 hm).mono fun e w' hd => HP3.out.rdid hb hd (SV.alike.move _ _ _ _)
  obtain ⟨g, o, n, r, v', ha, hl, _, _, hre⟩ := HP3.out.reads
  have HRE : Hid (∀ W : World, Below w3.heap.size w3 W → W.cell? ⟨xp, 0, none⟩ = some (.pointer (some ⟨mp, 0, none⟩)) ∧ W.cell? ⟨xp, 2, none⟩ = some (.int .i64 j.kind) ∧ W.cell? ⟨xp, 3, none⟩ = some (.int .i64 j.file) ∧ W.cell? ⟨xp, 6, none⟩ = some (.slice a j.l.length cap) ∧ W.cell? ⟨g, o, none⟩ = some (.int .i64 (n : Int))) := fun W hb => by
    obtain ⟨k0, k2, k3, k6, kg, _⟩ := hre W hb
    exact ⟨k0, k2, k3, k6, kg⟩
  have hl' : j.l = (n : Int) :: r := hl
  have HIN : Hid (j.into = if j.kind = 2 then (n : Int) else j.file) := by unfold Hid JV.into; rw [hl']; rfl
  have hln : 0 < j.l.length := by rw [hl']; simp
  have hlen : (0 : Int) < (j.l.length : Int) := by omega
  subst ha
  clear hre hl hl' hv r1 r2
  have HB3 : Hid (Below w3.heap.size w3 w3.drew) := (Below.refl _ _).drew
  obtain ⟨k0, k2, k3, k6, kg⟩ := HRE.out w3 (Below.refl _ _)
  have l0 : w3.drew.cell? ⟨xp, 0, none⟩ = some (.pointer (some ⟨mp, 0, none⟩)) := k0
  have l6 : w3.drew.cell? ⟨xp, 6, none⟩ = some (.slice (some ⟨g, o, none⟩) j.l.length cap) := k6
  clear k0 k6 kg k2 k3
  generalize (s.read j.l (k : Int)).1 = T at HRD HMV
  generalize hRR : j.moved s (k : Int) = R at HMV hR ⊢
  generalize j.into = into at HMV HIN
  generalize j.l.length = ln at HRD HRE hlen hln l6
  generalize j.file = fl at HRE HIN
  rw [HIN.out, if_neg hk2] at HMV
  have gk : (j.kind == 2) = false := by simpa using hk2
  generalize j.kind = kd at HRE gk HIN hk2
  go_wp2
  go_region_held3 (fun W => W.cell? ⟨xp, 0, none⟩ = some (.pointer (some ⟨mp, 0, none⟩)) ∧ W.cell? ⟨xp, 6, none⟩ = some (.slice (some ⟨g, o, none⟩) ln cap))
    (first | (exact ⟨l0, l6⟩) | assumption)
    (first
      | (go_at_call 43; refine (HRD.out _ HB3.out).mono ?_; rintro e w4 ⟨rfl, hb4⟩; have HB4 := toHid (HB3.out.trans (hb4.mono HB3.out.size)); have hS4 : w4.cell? ⟨xp, 0, none⟩ = some (.pointer (some ⟨mp, 0, none⟩)) ∧ w4.cell? ⟨xp, 6, none⟩ = some (.slice (some ⟨g, o, none⟩) ln cap) := ⟨(HRE.out _ HB4.out).1, (HRE.out _ HB4.out).2.2.2.1⟩; clear hb4))
  obtain ⟨q0, q2, q3, q6, q7⟩ := HRE.out w4 HB4.out
  clear hS4
  rw [hR] at HMV
  go_wp2_with fail
  refine (HMV.out _ HB4.out).mono ?_
  rintro e w5 ⟨rfl, zs, p5, m5⟩
  have HP5 := toHid p5
  have HM5 := toHid (HM3.out.trans m5)
  clear p5 m5 HMV HRD
  have HPT := toHid (S4.r8put_any (k : Int) false w5 HP5.out.job.set8 HP5.out.ok.n64)
  rw [show j.took.n = j.n from rfl, show j.took.x = j.x from rfl, show ((k : Int)).toNat = k from rfl] at HPT
  obtain ⟨g73, gf73, hwent⟩ := RJ.wentR hk64 h1 HP5.out HM5.out
  have HWT := toHid hwent
  clear hwent
  generalize (if S4.putB j.n j.x (k : Int) false = true then w5.setCell ⟨xp, 9 + k, none⟩ (.bool false) else w5) = W4 at HPT HWT g73 gf73
  generalize S4.putB j.n j.x (k : Int) false = pb at HPT
  go_wp2_with fail
  refine HPT.out.mono ?_
  rintro e w' ⟨rfl, hw⟩
  have hw' := hw.symm
  subst hw'
  clear hw
  go_wp2_with fail
  refine HWT.out.mono ?_
  rintro e w6 ⟨rfl, hd⟩
  have HD := toHid (hd.more (show m + 10 ≤ m + 10 by omega))
  clear hd HWT
  go_wp2
  go_ret2
  exact ⟨rfl, by rw [hRR]; exact HD.out⟩

set_option maxRecDepth 100000 in
set_option maxHeartbeats 2000000 in
theorem rstep_fall1 {xp mp cap m C : Nat} {a : Option Addr} {qs : Nat → Qh} {s : SV} {j : JV} (w : World) (h : RJ w mp xp a cap qs s m C j j.state) (hm : m + 10 < 1000000000) (h1 : j.stage = 1) (hso : j.some = true) (hlv : S4.inB 4 j.lv = true) (hwt : j.wantB s j.pick = true) (hR : (j.moved s j.pick).2 ≠ 0) (hk2 : j.kind ≠ 2) :
    Calls Tryz.prog 53 #[.pointer (some ⟨xp, 0, none⟩)] w fun e w' => e = .returned (.tuple #[.bool false, .int .i64 (j.moved s j.pick).2]) ∧ DDid mp xp a cap qs s (j.moved s j.pick).1 (m + 10) C j.fell w w' := by
  have HP := toHid h
  have HD0 : Hid (DDid mp xp a cap qs s s (m + 10) C j w w) := (DDid.below h (Below.refl _ _)).more (by omega)
  obtain ⟨c0, c2, c3, c6, c7, c73, c74, f73, f74⟩ := h.job.cells
  have HBD : Hid (Below w.heap.size w w.drew) := (Below.refl _ _).drew
  have hsl : S4.ElOf j.x (S4.elems j.x) := ⟨rfl⟩
  have HNX : Hid (Calls Tryz.prog 122 #[.pointer (some ⟨xp, 8, none⟩), .int .i64 (j.last + 1)] w.drew fun e w' => e = .returned (.tuple #[.int .i64 j.pick, .bool j.some]) ∧ w' = w.drew) := S4.r8next_any (S4.elems j.x) hsl (j.last + 1) w.drew (h.below HBD.out).job.set8 h.ok.set
  have hla := h.ok.last
  have hadd : IntKind.i64.wrap (j.last + 1) = j.last + 1 := IntWalk.i64_in _ (by omega)
  have d73 : w.drew.cell? ⟨xp, 73, none⟩ = some (.int .i64 j.last) := c73
  have hs : j.state = 1 := by
    have := j.some_cnt.1 hso
    unfold JV.state
    rw [if_neg (fun e => this e.2), h1]
  rw [hs] at c74 HP
  rw [hso] at HNX
  obtain ⟨cur, hb75, hcur⟩ := (HP.out.below HBD.out).job.bkt
  have HTK := toHid (S4.r75take_any 4 w.drew hb75 ⟨h.ok.lv.1, by have := h.ok.lv; omega⟩)
  have h4 : 4 ≤ j.lv := by unfold S4.inB at hlv; simp at hlv; omega
  have htv : S4.takeV j.lv 4 = j.lv - 4 := by unfold S4.takeV; rw [hlv]; rfl
  rw [hlv, htv] at HTK
  have HPU : Hid (∀ w' : World, S4.Job75 121 cur w' xp j.rate j.burst (j.lv - 4) → S4.Kept (fun k => k = xp) w.drew w' → RJ w' mp xp a cap qs s m C j.took 1 ∧ Moved (fpR qs s xp) w (fpR qs s xp) w') := fun w' e1 e2 => by
    obtain ⟨p1, m1⟩ := (HP.out.below HBD.out).putL hcur e1 e2 ⟨by omega, by have := h.ok.lv; omega⟩
    exact ⟨p1, (Moved.of_below HBD.out).trans m1⟩
  obtain ⟨k, hpk, hkC, hk64⟩ := h.ok.pick hso
  rw [hpk] at HNX hwt hR ⊢
  clear h HP HD0 hsl hs hso c0 c2 c3 c6 c7 f73 f74 hcur hb75 htv hlv hpk
  generalize hlst : j.last = lst at HNX hla hadd d73 c73
  go_enter Tryz.func53, Tryz.ntmps53
  go_wp2
  go_region_held3 (fun W => W.cell? ⟨xp, 73, none⟩ = some (.int .i64 lst))
    (first | (exact d73) | assumption)
    (first
      | (go_at_call 122; refine HNX.out.mono ?_; rintro e w1 ⟨rfl, rfl⟩))
  go_wp2_with fail
  refine HTK.out.mono ?_
  rintro e w2 ⟨rfl, e1, e2⟩
  obtain ⟨p2, m2⟩ := HPU.out _ e1 e2
  have HP2 := toHid p2
  have HM2 := toHid m2
  have HWN := toHid (rwants_any (k : Int) w2 p2)
  rw [show j.took.wantB s (k : Int) = j.wantB s (k : Int) from rfl, hwt] at HWN
  clear e1 e2 p2 m2
  go_wp2_with fail
  refine HWN.out.mono ?_
  rintro e w3 ⟨rfl, hb3⟩
  have HP3 := toHid (HP2.out.below hb3)
  have HM3 := toHid (HM2.out.trans (Moved.of_below hb3))
  clear hb3 HWN
  obtain ⟨v, hv⟩ := HP3.out.ok.into
  obtain ⟨r1, r2⟩ := HP3.out.ok.read HP3.out.shelf.ok hkC
  have HRD : Hid (∀ W : World, Below w3.heap.size w3 W → Calls Tryz.prog 43 #[.pointer (some ⟨mp, 0, none⟩), .slice a j.l.length cap, .int .i64 (k : Int)] W fun e w' => e = .returned (.tuple #[.string (s.read j.l (k : Int)).1, .int .i64 0]) ∧ Below W.heap.size W w') := fun W hb => by
    have := rread_any (cap := cap) j.l (k : Int) W (HP3.out.shelf.below hb) (HP3.out.nums.below hb) HP3.out.ok.good (by have := HP3.out.ok.len; have e : j.took.l = j.l := rfl; rw [e] at this; omega)
    rw [show (s.read j.l (k : Int)).2 = 0 from r1] at this; exact this
  have HMV : Hid (∀ W : World, Below w3.heap.size w3 W → Calls Tryz.prog 42 #[.pointer (some ⟨mp, 0, none⟩), .int .i64 j.into, .int .i64 (k : Int), .string (s.read j.l (k : Int)).1] W fun e w' => e = .returned (.int .i64 (j.moved s (k : Int)).2) ∧ ∃ qs', RJ w' mp xp a cap qs' (j.moved s (k : Int)).1 (m + 10) C j.took 1 ∧ Moved (fpR qs s xp) w3 (fpR qs' (j.moved s (k : Int)).1 xp) w') := fun W hb =>
    (rmove_any j.into (k : Int) _ W (HP3.out.shelf.below hb) hv r2 hm).mono fun e w' hd => HP3.out.rdid hb hd (SV.alike.move _ _ _ _)
  obtain ⟨g, o, n, r, v', ha, hl, _, _, hre⟩ := HP3.out.reads
  have HRE : Hid (∀ W : World, Below w3.heap.size w3 W → W.cell? ⟨xp, 0, none⟩ = some (.pointer (some ⟨mp, 0, none⟩)) ∧ W.cell? ⟨xp, 2, none⟩ = some (.int .i64 j.kind) ∧ W.cell? ⟨xp, 3, none⟩ = some (.int .i64 j.file) ∧ W.cell? ⟨xp, 6, none⟩ = some (.slice a j.l.length cap) ∧ W.cell? ⟨g, o, none⟩ = some (.int .i64 (n : Int))) := fun W hb => by
    obtain ⟨k0, k2, k3, k6, kg, _⟩ := hre W hb
    exact ⟨k0, k2, k3, k6, kg⟩
  have hl' : j.l = (n : Int) :: r := hl
  have HIN : Hid (j.into = if j.kind = 2 then (n : Int) else j.file) := by unfold Hid JV.into; rw [hl']; rfl
  have hln : 0 < j.l.length := by rw [hl']; simp
  have hlen : (0 : Int) < (j.l.length : Int) := by omega
  subst ha
  clear hre hl hl' hv r1 r2
  have HB3 : Hid (Below w3.heap.size w3 w3.drew) := (Below.refl _ _).drew
  obtain ⟨k0, k2, k3, k6, kg⟩ := HRE.out w3 (Below.refl _ _)
  have l0 : w3.drew.cell? ⟨xp, 0, none⟩ = some (.pointer (some ⟨mp, 0, none⟩)) := k0
  have l6 : w3.drew.cell? ⟨xp, 6, none⟩ = some (.slice (some ⟨g, o, none⟩) j.l.length cap) := k6
  clear k0 k6 kg k2 k3
  generalize (s.read j.l (k : Int)).1 = T at HRD HMV
  generalize hRR : j.moved s (k : Int) = R at HMV hR ⊢
  generalize j.into = into at HMV HIN
  generalize j.l.length = ln at HRD HRE hlen hln l6
  generalize j.file = fl at HRE HIN
  rw [HIN.out, if_neg hk2] at HMV
  have gk : (j.kind == 2) = false := by simpa using hk2
  generalize j.kind = kd at HRE gk HIN hk2
  go_wp2
  go_region_held3 (fun W => W.cell? ⟨xp, 0, none⟩ = some (.pointer (some ⟨mp, 0, none⟩)) ∧ W.cell? ⟨xp, 6, none⟩ = some (.slice (some ⟨g, o, none⟩) ln cap))
    (first | (exact ⟨l0, l6⟩) | assumption)
    (first
      | (go_at_call 43; refine (HRD.out _ HB3.out).mono ?_; rintro e w4 ⟨rfl, hb4⟩; have HB4 := toHid (HB3.out.trans (hb4.mono HB3.out.size)); have hS4 : w4.cell? ⟨xp, 0, none⟩ = some (.pointer (some ⟨mp, 0, none⟩)) ∧ w4.cell? ⟨xp, 6, none⟩ = some (.slice (some ⟨g, o, none⟩) ln cap) := ⟨(HRE.out _ HB4.out).1, (HRE.out _ HB4.out).2.2.2.1⟩; clear hb4))
  obtain ⟨q0, q2, q3, q6, q7⟩ := HRE.out w4 HB4.out
  clear hS4
  go_wp2_with fail
  refine (HMV.out _ HB4.out).mono ?_
  rintro e w5 ⟨rfl, zs, p5, m5⟩
  have HP5 := toHid p5
  have HM5 := toHid (HM3.out.trans m5)
  clear p5 m5 HMV HRD
  have gf : decide (0 < R.2) = true := decide_eq_true (by have : 0 ≤ R.2 := by rw [← hRR]; exact SV.move_pos _ _ _ _
                                                          omega)
  obtain ⟨_, _, _, _, _, _, g74, _, gf74⟩ := HP5.out.job.cells
  have HD : Hid (DDid mp xp (some ⟨g, o, none⟩) cap qs s R.1 (m + 10) C j.fell w (w5.setCell ⟨xp, 74, none⟩ (.int .i64 5))) := by
    obtain ⟨p6, m6⟩ := HP5.out.set74 5
    refine ⟨zs, ?_, HM5.out.trans m6⟩
    have e5 : j.fell.state = 5 := j.took.at_state (by decide)
    rw [e5]
    exact p6.staged (st := 5) (.inr (.inr (.inr rfl)))
  go_wp2
  go_ret2
  exact ⟨by rw [hRR]; rfl, by rw [hRR]; exact HD.out⟩

theorem rstep_any {xp mp cap m C : Nat} {a : Option Addr} {qs : Nat → Qh} {s : SV} {j : JV} (w : World) (h : RJ w mp xp a cap qs s m C j j.state) (hm : m + 10 < 1000000000) :
    Calls Tryz.prog 53 #[.pointer (some ⟨xp, 0, none⟩)] w fun e w' => e = .returned (.tuple #[.bool (stepB s j), .int .i64 (stepF s j)]) ∧ DDid mp xp a cap qs s (stepS s j) (m + 10) C (stepJ s j) w w' := by
  unfold stepB stepF stepS stepJ
  by_cases h1 : j.stage = 1
  · cases hso : j.some with
    | false =>
      rw [decide_eq_false (fun e => absurd e.2.1 (by decide)), if_pos h1, if_neg (fun e => absurd e.1 (by decide)), if_neg (fun e => absurd e.2.1 (by decide)), if_neg (fun e => absurd e.2.1 (by decide))]
      exact rstep_none w h h1 hso
    | true =>
      cases hlv : S4.inB 4 j.lv with
      | false =>
        rw [decide_eq_false (fun e => absurd e.2.2.1 (by decide)), if_pos h1, if_neg (fun e => absurd e.2.1 (by decide)), if_neg (fun e => absurd e.2.2.1 (by decide)), if_neg (fun e => absurd e.2.2 (by decide))]
        exact rstep_poor w h h1 hso hlv
      | true =>
        cases hwt : j.wantB s j.pick with
        | false =>
          rw [decide_eq_true ⟨h1, rfl, rfl, fun e => absurd e.1 (by decide)⟩, if_pos h1, if_neg (fun e => absurd e.2.2 (by decide)), if_neg (fun e => absurd e.2.2.2 (by decide)), if_pos ⟨h1, rfl, rfl⟩, if_neg (fun e => absurd e.1 (by decide))]
          exact rstep_skip w h h1 hso hlv hwt
        | true =>
          by_cases hR : (j.moved s j.pick).2 = 0
          · rw [decide_eq_true ⟨h1, rfl, rfl, fun e => e.2 hR⟩, if_pos h1, if_pos ⟨rfl, rfl, rfl⟩, if_pos ⟨h1, rfl, rfl, rfl⟩, if_pos ⟨h1, rfl, rfl⟩, if_neg (fun e => e.2 hR), hR]
            by_cases h2 : j.kind = 2
            · exact rstep_move2 w h hm h1 hso hlv hwt hR h2
            · exact rstep_move1 w h hm h1 hso hlv hwt hR h2
          · rw [decide_eq_false (fun e => e.2.2.2 ⟨rfl, hR⟩), if_pos h1, if_pos ⟨rfl, rfl, rfl⟩, if_pos ⟨h1, rfl, rfl, rfl⟩, if_pos ⟨h1, rfl, rfl⟩, if_pos ⟨rfl, hR⟩]
            by_cases h2 : j.kind = 2
            · exact rstep_fall2 w h hm h1 hso hlv hwt hR h2
            · exact rstep_fall1 w h hm h1 hso hlv hwt hR h2
  · rw [decide_eq_false (fun e => h1 e.1), if_neg h1, if_neg (fun e => h1 e.1), if_neg (fun e => h1 e.1)]
    exact rstep_off w h h1
end Go.Proofs.YtjegaljdindfaabGreatDoor
