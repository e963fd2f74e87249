/-
What the small calls on a device give: its numbers, whether it has a sector, the write that is to fail.
-/
import Derived.Test.YtmallmchibdkgaaDevDefs
namespace Go.Proofs.Ytmallmchibdkgaa
open Go.RowKit

theorem ret_b {a b : Bool} (h : a = b) : Ending.returned (.bool a) = .returned (.bool b) := by rw [h]
theorem ret_i {a b : Int} (h : a = b) : Ending.returned (.int .i64 a) = .returned (.int .i64 b) := by rw [h]

set_option maxRecDepth 100000 in
set_option maxHeartbeats 400000 in
theorem size_any {B : Nat} {h : Hd} {d : DV} (w : World) (hd : IsDev B w h d) :
    Calls Try.prog 21 #[.pointer (some ⟨h.p, 0, none⟩)] w fun e w' => e = .returned (.int .i64 (d.fl.length : Int)) ∧ w' = w := by
  obtain ⟨c0, c1, c2, c3, c4, fz⟩ := hd.cells
  clear hd
  go_enter Try.func21, Try.ntmps21
  go_wp2
  go_ret
  exact ⟨rfl, rfl⟩

set_option maxRecDepth 100000 in
set_option maxHeartbeats 400000 in
theorem pending_any {B : Nat} {h : Hd} {d : DV} (w : World) (hd : IsDev B w h d) :
    Calls Try.prog 57 #[.pointer (some ⟨h.p, 0, none⟩)] w fun e w' => e = .returned (.int .i64 (d.pend.length : Int)) ∧ w' = w := by
  obtain ⟨c0, c1, c2, c3, c4, fz⟩ := hd.cells
  obtain ⟨a, cap, e2⟩ := hd.v2
  rw [e2] at c2
  clear hd e2
  go_enter Try.func57, Try.ntmps57
  go_wp2
  go_ret
  exact ⟨rfl, rfl⟩

set_option maxRecDepth 100000 in
set_option maxHeartbeats 400000 in
theorem writes_any {B : Nat} {h : Hd} {d : DV} (w : World) (hd : IsDev B w h d) :
    Calls Try.prog 62 #[.pointer (some ⟨h.p, 0, none⟩)] w fun e w' => e = .returned (.int .i64 (d.wr : Int)) ∧ w' = w := by
  obtain ⟨c0, c1, c2, c3, c4, fz⟩ := hd.cells
  clear hd
  go_enter Try.func62, Try.ntmps62
  go_wp2
  go_ret
  exact ⟨rfl, rfl⟩

def DV.has (d : DV) (at_ : Int) : Bool := decide (0 ≤ at_ ∧ at_ < d.fl.length)

set_option maxRecDepth 100000 in
set_option maxHeartbeats 400000 in
theorem has_any {B : Nat} {h : Hd} {d : DV} (at_ : Int) (w : World) (hd : IsDev B w h d) :
    Calls Try.prog 59 #[.pointer (some ⟨h.p, 0, none⟩), .int .i64 at_] w fun e w' => e = .returned (.bool (d.has at_)) ∧ w' = w := by
  obtain ⟨c0, c1, c2, c3, c4, fz⟩ := hd.cells
  clear hd
  by_cases h0 : 0 ≤ at_
  · have g0 : decide (0 ≤ at_) = true := by simpa using h0
    have HF : Hid (d.has at_ = decide (at_ < (d.fl.length : Int))) := by unfold Hid DV.has; simp [h0]
    go_enter Try.func59, Try.ntmps59
    go_wp2
    go_ret
    exact ⟨ret_b HF.out.symm, rfl⟩
  · have g0 : decide (0 ≤ at_) = false := by simpa using h0
    have HF : Hid (d.has at_ = false) := by unfold Hid DV.has; simp [h0]
    go_enter Try.func59, Try.ntmps59
    go_wp2
    go_ret
    exact ⟨ret_b HF.out.symm, rfl⟩

/- A cell of the device's own block is set. -/
theorem IsDev.setP {B : Nat} {w : World} {h : Hd} {d d' : DV} (hd : IsDev B w h d) (v2 : Value) (i : Nat) (u : Value) (hok : d'.ok) (hf : d'.fl = d.fl) (hs : d'.seen = d.seen)
    (hc : (#[.slice (some ⟨h.bf, 0, none⟩) d.fl.length h.cf, .slice (some ⟨h.bs, 0, none⟩) d.fl.length h.cs, h.v2, .int .i64 (d.wr : Int), .int .i64 d.fail] : Array Value).setIfInBounds i u = #[.slice (some ⟨h.bf, 0, none⟩) d.fl.length h.cf, .slice (some ⟨h.bs, 0, none⟩) d.fl.length h.cs, v2, .int .i64 (d'.wr : Int), .int .i64 d'.fail])
    (hp : w.ownsRow B 113 17 v2 d'.pend.length (wrsV d'.pend)) (hpn : d'.pend = [] → v2 = .slice none 0 0) : IsDev B (w.setCell ⟨h.p, i, none⟩ u) { h with v2 := v2 } d' := by
  obtain ⟨_, cf, hf2, _⟩ := ownsRow_block hd.of
  obtain ⟨_, cs, hs2, _⟩ := ownsRow_block hd.os
  have npf : h.bf ≠ h.p := fun e => by
    have h1 := hd.blk
    rw [← e, hf2] at h1
    cases h1
  have nps : h.bs ≠ h.p := fun e => by
    have h1 := hd.blk
    rw [← e, hs2] at h1
    cases h1
  have npp : ∀ k, v2.ownBlock = some k → k ≠ h.p := fun k hk e => by
    have h1 := hd.blk
    rcases hp.2 with ⟨h0, _⟩ | ⟨g, cap, cur, hv, _, hh, _⟩
    · rw [h0] at hk; cases hk
    · rw [hv] at hk
      have : g = k := by simpa [Value.ownBlock] using hk
      rw [← e, ← this, hh] at h1
      cases h1
  refine ⟨hok, hd.pB, ?_, ?_, ?_, ownsRow_keep hp (fun k e => heap_setCell_other _ _ _ _ (npp k e)), hd.ne, hpn⟩
  · rw [hf]
    show _ = some (Obj.cells #[.slice (some ⟨h.bf, 0, none⟩) d.fl.length h.cf, .slice (some ⟨h.bs, 0, none⟩) d.fl.length h.cs, v2, .int .i64 (d'.wr : Int), .int .i64 d'.fail] 110 (0, 0))
    rw [heap_setCell_same w h.p i _ _ u hd.blk, hc]
  · rw [hf]; exact ownsRow_keep hd.of (fun k e => heap_setCell_other _ _ _ _ (by
      have : h.bf = k := by simpa [Value.ownBlock] using e
      rw [← this]; exact npf))
  · rw [hf, hs]; exact ownsRow_keep hd.os (fun k e => heap_setCell_other _ _ _ _ (by
      have : h.bs = k := by simpa [Value.ownBlock] using e
      rw [← this]; exact nps))

def DV.failing (d : DV) (n : Int) : DV := { d with fail := n }

theorem DV.ok.failing {d : DV} (h : d.ok) {n : Int} (h1 : -1 ≤ n) (h2 : n ≤ 9223372036854775807) : (d.failing n).ok :=
  ⟨h.n1, h.n2, h.same, h.l1, h.l2, h.l3, h.few, h.few2, h1, h2⟩

theorem IsDev.failing {B : Nat} {w : World} {h : Hd} {d : DV} (hd : IsDev B w h d) {n : Int} (h1 : -1 ≤ n) (h2 : n ≤ 9223372036854775807) : IsDev B (w.setCell ⟨h.p, 4, none⟩ (.int .i64 n)) h (d.failing n) :=
  hd.setP h.v2 4 (.int .i64 n) (hd.ok.failing h1 h2) rfl rfl rfl hd.op hd.pn

set_option maxRecDepth 100000 in
set_option maxHeartbeats 400000 in
theorem fail_no {B : Nat} {h : Hd} {d : DV} (n : Int) (w : World) (_hd : IsDev B w h d) (hn : n < 0) :
    Calls Try.prog 30 #[.pointer (some ⟨h.p, 0, none⟩), .int .i64 n] w fun e w' => e = .returned (.iface 102 (.int .i64 1)) ∧ w' = w := by
  go_enter Try.func30, Try.ntmps30
  go_wp2
  go_ret
  exact ⟨rfl, rfl⟩

set_option maxRecDepth 100000 in
set_option maxHeartbeats 400000 in
theorem fail_yes {B : Nat} {h : Hd} {d : DV} (n : Int) (w : World) (hd : IsDev B w h d) (hn : 0 ≤ n) (hm : n ≤ 9223372036854775807) :
    Calls Try.prog 30 #[.pointer (some ⟨h.p, 0, none⟩), .int .i64 n] w fun e w' => e = .returned .nilIface ∧ IsDev B w' h (d.failing n) ∧ Kept h.fp w w' := by
  obtain ⟨c0, c1, c2, c3, c4, fz⟩ := hd.cells
  have HD : Hid (IsDev B w h d) := hd
  clear hd
  go_enter Try.func30, Try.ntmps30
  go_wp2
  go_ret
  exact ⟨rfl, HD.out.failing (by omega) hm, (Kept.refl _ _).setCell (.inl (.inl rfl)) _⟩

set_option maxRecDepth 100000 in
set_option maxHeartbeats 400000 in
theorem fails_never {B : Nat} {h : Hd} {d : DV} (w : World) (hd : IsDev B w h d) (hn : d.fail = -1) :
    Calls Try.prog 60 #[.pointer (some ⟨h.p, 0, none⟩)] w fun e w' => e = .returned (.bool false) ∧ w' = w := by
  obtain ⟨c0, c1, c2, c3, c4, fz⟩ := hd.cells
  rw [hn] at c4
  clear hd hn
  go_enter Try.func60, Try.ntmps60
  go_wp2
  go_ret
  exact ⟨rfl, rfl⟩

set_option maxRecDepth 100000 in
set_option maxHeartbeats 400000 in
theorem fails_some {B : Nat} {h : Hd} {d : DV} (w : World) (hd : IsDev B w h d) (hn : 0 ≤ d.fail) :
    Calls Try.prog 60 #[.pointer (some ⟨h.p, 0, none⟩)] w fun e w' => e = .returned (.bool (decide (d.fail = 0))) ∧ IsDev B w' h (d.failing (d.fail - 1)) ∧ Kept h.fp w w' := by
  obtain ⟨c0, c1, c2, c3, c4, fz⟩ := hd.cells
  have HD : Hid (IsDev B w h (d)) := hd
  have hm := hd.ok.f2
  have g1 : (d.fail == -1) = false := beq_eq_false_iff_ne.2 (by omega)
  have HE : Hid ((d.fail - 1 == -1) = decide (d.fail = 0)) := by
    unfold Hid
    rw [Bool.eq_iff_iff, beq_iff_eq, decide_eq_true_eq]; omega
  clear hd
  go_enter Try.func60, Try.ntmps60
  go_wp2
  go_ret
  exact ⟨ret_b HE.out, HD.out.failing (by omega) (by omega), (Kept.refl _ _).setCell (.inl (.inl rfl)) _⟩
end Go.Proofs.Ytmallmchibdkgaa
