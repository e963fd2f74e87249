/-
worked: any act, on both jobs.
worked: tick and end; any act.
A new job of the document's answer: where it ends early; its block.
-/
import Derived.Test.YtjegaljdindfaabGreatDoorQJobP5
import Derived.Test.YtjegaljdindfaabGreatDoorQJobP6
import Derived.Test.YtjegaljdindfaabGreatDoorQRjP3
import Derived.Test.YtjegaljdindfaabGreatDoorQRjMem
import Derived.Test.YtjegaljdindfaabGreatDoorQRjP1
import Derived.Test.YtjegaljdindfaabGreatDoorQRchWalk
import Derived.BigQuiet
namespace Go.Proofs.YtjegaljdindfaabGreatDoor
open Go.RowKit Go.Maps
attribute [local go_sem ↓] Go.wp_at_zero Go.wp_at_succ

theorem stepF_pos (s : SV) (j : JV) : 0 ≤ stepF s j := by
  unfold stepF
  split
  · split
    · exact SV.move_pos _ _ _ _
    · exact Int.le_refl _
  · decide

theorem linkS_pos (s : SV) (n b : Int) : 0 ≤ (linkS s n b).2 := by
  unfold linkS
  split
  · show (0 : Int) ≤ 4
    decide
  · show 0 ≤ IV.linkF _ _
    unfold IV.linkF DV.putF
    split <;> (try split) <;> decide

theorem settleF_pos (s : SV) (j : JV) : 0 ≤ settleF s j := by
  unfold settleF
  split
  · split
    · exact linkS_pos _ _ _
    · exact (s.walk_good j.file).2.2.1
  · decide

theorem pauseF_pos (j : JV) (on : Bool) : 0 ≤ pauseF j on := by
  unfold pauseF
  split <;> split <;> decide

/- The document's answer acts first. -/
theorem Work.ref_first {B : Nat} {w0 w w1 : World} {k : Wk} {xs : Nat → Ih} {qs qs' : Nat → Qh} {s z : SV} {m m' : Nat} {i j : JV} (h : Work B w0 w k xs qs s m j) (h1 : RJ w1 k.mp k.xp k.b k.bcap qs' z m' k.C i i.state) (hm : Moved (fpR qs s k.xp) w (fpR qs' z k.xp) w1) : WorkMid B w0 w1 k xs qs' s z m m' j i ∧ ¬ fpP xs s k.jp k.lp k.bp k.mp :=
  ⟨⟨h.p.beside hm h.spNot.1 (fun i hi hs => h.apart i hi hs) h.apA, h1, fun i hi hq => by
    rcases hm.new i hq with h2 | h2
    · exact h.apart i hi h2
    · have := h.p.fpLt hi; omega, h.apA.moved h.p.nums h.p.ok.ne hm, h.apB, h.bP, fun i hi => by
    rcases hm.new i hi with h2 | h2
    · exact h.bR i h2
    · exact Nat.le_trans h.sizes h2, h.bsp, hm.out (lt_of_some h.p.shelf.blk) h.spNot.1, h.bel.trans (hm.below h.sizes h.bR), h.size⟩, h.spNot.2⟩

theorem WorkMid.prog_then {B : Nat} {w0 w w1 : World} {k : Wk} {xs xs' : Nat → Ih} {qs : Nat → Qh} {z s : SV} {m' m : Nat} {i j : JV} (h : WorkMid B w0 w k xs qs s z m m' j i) (hmp : ¬ fpP xs s k.jp k.lp k.bp k.mp) (h1 : PJ w1 k.sp k.jp k.lp k.bp k.a k.cap xs' z m' k.C i) (hm : Moved (fpP xs s k.jp k.lp k.bp) w (fpP xs' z k.jp k.lp k.bp) w1) : Work B w0 w1 k xs' qs z m' i :=
  ⟨h1, h.r.beside hm hmp (fun i hi hs => h.apart i hs hi) h.apB, fun i hi hq => by
    rcases hm.new i hi with h2 | h2
    · exact h.apart i h2 hq
    · have := h.r.fpLt hq; omega, h.apA, h.apB.moved h.r.nums h.r.ok.ne hm, fun i hi => by
    rcases hm.new i hi with h2 | h2
    · exact h.bP i h2
    · exact Nat.le_trans (Nat.le_trans h.size h.bel.size) h2, h.bR, h.bsp, h.bel.trans (hm.below (Nat.le_trans h.size h.bel.size) h.bP), h.size⟩

set_option maxRecDepth 100000 in
set_option maxHeartbeats 2000000 in
theorem worked_step {B m : Nat} {w0 : World} {k : Wk} {xs : Nat → Ih} {qs : Nat → Qh} {s : SV} {j : JV} (x : ActV) (w : World) (h : Work B w0 w k xs qs s m j) (hT : S4.Tab w0) (hB : 0 < B) (hm : m + 10 < 1000000000) (e0 : x.kind.toList = [115, 116, 101, 112]) :
    Calls Tryz.prog 18 #[.pointer (some ⟨k.jp, 0, none⟩), .pointer (some ⟨k.xp, 0, none⟩), .agg #[.string x.kind, .int .i64 x.a, .int .i64 x.b, .int .i64 x.c, .int .i64 x.d, .string x.s, .slice x.ka x.kl x.kc]] w fun e w' => e = .returned (.bool true) ∧ Worked B w0 k (m + 10) w' := by
  have HST := toHid (work_step h x (fun W hp hb => jstep_any W hp (S4.Tab.below hT hb hB) hm) (fun W hr => rstep_any W hr hm))
  have hf0 := stepF_pos s j
  have g0 : (x.kind.toList == [115, 116, 101, 112]) = true := by rw [e0]; rfl
  generalize stepF s j = f at HST hf0
  generalize stepB s j = b at HST
  generalize stepS s j = z at HST
  generalize stepJ s j = i at HST
  have gb : (b == b) = true := by simp
  clear h hT hB hm e0
  unfold actBox at HST
  go_enter Tryz.func18, Tryz.ntmps18
  go_wp2_with fail
  refine (HST.out _ (Below.refl _ _)).mono ?_
  rintro e w1 ⟨rfl, hA1, href⟩
  have HREF := toHid href
  clear href hA1 HST
  go_wp2_with fail
  refine (HREF.out _ (Below.refl _ _)).mono ?_
  rintro e w2 ⟨rfl, hA2, hlf⟩
  obtain ⟨ys, zs, hW⟩ := hlf _ (Below.refl _ _)
  have HW : Hid (Worked B w0 k (m + 10) w2) := ⟨ys, zs, z, i, hW⟩
  clear hlf hA2 HREF hW
  go_wp2_with fail
  refine (errSame f _ hf0).mono ?_
  rintro e w' ⟨rfl, hw⟩
  have hw' := hw.symm
  subst hw'
  clear hw
  go_wp2
  go_ret
  exact ⟨rfl, HW.out⟩

set_option maxRecDepth 100000 in
set_option maxHeartbeats 2000000 in
theorem worked_dirty {B m : Nat} {w0 : World} {k : Wk} {xs : Nat → Ih} {qs : Nat → Qh} {s : SV} {j : JV} (x : ActV) (w : World) (h : Work B w0 w k xs qs s m j) (e0 : x.kind.toList = [100, 105, 114, 116, 121]) :
    Calls Tryz.prog 18 #[.pointer (some ⟨k.jp, 0, none⟩), .pointer (some ⟨k.xp, 0, none⟩), .agg #[.string x.kind, .int .i64 x.a, .int .i64 x.b, .int .i64 x.c, .int .i64 x.d, .string x.s, .slice x.ka x.kl x.kc]] w fun e w' => e = .returned (.bool true) ∧ Worked B w0 k (m + 10) w' := by
  have HST := toHid (work_step h x (fun W hp _ => dirty_any x.a W hp) (fun W hr => rdirty_any x.a W hr))
  have g0 : (x.kind.toList == [115, 116, 101, 112]) = false := by rw [e0]; rfl
  have g1 : (x.kind.toList == [100, 105, 114, 116, 121]) = true := by rw [e0]; rfl
  generalize dirtyJ j x.a = i at HST
  clear h e0
  unfold actBox at HST
  go_enter Tryz.func18, Tryz.ntmps18
  go_wp2_with fail
  refine (HST.out _ (Below.refl _ _)).mono ?_
  rintro e w1 ⟨rfl, hA1, href⟩
  have HREF := toHid href
  obtain ⟨c1, c2, c5⟩ := hA1.cells
  clear href hA1 HST
  go_wp2_with fail
  refine (HREF.out _ (Below.refl _ _)).mono ?_
  rintro e w2 ⟨rfl, hA2, hlf⟩
  obtain ⟨ys, zs, hW⟩ := hlf _ (Below.refl _ _)
  have HW : Hid (Worked B w0 k (m + 10) w2) := ⟨ys, zs, s, i, hW.more (by omega)⟩
  clear hlf hA2 HREF hW
  go_wp2
  go_ret
  exact ⟨rfl, HW.out⟩

set_option maxRecDepth 100000 in
set_option maxHeartbeats 2000000 in
theorem worked_settle {B m : Nat} {w0 : World} {k : Wk} {xs : Nat → Ih} {qs : Nat → Qh} {s : SV} {j : JV} (x : ActV) (w : World) (h : Work B w0 w k xs qs s m j) (hm : m + 10 < 1000000000) (e0 : x.kind.toList = [115, 101, 116, 116, 108, 101]) :
    Calls Tryz.prog 18 #[.pointer (some ⟨k.jp, 0, none⟩), .pointer (some ⟨k.xp, 0, none⟩), .agg #[.string x.kind, .int .i64 x.a, .int .i64 x.b, .int .i64 x.c, .int .i64 x.d, .string x.s, .slice x.ka x.kl x.kc]] w fun e w' => e = .returned (.bool true) ∧ Worked B w0 k (m + 10) w' := by
  have HST := toHid (work_step h x (fun W hp _ => jsettle_any W hp hm) (fun W hr => rsettle_any W hr hm))
  have hf0 := settleF_pos s j
  have g0 : (x.kind.toList == [115, 116, 101, 112]) = false := by rw [e0]; rfl
  have g1 : (x.kind.toList == [100, 105, 114, 116, 121]) = false := by rw [e0]; rfl
  have g2 : (x.kind.toList == [112, 97, 117, 115, 101]) = false := by rw [e0]; rfl
  have g3 : (x.kind.toList == [116, 105, 99, 107]) = false := by rw [e0]; rfl
  have g4 : (x.kind.toList == [115, 101, 116, 116, 108, 101]) = true := by rw [e0]; rfl
  generalize settleF s j = f at HST hf0
  generalize settleS s j = z at HST
  generalize settleJ s j = i at HST
  clear h hm e0
  unfold actBox at HST
  go_enter Tryz.func18, Tryz.ntmps18
  go_wp2_with fail
  refine (HST.out _ (Below.refl _ _)).mono ?_
  rintro e w1 ⟨rfl, hA1, href⟩
  have HREF := toHid href
  clear href hA1 HST
  go_wp2_with fail
  refine (HREF.out _ (Below.refl _ _)).mono ?_
  rintro e w2 ⟨rfl, hA2, hlf⟩
  obtain ⟨ys, zs, hW⟩ := hlf _ (Below.refl _ _)
  have HW : Hid (Worked B w0 k (m + 10) w2) := ⟨ys, zs, z, i, hW⟩
  clear hlf hA2 HREF hW
  go_wp2_with fail
  refine (errSame f _ hf0).mono ?_
  rintro e w' ⟨rfl, hw⟩
  have hw' := hw.symm
  subst hw'
  clear hw
  go_wp2
  go_ret
  exact ⟨rfl, HW.out⟩

set_option maxRecDepth 100000 in
set_option maxHeartbeats 2000000 in
theorem worked_pause {B m : Nat} {w0 : World} {k : Wk} {xs : Nat → Ih} {qs : Nat → Qh} {s : SV} {j : JV} (x : ActV) (w : World) (h : Work B w0 w k xs qs s m j) (e0 : x.kind.toList = [112, 97, 117, 115, 101]) :
    Calls Tryz.prog 18 #[.pointer (some ⟨k.jp, 0, none⟩), .pointer (some ⟨k.xp, 0, none⟩), .agg #[.string x.kind, .int .i64 x.a, .int .i64 x.b, .int .i64 x.c, .int .i64 x.d, .string x.s, .slice x.ka x.kl x.kc]] w fun e w' => e = .returned (.bool true) ∧ Worked B w0 k (m + 10) w' := by
  have HST := toHid (work_step h x (fun W hp _ => pause_any (decide (0 < x.a)) W hp) (fun W hr => rpause_any (decide (0 < x.a)) W hr))
  have hf0 := pauseF_pos j (decide (0 < x.a))
  have g0 : (x.kind.toList == [115, 116, 101, 112]) = false := by rw [e0]; rfl
  have g1 : (x.kind.toList == [100, 105, 114, 116, 121]) = false := by rw [e0]; rfl
  have g2 : (x.kind.toList == [112, 97, 117, 115, 101]) = true := by rw [e0]; rfl
  generalize pauseF j (decide (0 < x.a)) = f at HST hf0
  generalize pauseJ j (decide (0 < x.a)) = i at HST
  have hat : ActAt (w.alloc (actBox x)) w.heap.size x := ⟨heap_alloc_new w _⟩
  have hatd : ActAt (w.alloc (actBox x)).drew w.heap.size x := ⟨heap_alloc_new w _⟩
  have HC := toHid hatd.cells
  have HB1 : Hid (Below (w.alloc (actBox x)).heap.size (w.alloc (actBox x)) (w.alloc (actBox x)).drew) := (Below.refl _ _).drew
  clear h e0 hat hatd
  unfold actBox at HST HC HB1
  go_enter Tryz.func18, Tryz.ntmps18
  go_wp2_with fail
  generalize w.alloc (.cells #[.string x.kind, .int .i64 x.a, .int .i64 x.b, .int .i64 x.c, .int .i64 x.d, .string x.s, .slice x.ka x.kl x.kc] 43) = W at HST HC HB1 ⊢
  generalize w.heap.size = N at HST HC ⊢
  go_region_held3 (fun W' => W'.cell? ⟨N, 1, none⟩ = some (.int .i64 x.a) ∧ W'.cell? ⟨N, 2, none⟩ = some (.int .i64 x.b) ∧ W'.cell? ⟨N, 5, none⟩ = some (.string x.s))
    (first | (exact HC.out) | assumption)
    (first
      | (go_at_call 47; refine (HST.out _ HB1.out).mono ?_; rintro e W1 ⟨rfl, hA1, href⟩; have hSW1 := hA1.cells; have HREF := toHid href; clear href hA1)
      | (go_at_call 56; refine (HREF.out _ (Below.refl _ _)).mono ?_; rintro e W2 ⟨rfl, hA2, hlf⟩; have hSW2 := hA2.cells; have HLF := toHid hlf; clear hlf hA2)
      | (go_at_call 11; refine (errSame f _ hf0).mono ?_; rintro e w' ⟨rfl, rfl⟩))
  clear HREF hSW1 hSW2
  have HMO : Hid (∀ W : World, (∃ ys zs, Work B w0 W k ys zs s m i) → Worked B w0 k (m + 10) W) := fun W ⟨ys, zs, hW⟩ => ⟨ys, zs, s, i, hW.more (by omega)⟩
  go_wp2
  go_ret
  exact ⟨rfl, HMO.out _ (HLF.out _ (Below.refl _ _))⟩
end Go.Proofs.YtjegaljdindfaabGreatDoor

namespace Go.Proofs.YtjegaljdindfaabGreatDoor
open Go.RowKit Go.Maps
attribute [local go_sem ↓] Go.wp_at_zero Go.wp_at_succ

theorem JV.end_state (j : JV) (b : Bool) : (endJ j b).state = if b = true then 4 else 5 := by
  unfold endJ
  cases b with
  | true => exact j.at_state (by decide)
  | false => exact j.at_state (by decide)

theorem tick_state (j : JV) (n : Int) : (tickJ j n).state = j.state := by
  unfold tickJ
  split <;> rfl

set_option maxRecDepth 100000 in
set_option maxHeartbeats 2000000 in
theorem worked_tick {B m : Nat} {w0 : World} {k : Wk} {xs : Nat → Ih} {qs : Nat → Qh} {s : SV} {j : JV} (x : ActV) (w : World) (h : Work B w0 w k xs qs s m j) (e0 : x.kind.toList = [116, 105, 99, 107]) :
    Calls Tryz.prog 18 #[.pointer (some ⟨k.jp, 0, none⟩), .pointer (some ⟨k.xp, 0, none⟩), .agg #[.string x.kind, .int .i64 x.a, .int .i64 x.b, .int .i64 x.c, .int .i64 x.d, .string x.s, .slice x.ka x.kl x.kc]] w fun e w' => e = .returned (.bool true) ∧ Worked B w0 k (m + 10) w' := by
  have g0 : (x.kind.toList == [115, 116, 101, 112]) = false := by rw [e0]; rfl
  have g1 : (x.kind.toList == [100, 105, 114, 116, 121]) = false := by rw [e0]; rfl
  have g2 : (x.kind.toList == [112, 97, 117, 115, 101]) = false := by rw [e0]; rfl
  have g3 : (x.kind.toList == [116, 105, 99, 107]) = true := by rw [e0]; rfl
  have hba : Below w.heap.size w (w.alloc (actBox x)) := (Below.refl _ _).alloc (Nat.le_refl _) _
  have hat : ActAt (w.alloc (actBox x)) w.heap.size x := ⟨heap_alloc_new w _⟩
  obtain ⟨c1, c2, c5⟩ := hat.cells
  cases hin : S4.inB x.a 100000 with
  | false =>
    have HTK : Hid (∀ W : World, Below w.heap.size w W → Calls Tryz.prog 57 #[.pointer (some ⟨k.jp, 0, none⟩), .int .i64 x.a] W fun e w' => e = .returned (erV 1) ∧ Worked B w0 k (m + 10) w') := fun W hb => by
      have hW := h.below hb
      refine (jtick_any x.a W hW.p).mono ?_
      rintro e w' ⟨rfl, xs', h1, h2⟩
      unfold tickJ at h1
      rw [hin, if_neg (by decide)] at h1
      rw [hin]
      have := (hW.prog_acts h1 h2)
      have hr := this.ref_acts this.r (Moved.refl _ _)
      exact ⟨rfl, xs', qs, s, j, hr.more (by omega)⟩
    have hcs : x.a < 0 ∨ (0 ≤ x.a ∧ 100000 < x.a) := by unfold S4.inB at hin; simp at hin; omega
    have HB := toHid hba
    clear h hba hat hin e0
    unfold actBox at HB c1 c2 c5
    rcases hcs with hc | ⟨hc, hc2⟩
    · have ga : decide (x.a < 0) = true := decide_eq_true hc
      go_enter Tryz.func18, Tryz.ntmps18
      go_wp2_with fail
      refine (HTK.out _ HB.out).mono ?_
      rintro e w1 ⟨rfl, hw1⟩
      have HW := toHid hw1
      clear hw1 HTK
      go_wp2_with fail
      refine (errSame 1 _ (by decide)).mono ?_
      rintro e w' ⟨rfl, hw⟩
      have hw' := hw.symm
      subst hw'
      clear hw
      go_wp2
      go_ret
      exact ⟨rfl, HW.out⟩
    · have ga : decide (x.a < 0) = false := decide_eq_false (by omega)
      have gb : decide (100000 < x.a) = true := decide_eq_true hc2
      go_enter Tryz.func18, Tryz.ntmps18
      go_wp2_with fail
      refine (HTK.out _ HB.out).mono ?_
      rintro e w1 ⟨rfl, hw1⟩
      have HW := toHid hw1
      clear hw1 HTK
      go_wp2_with fail
      refine (errSame 1 _ (by decide)).mono ?_
      rintro e w' ⟨rfl, hw⟩
      have hw' := hw.symm
      subst hw'
      clear hw
      go_wp2
      go_ret
      exact ⟨rfl, HW.out⟩
  | true =>
    have hin' : 0 ≤ x.a ∧ x.a ≤ 100000 := by unfold S4.inB at hin; simpa using hin
    obtain ⟨n, hn⟩ : ∃ n : Nat, x.a = (n : Int) := ⟨x.a.toNat, by omega⟩
    have ga : decide (x.a < 0) = false := decide_eq_false (by omega)
    have gb : decide (100000 < x.a) = false := decide_eq_false (by omega)
    have HRT : Hid (∀ W : World, Below (w.alloc (actBox x)).heap.size (w.alloc (actBox x)) W → Calls Tryz.prog 58 #[.pointer (some ⟨k.xp, 75, none⟩), .int .i64 x.a] W fun e w1 => (∃ v, e = .returned v) ∧ ActAt w1 w.heap.size x ∧
        ∀ W2 : World, Below w1.heap.size w1 W2 → Calls Tryz.prog 57 #[.pointer (some ⟨k.jp, 0, none⟩), .int .i64 x.a] W2 fun e w2 => e = .returned (erV 0) ∧ Worked B w0 k (m + 10) w2) := fun W hb => by
      have hW := h.below (hba.trans (hb.mono hba.size))
      obtain ⟨cur, hb75, hcur⟩ := hW.r.job.bkt
      have hlv := hW.r.ok.lv
      have hti := S4.tickV_in (r := j.rate) (b := j.burst) (l := j.lv) (n := (n : Int)) hW.r.ok.rate.1 hlv.1 (by omega) (by omega)
      rw [hn]
      refine (S4.r75tick_any n W hb75 (by omega) hW.r.ok.rate ⟨hlv.1, hlv.2.1⟩ hlv.2.2).mono ?_
      rintro e w1 ⟨he, h1, h2⟩
      obtain ⟨p1, m1⟩ := hW.r.putL hcur h1 h2 hti
      have hjt : ({ j with lv := S4.tickV j.rate j.burst j.lv (n : Int) } : JV) = tickJ j (n : Int) := by unfold tickJ; rw [← hn, hin, if_pos rfl, hn]
      rw [hjt] at p1
      have hst : j.state = (tickJ j (n : Int)).state := (tick_state j _).symm
      rw [hst] at p1
      obtain ⟨hmid, hmp⟩ := hW.ref_first p1 m1
      have hlt : w.heap.size < (w.alloc (actBox x)).heap.size := by simp
      have hblk : W.heap[w.heap.size]? = some (actBox x) := by rw [hb.block _ hlt]; exact heap_alloc_new w _
      have hlt1 : w.heap.size < W.heap.size := Nat.lt_of_lt_of_le hlt hb.size
      have hnR : ¬ fpR qs s k.xp w.heap.size := fun hf => absurd (h.r.fpLt hf) (Nat.lt_irrefl _)
      refine ⟨he, ⟨by rw [m1.block hlt1 hnR]; exact hblk⟩, fun W2 hb2 => ?_⟩
      have hm2 := hmid.below hb2
      refine (jtick_any (n : Int) W2 hm2.p).mono ?_
      rintro e w2 ⟨rfl, xs', h3, h4⟩
      have hin2 : S4.inB (n : Int) 100000 = true := by rw [← hn]; exact hin
      rw [hin2, if_pos rfl]
      exact ⟨rfl, xs', qs, s, tickJ j (n : Int), (hm2.prog_then hmp h3 h4).more (by omega)⟩
    have hatd : ActAt (w.alloc (actBox x)).drew w.heap.size x := ⟨heap_alloc_new w _⟩
    have HC := toHid hatd.cells
    have HB1 : Hid (Below (w.alloc (actBox x)).heap.size (w.alloc (actBox x)) (w.alloc (actBox x)).drew) := (Below.refl _ _).drew
    clear h hba hat hatd hin e0 hn c1 c2 c5
    have c1 : (w.alloc (actBox x)).cell? ⟨w.heap.size, 1, none⟩ = some (.int .i64 x.a) := HC.out.1
    unfold actBox at HRT HC HB1 c1
    go_enter Tryz.func18, Tryz.ntmps18
    go_wp2_with fail
    generalize w.alloc (.cells #[.string x.kind, .int .i64 x.a, .int .i64 x.b, .int .i64 x.c, .int .i64 x.d, .string x.s, .slice x.ka x.kl x.kc] 43) = W at HRT HC HB1 c1 ⊢
    generalize w.heap.size = N at HRT HC c1 ⊢
    go_region_held3 (fun W' => W'.cell? ⟨N, 1, none⟩ = some (.int .i64 x.a) ∧ W'.cell? ⟨N, 2, none⟩ = some (.int .i64 x.b) ∧ W'.cell? ⟨N, 5, none⟩ = some (.string x.s))
      (first | (exact HC.out) | assumption)
      (first
        | (go_at_call 58; refine (HRT.out _ HB1.out).mono ?_; rintro e W1 ⟨⟨v, rfl⟩, hA1, hnx⟩; have hSW1 := hA1.cells; have HNX := toHid hnx; clear hnx hA1))
    obtain ⟨b1, b2, b5⟩ := hSW1
    go_wp2_with fail
    refine (HNX.out _ (Below.refl _ _)).mono ?_
    rintro e w2 ⟨rfl, hw2⟩
    have HW := toHid hw2
    clear hw2 HNX
    go_wp2_with fail
    refine (errSame 0 _ (by decide)).mono ?_
    rintro e w' ⟨rfl, hw⟩
    have hw' := hw.symm
    subst hw'
    clear hw
    go_wp2
    go_ret
    exact ⟨rfl, HW.out⟩

set_option maxRecDepth 100000 in
set_option maxHeartbeats 2000000 in
theorem worked_end {B m : Nat} {w0 : World} {k : Wk} {xs : Nat → Ih} {qs : Nat → Qh} {s : SV} {j : JV} (x : ActV) (w : World) (h : Work B w0 w k xs qs s m j) (e0 : x.kind.toList = [101, 110, 100]) :
    Calls Tryz.prog 18 #[.pointer (some ⟨k.jp, 0, none⟩), .pointer (some ⟨k.xp, 0, none⟩), .agg #[.string x.kind, .int .i64 x.a, .int .i64 x.b, .int .i64 x.c, .int .i64 x.d, .string x.s, .slice x.ka x.kl x.kc]] w fun e w' => e = .returned (.bool true) ∧ Worked B w0 k (m + 10) w' := by
  have g0 : (x.kind.toList == [115, 116, 101, 112]) = false := by rw [e0]; rfl
  have g1 : (x.kind.toList == [100, 105, 114, 116, 121]) = false := by rw [e0]; rfl
  have g2 : (x.kind.toList == [112, 97, 117, 115, 101]) = false := by rw [e0]; rfl
  have g3 : (x.kind.toList == [116, 105, 99, 107]) = false := by rw [e0]; rfl
  have g4 : (x.kind.toList == [115, 101, 116, 116, 108, 101]) = false := by rw [e0]; rfl
  have g5 : (x.kind.toList == [101, 110, 100]) = true := by rw [e0]; rfl
  have hba : Below w.heap.size w (w.alloc (actBox x)) := (Below.refl _ _).alloc (Nat.le_refl _) _
  have HEN : Hid (Calls Tryz.prog 61 #[.pointer (some ⟨k.jp, 0, none⟩), .bool (decide (0 < x.a))] (w.alloc (actBox x)) fun e w1 => e = .returned (.tuple #[]) ∧ w1.cell? ⟨k.xp, 74, none⟩ = some (.int .i64 j.state) ∧ w1.frozen? ⟨k.xp, 74, none⟩ = false ∧ (w1.setCell ⟨k.xp, 74, none⟩ (.int .i64 5)).cell? ⟨w.heap.size, 1, none⟩ = some (.int .i64 x.a) ∧ (decide (0 < x.a) = false → Worked B w0 k (m + 10) (w1.setCell ⟨k.xp, 74, none⟩ (.int .i64 5))) ∧ (decide (0 < x.a) = true → Worked B w0 k (m + 10) ((w1.setCell ⟨k.xp, 74, none⟩ (.int .i64 5)).setCell ⟨k.xp, 74, none⟩ (.int .i64 4)))) := by
    have hW := h.below hba
    refine (end_any (decide (0 < x.a)) _ hW.p).mono ?_
    rintro e w1 ⟨rfl, xs', h1, h2⟩
    have hmid := hW.prog_acts h1 h2
    obtain ⟨_, _, _, _, _, _, c74, _, f74⟩ := hmid.r.job.cells
    have hlt : w.heap.size < (w.alloc (actBox x)).heap.size := by simp
    have hnP : ¬ fpP xs s k.jp k.lp k.bp w.heap.size := fun hf => absurd (h.p.fpLt hf) (Nat.lt_irrefl _)
    have a1 : ActAt w1 w.heap.size x := ⟨by rw [h2.block hlt hnP]; exact heap_alloc_new w _⟩
    have hne : w.heap.size ≠ k.xp := fun e => by have := h.r.job.lt; omega
    have hst := h.r.ok.stage
    obtain ⟨p5, m5⟩ := hmid.r.set74 5
    obtain ⟨p4, m4⟩ := p5.set74 4
    refine ⟨rfl, c74, f74, (World.cell?_of_block (heap_setCell_other _ _ _ _ hne)).trans a1.cells.1, fun hx => ?_, fun hx => ?_⟩
    · rw [hx] at h1 hmid
      have p5' : RJ (w1.setCell ⟨k.xp, 74, none⟩ (.int .i64 5)) k.mp k.xp k.b k.bcap qs s m k.C (endJ j false) (endJ j false).state := by
        rw [j.end_state false]
        exact p5.staged (st := 5) (.inr (.inr (.inr rfl)))
      exact ⟨xs', qs, s, endJ j false, (hmid.ref_acts p5' m5).more (by omega)⟩
    · rw [hx] at h1 hmid
      have p4' : RJ ((w1.setCell ⟨k.xp, 74, none⟩ (.int .i64 5)).setCell ⟨k.xp, 74, none⟩ (.int .i64 4)) k.mp k.xp k.b k.bcap qs s m k.C (endJ j true) (endJ j true).state := by
        rw [j.end_state true]
        exact p4.staged (st := 4) (.inr (.inr (.inl rfl)))
      exact ⟨xs', qs, s, endJ j true, (hmid.ref_acts p4' (m5.trans m4)).more (by omega)⟩
  clear h hba e0
  unfold actBox at HEN
  have HSF : Hid (∀ w1 : World, w1.cell? ⟨k.xp, 74, none⟩ = some (.int .i64 j.state) → w1.frozen? ⟨k.xp, 74, none⟩ = false → (w1.setCell ⟨k.xp, 74, none⟩ (.int .i64 5)).frozen? ⟨k.xp, 74, none⟩ = false) := fun w1 _ hf => by
    first | (simpa using hf) | (rw [World.frozen?_setCell]; exact hf)
  generalize j.state = st at HEN HSF
  by_cases hx : 0 < x.a
  · have gx : decide (0 < x.a) = true := decide_eq_true hx
    rw [gx] at HEN
    go_enter Tryz.func18, Tryz.ntmps18
    go_wp2_with fail
    refine HEN.out.mono ?_
    rintro e w1 ⟨rfl, c74, f74, cN, _, hfin⟩
    have HF := toHid (hfin (by first | rfl | trivial))
    clear hfin HEN
    go_wp2
    go_ret
    exact ⟨rfl, HF.out⟩
  · have gx : decide (0 < x.a) = false := decide_eq_false hx
    rw [gx] at HEN
    go_enter Tryz.func18, Tryz.ntmps18
    go_wp2_with fail
    refine HEN.out.mono ?_
    rintro e w1 ⟨rfl, c74, f74, cN, hfin, _⟩
    have HF := toHid (hfin (by first | rfl | trivial))
    clear hfin HEN
    go_wp2
    go_ret
    exact ⟨rfl, HF.out⟩

set_option maxRecDepth 100000 in
set_option maxHeartbeats 2000000 in
theorem worked_none {B m : Nat} {w0 : World} {k : Wk} {xs : Nat → Ih} {qs : Nat → Qh} {s : SV} {j : JV} (x : ActV) (w : World) (h : Work B w0 w k xs qs s m j) (e0 : x.kind.toList ≠ [115, 116, 101, 112]) (e1 : x.kind.toList ≠ [100, 105, 114, 116, 121]) (e2 : x.kind.toList ≠ [112, 97, 117, 115, 101]) (e3 : x.kind.toList ≠ [116, 105, 99, 107]) (e4 : x.kind.toList ≠ [115, 101, 116, 116, 108, 101]) (e5 : x.kind.toList ≠ [101, 110, 100]) :
    Calls Tryz.prog 18 #[.pointer (some ⟨k.jp, 0, none⟩), .pointer (some ⟨k.xp, 0, none⟩), .agg #[.string x.kind, .int .i64 x.a, .int .i64 x.b, .int .i64 x.c, .int .i64 x.d, .string x.s, .slice x.ka x.kl x.kc]] w fun e w' => e = .returned (.bool true) ∧ Worked B w0 k (m + 10) w' := by
  have g0 : (x.kind.toList == [115, 116, 101, 112]) = false := by simpa using e0
  have g1 : (x.kind.toList == [100, 105, 114, 116, 121]) = false := by simpa using e1
  have g2 : (x.kind.toList == [112, 97, 117, 115, 101]) = false := by simpa using e2
  have g3 : (x.kind.toList == [116, 105, 99, 107]) = false := by simpa using e3
  have g4 : (x.kind.toList == [115, 101, 116, 116, 108, 101]) = false := by simpa using e4
  have g5 : (x.kind.toList == [101, 110, 100]) = false := by simpa using e5
  have HW : Hid (Worked B w0 k (m + 10) (w.alloc (actBox x))) := ⟨xs, qs, s, j, (h.below ((Below.refl _ _).alloc (Nat.le_refl _) _)).more (by omega)⟩
  clear h e0 e1 e2 e3 e4 e5
  unfold actBox at HW
  go_enter Tryz.func18, Tryz.ntmps18
  go_wp2
  go_ret
  exact ⟨rfl, HW.out⟩

theorem worked_any {B m : Nat} {w0 : World} {k : Wk} (x : ActV) (w : World) (h : Worked B w0 k m w) (hT : S4.Tab w0) (hB : 0 < B) (hm : m + 10 < 1000000000) :
    Calls Tryz.prog 18 #[.pointer (some ⟨k.jp, 0, none⟩), .pointer (some ⟨k.xp, 0, none⟩), .agg #[.string x.kind, .int .i64 x.a, .int .i64 x.b, .int .i64 x.c, .int .i64 x.d, .string x.s, .slice x.ka x.kl x.kc]] w fun e w' => e = .returned (.bool true) ∧ Worked B w0 k (m + 10) w' := by
  obtain ⟨xs, qs, s, j, hW⟩ := h
  by_cases e0 : x.kind.toList = [115, 116, 101, 112]
  · exact worked_step x w hW hT hB hm e0
  · by_cases e1 : x.kind.toList = [100, 105, 114, 116, 121]
    · exact worked_dirty x w hW e1
    · by_cases e2 : x.kind.toList = [112, 97, 117, 115, 101]
      · exact worked_pause x w hW e2
      · by_cases e3 : x.kind.toList = [116, 105, 99, 107]
        · exact worked_tick x w hW e3
        · by_cases e4 : x.kind.toList = [115, 101, 116, 116, 108, 101]
          · exact worked_settle x w hW hm e4
          · by_cases e5 : x.kind.toList = [101, 110, 100]
            · exact worked_end x w hW e5
            · exact worked_none x w hW e0 e1 e2 e3 e4 e5
end Go.Proofs.YtjegaljdindfaabGreatDoor

namespace Go.Proofs.YtjegaljdindfaabGreatDoor
open Go.RowKit Go.Maps
attribute [local go_sem ↓] Go.wp_at_zero Go.wp_at_succ

set_option maxRecDepth 100000 in
theorem zero_job (w : World) : (zeroValue 121).run Tryz.prog w = .ok (.agg ((.pointer none :: .int .i64 0 :: .int .i64 0 :: .int .i64 0 :: .int .i64 0 :: .int .i64 0 :: .slice none 0 0 :: .int .i64 0 :: .int .i64 0 :: Value.bool false :: Value.bool false :: Value.bool false :: Value.bool false :: Value.bool false :: Value.bool false :: Value.bool false :: Value.bool false :: Value.bool false :: Value.bool false :: Value.bool false :: Value.bool false :: Value.bool false :: Value.bool false :: Value.bool false :: Value.bool false :: Value.bool false :: Value.bool false :: Value.bool false :: Value.bool false :: Value.bool false :: Value.bool false :: Value.bool false :: Value.bool false :: Value.bool false :: Value.bool false :: Value.bool false :: Value.bool false :: Value.bool false :: Value.bool false :: Value.bool false :: Value.bool false :: Value.bool false :: Value.bool false :: Value.bool false :: Value.bool false :: Value.bool false :: Value.bool false :: Value.bool false :: Value.bool false :: Value.bool false :: Value.bool false :: Value.bool false :: Value.bool false :: Value.bool false :: Value.bool false :: Value.bool false :: Value.bool false :: Value.bool false :: Value.bool false :: Value.bool false :: Value.bool false :: Value.bool false :: Value.bool false :: Value.bool false :: Value.bool false :: Value.bool false :: Value.bool false :: Value.bool false :: Value.bool false :: Value.bool false :: Value.bool false :: Value.bool false :: Value.bool false :: .int .i64 0 :: .int .i64 0 :: .int .i64 0 :: .int .i64 0 :: .int .i64 0 :: [] : List Value).toArray)) w := by kernel_rfl

def rjobL (mp : Nat) (rt kd fl ra bu : Int) (a : Option Addr) (ln cap : Nat) : Array Value := ((.pointer (some ⟨mp, 0, none⟩) :: .int .i64 rt :: .int .i64 kd :: .int .i64 fl :: .int .i64 ra :: .int .i64 bu :: .slice a ln cap :: .int .i64 0 :: .int .i64 0 :: Value.bool false :: Value.bool false :: Value.bool false :: Value.bool false :: Value.bool false :: Value.bool false :: Value.bool false :: Value.bool false :: Value.bool false :: Value.bool false :: Value.bool false :: Value.bool false :: Value.bool false :: Value.bool false :: Value.bool false :: Value.bool false :: Value.bool false :: Value.bool false :: Value.bool false :: Value.bool false :: Value.bool false :: Value.bool false :: Value.bool false :: Value.bool false :: Value.bool false :: Value.bool false :: Value.bool false :: Value.bool false :: Value.bool false :: Value.bool false :: Value.bool false :: Value.bool false :: Value.bool false :: Value.bool false :: Value.bool false :: Value.bool false :: Value.bool false :: Value.bool false :: Value.bool false :: Value.bool false :: Value.bool false :: Value.bool false :: Value.bool false :: Value.bool false :: Value.bool false :: Value.bool false :: Value.bool false :: Value.bool false :: Value.bool false :: Value.bool false :: Value.bool false :: Value.bool false :: Value.bool false :: Value.bool false :: Value.bool false :: Value.bool false :: Value.bool false :: Value.bool false :: Value.bool false :: Value.bool false :: Value.bool false :: Value.bool false :: Value.bool false :: Value.bool false :: .int .i64 (-1) :: .int .i64 2 :: .int .i64 ra :: .int .i64 bu :: .int .i64 bu :: [] : List Value).toArray)

set_option maxRecDepth 100000 in
theorem rjobL_size (mp : Nat) (rt kd fl ra bu : Int) (a : Option Addr) (ln cap : Nat) : (rjobL mp rt kd fl ra bu a ln cap).size = 78 := by kernel_rfl
set_option maxRecDepth 100000 in
theorem rjobL_bits (mp : Nat) (rt kd fl ra bu : Int) (a : Option Addr) (ln cap : Nat) : ∀ k, k < 64 → (rjobL mp rt kd fl ra bu a ln cap)[9 + k]? = some (.bool false) := by
  have h : rjobL mp rt kd fl ra bu a ln cap = #[.pointer (some ⟨mp, 0, none⟩), .int .i64 rt, .int .i64 kd, .int .i64 fl, .int .i64 ra, .int .i64 bu, .slice a ln cap, .int .i64 0, .int .i64 0] ++ Array.replicate 64 (.bool false) ++ #[.int .i64 (-1), .int .i64 2, .int .i64 ra, .int .i64 bu, .int .i64 bu] := by kernel_rfl
  intro k hk
  rw [h, Array.getElem?_append_left (by simp; omega), Array.getElem?_append_right (by simp)]
  simp [hk]

/- The new block, as a job that wants nothing yet. -/
theorem rjob_lit {mp cap : Nat} {a : Option Addr} {J : JV} (w : World) (h1 : J.deep = 0) (h2 : J.n = 0) (h3 : J.x = 0) (h4 : J.last = -1) (h5 : J.lv = J.burst) :
    IsRjob (w.alloc (.cells (rjobL mp J.rt J.kind J.file J.rate J.burst a J.l.length cap) 121)) w.heap.size mp a cap J 2 := by
  refine ⟨_, heap_alloc_new w _, rjobL_size .., fun i hi => ?_⟩
  by_cases hb : 9 ≤ i ∧ i < 73
  · obtain ⟨k, rfl⟩ : ∃ k, i = 9 + k := ⟨i - 9, by omega⟩
    rw [rjobL_bits _ _ _ _ _ _ _ _ _ k (by omega), rjC_bit (by omega), h3, Nat.zero_testBit]
  · by_cases h9 : i < 9
    · match i, h9 with
      | 0, _ => rfl
      | 1, _ => rfl
      | 2, _ => rfl
      | 3, _ => rfl
      | 4, _ => rfl
      | 5, _ => rfl
      | 6, _ => rfl
      | 7, _ => show some (Value.int .i64 0) = some (Value.int .i64 ((J.deep : Nat) : Int)); rw [h1]; rfl
      | 8, _ => show some (Value.int .i64 0) = some (Value.int .i64 ((J.n : Nat) : Int)); rw [h2]; rfl
    · obtain ⟨k, rfl⟩ : ∃ k, i = 73 + k := ⟨i - 73, by omega⟩
      have hk : k < 5 := by omega
      match k, hk with
      | 0, _ => show some (Value.int .i64 (-1)) = some (Value.int .i64 J.last); rw [h4]
      | 1, _ => rfl
      | 2, _ => rfl
      | 3, _ => rfl
      | 4, _ => show some (Value.int .i64 J.burst) = some (Value.int .i64 J.lv); rw [h5]

theorem IsRjob.set8n {w : World} {xp mp cap : Nat} {a : Option Addr} {j : JV} {is : Int} (h : IsRjob w xp mp a cap j is) (n : Nat) : IsRjob (w.setCell ⟨xp, 8, none⟩ (.int .i64 (n : Int))) xp mp a cap { j with n := n } is :=
  h.set 8 (by omega) _ fun k hk => by
    by_cases e : k = 8
    · subst e; rfl
    · rw [if_neg e]; unfold rjC; simp only [if_neg e]
theorem IsRjob.set7d {w : World} {xp mp cap : Nat} {a : Option Addr} {j : JV} {is : Int} (h : IsRjob w xp mp a cap j is) (n : Nat) : IsRjob (w.setCell ⟨xp, 7, none⟩ (.int .i64 (n : Int))) xp mp a cap { j with deep := n } is :=
  h.set 7 (by omega) _ fun k hk => by
    by_cases e : k = 7
    · subst e; rfl
    · rw [if_neg e]; unfold rjC; simp only [if_neg e]

set_option maxRecDepth 100000 in
set_option maxHeartbeats 2000000 in
theorem rnew_early {mp m : Nat} {qs : Nat → Qh} {s : SV} (d : KDesk) (w : World) (h : IsRshelf w mp qs s m) (hf : (s.walk d.root).2 ≠ 0 ∨ (s.walk d.root).1 = [] ∨ (S4.inB d.rate 1000 && S4.inB d.burst 1000) = false) :
    Calls Tryz.prog 17 #[.pointer (some ⟨mp, 0, none⟩), .agg #[.int .i64 d.root, .int .i64 d.kind, .int .i64 d.file, .int .i64 d.rate, .int .i64 d.burst]] w fun e w' => e = .returned (.tuple #[.pointer none, .int .i64 (newF s d)]) ∧ Below w.heap.size w w' := by
  have HB0 : Hid (Below w.heap.size w (w.alloc (deskC d))) := (Below.refl _ _).alloc (Nat.le_refl _) _
  have HDK := toHid (desk_cells d w)
  have HWK := toHid (rwalk_any d.root (w.alloc (deskC d)) (h.below HB0.out))
  obtain ⟨hg, hl5, hf0, _⟩ := s.walk_good d.root
  have HNF : Hid (newF s d = if (s.walk d.root).2 ≠ 0 then (s.walk d.root).2 else if (s.walk d.root).1 = [] then 4 else if (S4.inB d.rate 1000 && S4.inB d.burst 1000) = false then 1 else chkJ s (s.walk d.root).1 d) := rfl
  clear h hg
  generalize newF s d = nf at HNF ⊢
  generalize chkJ s (s.walk d.root).1 d = ck at HNF
  generalize s.walk d.root = R at HWK HNF hl5 hf0 hf
  obtain ⟨l, f⟩ := R
  simp only at HWK HNF hl5 hf0 hf
  unfold deskC at HB0 HDK HWK
  by_cases h0 : f = 0
  · subst h0
    by_cases hl : l = []
    · subst hl
      have HN4 : Hid (nf = 4) := by unfold Hid; rw [HNF.out, if_neg (by simp), if_pos rfl]
      rw [HN4.out]
      obtain ⟨d0, _⟩ := HDK.out _ (Below.refl _ _)
      clear HNF HN4 HDK
      go_enter Tryz.func17, Tryz.ntmps17
      go_wp2_with fail
      refine HWK.out.mono ?_
      rintro e w1 ⟨a, cap, rfl, hn1, ha1, hb1⟩
      have HB1 := toHid (HB0.out.trans (hb1.mono HB0.out.size))
      clear hn1 ha1 hb1 HWK
      go_wp2
      go_ret2
      exact ⟨rfl, HB1.out⟩
    · have hbk : (S4.inB d.rate 1000 && S4.inB d.burst 1000) = false := by
        rcases hf with e | e | e
        · exact absurd rfl e
        · exact absurd e hl
        · exact e
      have HN1 : Hid (nf = 1) := by unfold Hid; rw [HNF.out, if_neg (by simp), if_neg hl, hbk, if_pos rfl]
      rw [HN1.out]
      have hlp : 0 < l.length := List.length_pos_iff.2 hl
      have hlz : ((l.length : Int) == 0) = false := by simp; omega
      obtain ⟨d0, _⟩ := HDK.out _ (Below.refl _ _)
      clear HNF HN1 hf
      generalize l.length = ln at HWK hlz hlp
      have hcs : d.rate < 0 ∨ (0 ≤ d.rate ∧ 1000 < d.rate) ∨ (0 ≤ d.rate ∧ d.rate ≤ 1000 ∧ d.burst < 0) ∨ (0 ≤ d.rate ∧ d.rate ≤ 1000 ∧ 0 ≤ d.burst ∧ 1000 < d.burst) := by
        unfold S4.inB at hbk
        simp at hbk
        omega
      go_enter Tryz.func17, Tryz.ntmps17
      go_wp2_with fail
      refine HWK.out.mono ?_
      rintro e w1 ⟨a, cap, rfl, hn1, ha1, hb1⟩
      have HB1 := toHid (HB0.out.trans (hb1.mono HB0.out.size))
      obtain ⟨q0, q1, q2, q3, q4⟩ := HDK.out _ hb1
      clear hn1 ha1 hb1 HWK HDK HB0 d0
      rcases hcs with e1 | ⟨e1, e2⟩ | ⟨e1, e2, e3⟩ | ⟨e1, e2, e3, e4⟩
      · have g1 : decide (d.rate < 0) = true := decide_eq_true e1
        go_wp2
        go_ret2
        exact ⟨rfl, HB1.out⟩
      · have g1 : decide (d.rate < 0) = false := decide_eq_false (by omega)
        have g2 : decide (1000 < d.rate) = true := decide_eq_true e2
        go_wp2
        go_ret2
        exact ⟨rfl, HB1.out⟩
      · have g1 : decide (d.rate < 0) = false := decide_eq_false (by omega)
        have g2 : decide (1000 < d.rate) = false := decide_eq_false (by omega)
        have g3 : decide (d.burst < 0) = true := decide_eq_true e3
        go_wp2
        go_ret2
        exact ⟨rfl, HB1.out⟩
      · have g1 : decide (d.rate < 0) = false := decide_eq_false (by omega)
        have g2 : decide (1000 < d.rate) = false := decide_eq_false (by omega)
        have g3 : decide (d.burst < 0) = false := decide_eq_false (by omega)
        have g4 : decide (1000 < d.burst) = true := decide_eq_true e4
        go_wp2
        go_ret2
        exact ⟨rfl, HB1.out⟩
  · have HN1 : Hid (nf = f) := by unfold Hid; rw [HNF.out, if_pos h0]
    rw [HN1.out]
    have gf : decide (0 < f) = true := decide_eq_true (by omega)
    obtain ⟨d0, _⟩ := HDK.out _ (Below.refl _ _)
    clear HNF HN1 HDK
    go_enter Tryz.func17, Tryz.ntmps17
    go_wp2_with fail
    refine HWK.out.mono ?_
    rintro e w1 ⟨a, cap, rfl, hn1, ha1, hb1⟩
    have HB1 := toHid (HB0.out.trans (hb1.mono HB0.out.size))
    clear hn1 ha1 hb1 HWK
    go_wp2
    go_ret2
    exact ⟨rfl, HB1.out⟩
end Go.Proofs.YtjegaljdindfaabGreatDoor
