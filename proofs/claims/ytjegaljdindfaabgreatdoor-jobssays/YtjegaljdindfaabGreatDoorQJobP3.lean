/-
A file of a shelf is linked, or flushed: in the program and in the document's answer.
What turns a job of the program: pause, tick, dirty, the end; a cluster's move; the files' flush; the root's link.
A cluster's move into the job's file; the files' flush; the root's link (program).
-/
import Derived.Test.YtjegaljdindfaabGreatDoorQRjMem
import Derived.Test.YtjegaljdindfaabGreatDoorQRchRead
import Derived.Test.YtjegaljdindfaabGreatDoorQRimLink
import Derived.Test.YtjegaljdindfaabGreatDoorQJobP1
import Derived.Test.YtjegaljdindfaabGreatDoorQChainRead
import Derived.Test.YtjegaljdindfaabGreatDoorQLawAsShelf
namespace Go.Proofs.YtjegaljdindfaabGreatDoor
open Go.RowKit Go.Maps

theorem link_s {sp m : Nat} {xs : Nat → Ih} {s : SV} {n : Int} {v : IV} (b : Int) (w : World) (h : IsShelf w sp xs s m) (hf : s.file n = some v) (hm : m + 10 < 1000000000) :
    Calls Tryz.prog 162 #[.pointer (some ⟨(xs n.toNat).p, 0, none⟩), .int .i64 b] w (SDid w sp xs s (m + 10) (linkS s n b)) := by
  obtain ⟨i1, i2⟩ := h.imgF hf
  have e : linkS s n b = (s.upd n.toNat (v.link b), v.linkF b) := by unfold linkS; rw [hf]
  rw [e]
  exact (link_img b w i1.but i2 hm (Nat.le_refl _)).mono fun e w' hd => SDid.of h hf (by omega) (i2.link b (by omega)) hd

theorem rlink_s {sp m : Nat} {xs : Nat → Qh} {s : SV} {n : Int} {v : IV} (b : Int) (w : World) (h : IsRshelf w sp xs s m) (hf : s.file n = some v) (hm : m + 10 < 1000000000) :
    Calls Tryz.prog 129 #[.pointer (some ⟨(xs n.toNat).p, 0, none⟩), .int .i64 b] w (RDid w sp xs s (m + 10) (linkS s n b)) := by
  obtain ⟨i1, i2⟩ := h.imgF hf
  have e : linkS s n b = (s.upd n.toNat (v.link b), v.linkF b) := by unfold linkS; rw [hf]
  rw [e]
  exact (link_rim b w i1.but i2 hm (Nat.le_refl _)).mono fun e w' hd => RDid.of h hf (by omega) (i2.link b (by omega)) hd

theorem flush1_eq {s : SV} {n : Int} {v : IV} (hf : s.file n = some v) : s.flush1 n = s.upd n.toNat v.flush := by unfold SV.flush1; rw [hf]

theorem flush_s {sp m : Nat} {xs : Nat → Ih} {s : SV} {n : Int} {v : IV} (w : World) (h : IsShelf w sp xs s m) (hf : s.file n = some v) :
    Calls Tryz.prog 89 #[.pointer (some ⟨(xs n.toNat).p, 0, none⟩)] w fun e w' => e = .returned (.tuple #[]) ∧ ∃ xs', IsShelf w' sp xs' (s.flush1 n) m ∧ Moved (fpS xs s) w (fpS xs' (s.flush1 n)) w' := by
  obtain ⟨i1, i2⟩ := h.imgF hf
  rw [flush1_eq hf]
  refine (flush_img w i1.but).mono ?_
  rintro e w' ⟨h', rfl, h1, h2, h3⟩
  have hM : Moved (xs n.toNat).fp w ({ (xs n.toNat) with h := h' } : Ih).fp w' := but_moved h3 (fun _ h => h.1) h2.out
  obtain ⟨h6, h7⟩ := h.acted hf (Nat.le_refl m) i2.flush (x' := { (xs n.toNat) with h := h' }) rfl (h2.re fun _ _ h => h) hM
  exact ⟨rfl, _, h6, h7⟩

theorem rflush_s {sp m : Nat} {xs : Nat → Qh} {s : SV} {n : Int} {v : IV} (w : World) (h : IsRshelf w sp xs s m) (hf : s.file n = some v) :
    Calls Tryz.prog 93 #[.pointer (some ⟨(xs n.toNat).p, 0, none⟩)] w fun e w' => e = .returned (.tuple #[]) ∧ ∃ xs', IsRshelf w' sp xs' (s.flush1 n) m ∧ Moved (fpQ xs s) w (fpQ xs' (s.flush1 n)) w' := by
  obtain ⟨i1, i2⟩ := h.imgF hf
  rw [flush1_eq hf]
  refine (flush_rim w i1.but i2.d).mono ?_
  rintro e w' ⟨q', rfl, h1⟩
  have hM : Moved (xs n.toNat).fp w q'.fp w' := but_moved h1.kept (fun _ h => h.1) h1.rim.out
  obtain ⟨h6, h7⟩ := h.acted hf (Nat.le_refl m) i2.flush (x' := q') h1.p (h1.rim.re fun _ _ h => h) hM
  exact ⟨rfl, _, h6, h7⟩

theorem flushL_good {s : SV} {C : Int} {l : List Int} (hg : s.good C l) (t : List Int) : (s.flushL t).good C l := fun n hn => by
  obtain ⟨v, h1, h2⟩ := hg n hn
  obtain ⟨u, h3, h4⟩ := (SV.alike.flushL t s).head n v h1
  exact ⟨u, h3, h4.trans h2⟩
end Go.Proofs.YtjegaljdindfaabGreatDoor

namespace Go.Proofs.YtjegaljdindfaabGreatDoor
open Go.RowKit Go.Maps
attribute [local go_sem ↓] Go.wp_at_zero Go.wp_at_succ

theorem PDid.set4 {w : World} {sp jp lp bp cap m C : Nat} {a : Option Addr} {xs : Nat → Ih} {s : SV} {j : JV} (h : PJ w sp jp lp bp a cap xs s m C j) {st : Int} (hs : st = 1 ∨ st = 2 ∨ st = 4 ∨ st = 5) : PDid sp jp lp bp a cap xs s s m C (j.at st) w (w.setCell ⟨jp, 4, none⟩ (.int .i64 st)) := ⟨xs, (h.set4 hs).1, (h.set4 hs).2⟩

set_option maxRecDepth 100000 in
set_option maxHeartbeats 1000000 in
theorem end_any {sp jp lp bp cap m C : Nat} {a : Option Addr} {xs : Nat → Ih} {s : SV} {j : JV} (well : Bool) (w : World) (h : PJ w sp jp lp bp a cap xs s m C j) :
    Calls Tryz.prog 61 #[.pointer (some ⟨jp, 0, none⟩), .bool well] w fun e w' => e = .returned (.tuple #[]) ∧ PDid sp jp lp bp a cap xs s s m C (endJ j well) w w' := by
  obtain ⟨c0, c1, c2, c3, c4, c5, c6, c7, f4, f7⟩ := h.job.cells
  have h5 := h.set4 (st := 5) (.inr (.inr (.inr rfl)))
  have f5 := h5.1.job.cells
  have HP5 := toHid h5
  have HD5 : Hid (PDid sp jp lp bp a cap xs s s m C (j.at 5) w (w.setCell ⟨jp, 4, none⟩ (.int .i64 5))) := PDid.set4 h (.inr (.inr (.inr rfl)))
  have HD4 : Hid (PDid sp jp lp bp a cap xs s s m C (j.at 4) w ((w.setCell ⟨jp, 4, none⟩ (.int .i64 5)).setCell ⟨jp, 4, none⟩ (.int .i64 4))) := PDid.after h5.2 (PDid.set4 (j := j.at 5) h5.1 (.inr (.inr (.inl rfl))))
  obtain ⟨_, _, _, _, _, _, _, _, g4, _⟩ := f5
  clear h h5 c0 c1 c2 c3 c5 c6 c7 f7
  unfold endJ
  cases well with
  | false =>
    rw [if_neg (by decide)]
    go_enter Tryz.func61, Tryz.ntmps61
    go_wp2
    go_end0
    exact ⟨rfl, HD5.out⟩
  | true =>
    rw [if_pos rfl]
    go_enter Tryz.func61, Tryz.ntmps61
    go_wp2
    go_end0
    exact ⟨rfl, HD4.out⟩

set_option maxRecDepth 100000 in
set_option maxHeartbeats 1000000 in
theorem pause_any {sp jp lp bp cap m C : Nat} {a : Option Addr} {xs : Nat → Ih} {s : SV} {j : JV} (on : Bool) (w : World) (h : PJ w sp jp lp bp a cap xs s m C j) :
    Calls Tryz.prog 47 #[.pointer (some ⟨jp, 0, none⟩), .bool on] w fun e w' => e = .returned (erV (pauseF j on)) ∧ PDid sp jp lp bp a cap xs s s m C (pauseJ j on) w w' := by
  obtain ⟨c0, c1, c2, c3, c4, c5, c6, c7, f4, f7⟩ := h.job.cells
  have HD0 : Hid (PDid sp jp lp bp a cap xs s s m C j w w) := PDid.refl h
  have HD1 : Hid (PDid sp jp lp bp a cap xs s s m C (j.at 1) w (w.setCell ⟨jp, 4, none⟩ (.int .i64 1))) := PDid.set4 h (.inl rfl)
  have HD2 : Hid (PDid sp jp lp bp a cap xs s s m C (j.at 2) w (w.setCell ⟨jp, 4, none⟩ (.int .i64 2))) := PDid.set4 h (.inr (.inl rfl))
  clear h c0 c1 c2 c3 c5 c6 c7 f7
  unfold pauseF pauseJ
  have h9 : erV 9 = .iface 87 (.int .i64 9) := erV_some (by decide)
  cases on with
  | true =>
    rw [if_pos rfl, if_pos rfl]
    by_cases h1 : j.stage = 1
    · rw [if_pos h1, if_pos h1, erV_0]
      rw [h1] at c4
      go_enter Tryz.func47, Tryz.ntmps47
      go_wp2
      go_ret
      exact ⟨rfl, HD2.out⟩
    · rw [if_neg h1, if_neg h1, h9]
      have g1 : (j.stage != 1) = true := by simpa using h1
      go_enter Tryz.func47, Tryz.ntmps47
      go_wp2
      go_ret
      exact ⟨rfl, HD0.out⟩
  | false =>
    rw [if_neg (show ¬ (false = true) by decide), if_neg (show ¬ (false = true) by decide)]
    by_cases h1 : j.stage = 2
    · rw [if_pos h1, if_pos h1, erV_0]
      rw [h1] at c4
      go_enter Tryz.func47, Tryz.ntmps47
      go_wp2
      go_ret
      exact ⟨rfl, HD1.out⟩
    · rw [if_neg h1, if_neg h1, h9]
      have g1 : (j.stage != 2) = true := by simpa using h1
      go_enter Tryz.func47, Tryz.ntmps47
      go_wp2
      go_ret
      exact ⟨rfl, HD0.out⟩

set_option maxRecDepth 100000 in
set_option maxHeartbeats 1000000 in
theorem jtick_any {sp jp lp bp cap m C : Nat} {a : Option Addr} {xs : Nat → Ih} {s : SV} {j : JV} (n : Int) (w : World) (h : PJ w sp jp lp bp a cap xs s m C j) :
    Calls Tryz.prog 57 #[.pointer (some ⟨jp, 0, none⟩), .int .i64 n] w fun e w' => e = .returned (erV (if S4.inB n 100000 = true then 0 else 1)) ∧ PDid sp jp lp bp a cap xs s s m C (tickJ j n) w w' := by
  obtain ⟨c0, c1, c2, c3, c4, c5, c6, c7, f4, f7⟩ := h.job.cells
  unfold tickJ
  cases hn : S4.inB n 100000 with
  | false =>
    have HD0 : Hid (PDid sp jp lp bp a cap xs s s m C j w w) := PDid.refl h
    have HT := toHid (S4.tick_bad (p := bp) n w hn)
    rw [if_neg (by decide), if_neg (by decide), erV_1]
    clear h c0 c1 c2 c3 c4 c5 c7 f4 f7
    go_enter Tryz.func57, Tryz.ntmps57
    go_wp2_with fail
    refine HT.out.mono ?_
    rintro e w' ⟨rfl, hw⟩
    have hw' := hw.symm
    subst hw'
    clear hw
    go_wp2
    go_ret
    exact ⟨rfl, HD0.out⟩
  | true =>
    have hn0 : 0 ≤ n := by unfold S4.inB at hn; simp at hn; omega
    have hlv := h.ok.lv
    have hin := S4.tickV_in (r := j.rate) (b := j.burst) (l := j.lv) (n := n) h.ok.rate.1 h.ok.lv.1 (by omega) hn0
    have HT := toHid (S4.tick_good n w h.job.bkt hn h.ok.rate ⟨h.ok.lv.1, by omega⟩)
    have HPU : Hid (∀ w' : World, S4.Three 179 w' bp j.rate j.burst (S4.tickV j.rate j.burst j.lv n) → S4.Kept (fun k => k = bp) w w' → PDid sp jp lp bp a cap xs s s m C { j with lv := S4.tickV j.rate j.burst j.lv n } w w') := fun w' h1 hk => ⟨xs, (h.putL h1 hk hin).1, (h.putL h1 hk hin).2⟩
    rw [if_pos rfl, if_pos rfl, erV_0]
    clear h c0 c1 c2 c3 c4 c5 c7 f4 f7 hin hlv hn0
    go_enter Tryz.func57, Tryz.ntmps57
    go_wp2_with fail
    refine HT.out.mono ?_
    rintro e w' ⟨rfl, h1, h2⟩
    have HD := toHid (HPU.out w' h1 h2)
    clear h1 h2
    go_wp2
    go_ret
    exact ⟨rfl, HD.out⟩

set_option maxRecDepth 100000 in
set_option maxHeartbeats 1000000 in
theorem dirty_any {sp jp lp bp cap m C : Nat} {a : Option Addr} {xs : Nat → Ih} {s : SV} {j : JV} (c : Int) (w : World) (h : PJ w sp jp lp bp a cap xs s m C j) :
    Calls Tryz.prog 54 #[.pointer (some ⟨jp, 0, none⟩), .int .i64 c] w fun e w' => e = .returned (.tuple #[]) ∧ PDid sp jp lp bp a cap xs s s m C (dirtyJ j c) w w' := by
  obtain ⟨c0, c1, c2, c3, c4, c5, c6, c7, f4, f7⟩ := h.job.cells
  have HD0 : Hid (PDid sp jp lp bp a cap xs s s m C j w w) := PDid.refl h
  have HGO := toHid (goes_any w h.job)
  have HPT := toHid (S4.sput_any c true w h.job.set h.ok.set)
  have HPU : Hid (∀ w' : World, S4.IsSet w' lp j.n (S4.putV j.n j.x c true) → S4.Kept (fun k => k = lp) w w' → PDid sp jp lp bp a cap xs s s m C (j.put (S4.putV j.n j.x c true)) w w') := fun w' h1 hk => ⟨xs, (h.putS h1 hk).1, (h.putS h1 hk).2⟩
  unfold dirtyJ
  clear h c0 c1 c3 c4 c6 c7 f4 f7
  generalize S4.putB j.n j.x c true = pb at HPT
  by_cases hk : j.kind = 2
  · have g1 : (j.kind != 2) = false := by simpa using hk
    rw [if_pos (.inl hk)]
    clear HGO HPT HPU
    go_enter Tryz.func54, Tryz.ntmps54
    go_wp2
    go_end0
    exact ⟨rfl, HD0.out⟩
  · have g1 : (j.kind != 2) = true := by simpa using hk
    by_cases h4 : 4 ≤ j.stage
    · rw [if_pos (.inr h4)]
      rw [decide_eq_false (show ¬ j.stage < 4 by omega)] at HGO
      clear HPT HPU
      go_enter Tryz.func54, Tryz.ntmps54
      go_wp2_with fail
      refine HGO.out.mono ?_
      rintro e w' ⟨rfl, hw⟩
      have hw' := hw.symm
      subst hw'
      clear hw
      go_wp2
      go_end0
      exact ⟨rfl, HD0.out⟩
    · rw [if_neg (by rintro (e | e); exact hk e; exact h4 e)]
      rw [decide_eq_true (show j.stage < 4 by omega)] at HGO
      go_enter Tryz.func54, Tryz.ntmps54
      go_wp2_with fail
      refine HGO.out.mono ?_
      rintro e w' ⟨rfl, hw⟩
      have hw' := hw.symm
      subst hw'
      clear hw
      go_wp2_with fail
      refine HPT.out.mono ?_
      rintro e w' ⟨rfl, h1, h2⟩
      have HD := toHid (HPU.out w' h1 h2)
      clear h1 h2
      go_wp2
      go_end0
      exact ⟨rfl, HD.out⟩
end Go.Proofs.YtjegaljdindfaabGreatDoor

namespace Go.Proofs.YtjegaljdindfaabGreatDoor
open Go.RowKit Go.Maps
attribute [local go_sem ↓] Go.wp_at_zero Go.wp_at_succ

theorem PDid.more {w w' : World} {sp jp lp bp cap m m' C : Nat} {a : Option Addr} {xs : Nat → Ih} {s z : SV} {j : JV} (h : PDid sp jp lp bp a cap xs s z m C j w w') (hm : m ≤ m') : PDid sp jp lp bp a cap xs s z m' C j w w' := by
  obtain ⟨xs', h1, h2⟩ := h
  exact ⟨xs', h1.more hm, h2⟩

/- An act of the shelf, told of the whole job. -/
theorem PJ.sdid {w w1 w' : World} {sp jp lp bp cap m m' C : Nat} {a : Option Addr} {xs : Nat → Ih} {s : SV} {j : JV} {R : SV × Int} {e : Ending} (h : PJ w sp jp lp bp a cap xs s m C j) (hb : Below w.heap.size w w1) (hd : SDid w1 sp xs s m' R e w') (hz : s.alike R.1) : e = .returned (erV R.2) ∧ PDid sp jp lp bp a cap xs s R.1 m' C j w w' := by
  obtain ⟨xs', h1, h2, h3⟩ := hd
  obtain ⟨h4, h5⟩ := (h.below hb).acted h2 h3 hz
  exact ⟨h1, xs', h4, (Moved.of_below hb).trans h5⟩

/- What a job's calls read of its own block, and of its list's head, whatever was made since. -/
theorem PJ.reads {w : World} {sp jp lp bp cap m C : Nat} {a : Option Addr} {xs : Nat → Ih} {s : SV} {j : JV} (h : PJ w sp jp lp bp a cap xs s m C j) : ∃ (g o : Nat) (n : Int) (r : List Int) (v : IV), a = some ⟨g, o, none⟩ ∧ j.l = n :: r ∧ s.file n = some v ∧ v.h.c = C ∧
    ∀ W : World, Below w.heap.size w W → W.cell? ⟨jp, 0, none⟩ = some (.pointer (some ⟨sp, 0, none⟩)) ∧ W.cell? ⟨jp, 1, none⟩ = some (.slice a j.l.length cap) ∧ W.cell? ⟨jp, 2, none⟩ = some (.int .i64 j.kind) ∧ W.cell? ⟨jp, 3, none⟩ = some (.int .i64 j.file) ∧ W.cell? ⟨g, o, none⟩ = some (.int .i64 n) := by
  obtain ⟨n, r, v, h1, h2, h3⟩ := h.ok.root
  obtain ⟨g, o, e1, e2⟩ := h.nums 0 (by rw [h1]; simp)
  refine ⟨g, o, n, r, v, e1, h1, h2, h3, fun W hb => ?_⟩
  obtain ⟨c0, c1, c2, c3, _⟩ := (h.below hb).job.cells
  refine ⟨c0, c1, c2, c3, ?_⟩
  rw [h1, Nat.add_zero] at e2
  exact (hb.cell (p := ⟨g, o, none⟩) (World.block_lt_of_cell? _ _ e2)).trans e2

set_option maxRecDepth 100000 in
set_option maxHeartbeats 2000000 in
theorem jmove_any {sp jp lp bp cap m C : Nat} {a : Option Addr} {xs : Nat → Ih} {s : SV} {j : JV} (k : Nat) (w : World) (h : PJ w sp jp lp bp a cap xs s m C j) (hk : k < C) (hm : m + 10 < 1000000000) :
    Calls Tryz.prog 116 #[.pointer (some ⟨jp, 0, none⟩), .int .i64 (k : Int)] w fun e w' => e = .returned (erV (j.moved s (k : Int)).2) ∧ PDid sp jp lp bp a cap xs s (j.moved s (k : Int)).1 (m + 10) C j w w' := by
  obtain ⟨v, hv⟩ := h.ok.into
  obtain ⟨r1, r2⟩ := h.ok.read h.shelf.ok hk
  have HRD : Hid (∀ W : World, Below w.heap.size w W → Calls Tryz.prog 23 #[.pointer (some ⟨sp, 0, none⟩), .slice a j.l.length cap, .int .i64 (k : Int)] W fun e w' => e = .returned (.tuple #[.string (s.read j.l (k : Int)).1, .nilIface]) ∧ Below W.heap.size W w') := fun W hb => by
    have := cread_any (cap := cap) j.l (k : Int) W (h.shelf.below hb) (h.nums.below hb) h.ok.good (by have := h.ok.len; omega)
    rw [r1, erV_0] at this; exact this
  have HMV : Hid (∀ W : World, Below w.heap.size w W → Calls Tryz.prog 41 #[.pointer (some ⟨sp, 0, none⟩), .int .i64 j.into, .int .i64 (k : Int), .string (s.read j.l (k : Int)).1] W fun e w' => e = .returned (erV (j.moved s (k : Int)).2) ∧ PDid sp jp lp bp a cap xs s (j.moved s (k : Int)).1 (m + 10) C j w w') := fun W hb =>
    (cmove_any j.into (k : Int) _ W (h.shelf.below hb) hv r2 hm).mono fun e w' hd => h.sdid hb hd (SV.alike.move _ _ _ _)
  obtain ⟨g, o, n, r, v', ha, hl, _, _, hre⟩ := h.reads
  have HRE := toHid hre
  have HIN : Hid (j.into = if j.kind = 2 then n else j.file) := by unfold Hid JV.into; rw [hl]; rfl
  have hln : 0 < j.l.length := by rw [hl]; simp
  have hlen : (0 : Int) < (j.l.length : Int) := by omega
  subst ha
  clear h hv r1 r2 hre hl
  generalize (s.read j.l (k : Int)).1 = T at HRD HMV
  generalize j.moved s (k : Int) = R at HMV ⊢
  generalize j.into = into at HMV HIN
  generalize j.l.length = ln at HRD HRE hlen hln
  obtain ⟨c0, c1, c2, c3, c4⟩ := HRE.out w (Below.refl _ _)
  have d0 : w.drew.cell? ⟨jp, 0, none⟩ = some (.pointer (some ⟨sp, 0, none⟩)) := c0
  have d1 : w.drew.cell? ⟨jp, 1, none⟩ = some (.slice (some ⟨g, o, none⟩) ln cap) := c1
  have HBD : Hid (Below w.heap.size w w.drew) := (Below.refl _ _).drew
  by_cases h2 : j.kind = 2
  · have g1 : (j.kind == 2) = true := by simpa using h2
    have HI2 : Hid (into = n) := by unfold Hid; rw [HIN.out, if_pos h2]
    rw [HI2.out] at HMV
    clear HIN h2 HI2
    generalize j.kind = kd at g1 c2 HRE
    generalize j.file = fl at c3 HRE
    go_enter Tryz.func116, Tryz.ntmps116
    go_wp2
    go_region_held3 (fun W => W.cell? ⟨jp, 0, none⟩ = some (.pointer (some ⟨sp, 0, none⟩)) ∧ W.cell? ⟨jp, 1, none⟩ = some (.slice (some ⟨g, o, none⟩) ln cap))
      (first | (exact ⟨d0, d1⟩) | assumption)
      (first
        | (go_at_call 23; refine (HRD.out _ HBD.out).mono ?_; rintro e w1 ⟨rfl, hb1⟩; have HB1 := toHid (HBD.out.trans (hb1.mono HBD.out.size)); have hS1 : w1.cell? ⟨jp, 0, none⟩ = some (.pointer (some ⟨sp, 0, none⟩)) ∧ w1.cell? ⟨jp, 1, none⟩ = some (.slice (some ⟨g, o, none⟩) ln cap) := ⟨(HRE.out _ HB1.out).1, (HRE.out _ HB1.out).2.1⟩; clear hb1))
    obtain ⟨q0, q1, q2, q3, q4⟩ := HRE.out w1 HB1.out
    clear hS1
    go_wp2_with fail
    refine (HMV.out _ HB1.out).mono ?_
    rintro e w2 ⟨rfl, hd⟩
    have HD := toHid hd
    clear hd
    go_wp2
    go_ret
    exact ⟨rfl, HD.out⟩
  · have g1 : (j.kind == 2) = false := by simpa using h2
    have HI2 : Hid (into = j.file) := by unfold Hid; rw [HIN.out, if_neg h2]
    rw [HI2.out] at HMV
    clear HIN h2 HI2
    generalize j.kind = kd at g1 c2 HRE
    generalize j.file = fl at c3 HRE HMV
    go_enter Tryz.func116, Tryz.ntmps116
    go_wp2
    go_region_held3 (fun W => W.cell? ⟨jp, 0, none⟩ = some (.pointer (some ⟨sp, 0, none⟩)) ∧ W.cell? ⟨jp, 1, none⟩ = some (.slice (some ⟨g, o, none⟩) ln cap))
      (first | (exact ⟨d0, d1⟩) | assumption)
      (first
        | (go_at_call 23; refine (HRD.out _ HBD.out).mono ?_; rintro e w1 ⟨rfl, hb1⟩; have HB1 := toHid (HBD.out.trans (hb1.mono HBD.out.size)); have hS1 : w1.cell? ⟨jp, 0, none⟩ = some (.pointer (some ⟨sp, 0, none⟩)) ∧ w1.cell? ⟨jp, 1, none⟩ = some (.slice (some ⟨g, o, none⟩) ln cap) := ⟨(HRE.out _ HB1.out).1, (HRE.out _ HB1.out).2.1⟩; clear hb1))
    obtain ⟨q0, q1, q2, q3, q4⟩ := HRE.out w1 HB1.out
    clear hS1
    go_wp2_with fail
    refine (HMV.out _ HB1.out).mono ?_
    rintro e w2 ⟨rfl, hd⟩
    have HD := toHid hd
    clear hd
    go_wp2
    go_ret
    exact ⟨rfl, HD.out⟩

set_option maxRecDepth 100000 in
set_option maxHeartbeats 2000000 in
theorem jlink_any {sp jp lp bp cap m C : Nat} {a : Option Addr} {xs : Nat → Ih} {s : SV} {j : JV} (w : World) (h : PJ w sp jp lp bp a cap xs s m C j) (hm : m + 10 < 1000000000) :
    Calls Tryz.prog 128 #[.pointer (some ⟨jp, 0, none⟩)] w fun e w' => e = .returned (erV (linkS s (j.l.headD 0) j.file).2) ∧ PDid sp jp lp bp a cap xs s (linkS s (j.l.headD 0) j.file).1 (m + 10) C j w w' := by
  obtain ⟨g, o, n, r, v, ha, hl, hv, _, hre⟩ := h.reads
  have hhd : j.l.headD 0 = n := by rw [hl]; rfl
  rw [hhd]
  have HFI : Hid (∀ W : World, Below w.heap.size w W → Calls Tryz.prog 34 #[.pointer (some ⟨sp, 0, none⟩), .int .i64 n] W fun e w' => e = .returned (.pointer (some ⟨(xs n.toNat).p, 0, none⟩)) ∧ w' = W) := fun W hb => by
    have := file_any n W (h.shelf.below hb)
    rw [hv] at this; exact this
  have HLK : Hid (∀ W : World, Below w.heap.size w W → Calls Tryz.prog 162 #[.pointer (some ⟨(xs n.toNat).p, 0, none⟩), .int .i64 j.file] W fun e w' => e = .returned (erV (linkS s n j.file).2) ∧ PDid sp jp lp bp a cap xs s (linkS s n j.file).1 (m + 10) C j w w') := fun W hb =>
    (link_s j.file W (h.shelf.below hb) hv hm).mono fun e w' hd => h.sdid hb hd (SV.alike.link _ _ _)
  have HRE := toHid hre
  have hln : 0 < j.l.length := by rw [hl]; simp
  have hlen : (0 : Int) < (j.l.length : Int) := by omega
  subst ha
  clear h hre hl hv hhd
  generalize linkS s n j.file = R at HLK ⊢
  generalize (xs n.toNat).p = xp at HFI HLK
  generalize j.l.length = ln at HRE hlen hln
  generalize j.kind = kd at HRE
  generalize j.file = fl at HRE HLK
  obtain ⟨c0, c1, c2, c3, c4⟩ := HRE.out w (Below.refl _ _)
  have d0 : w.drew.cell? ⟨jp, 0, none⟩ = some (.pointer (some ⟨sp, 0, none⟩)) := c0
  have d1 : w.drew.cell? ⟨jp, 1, none⟩ = some (.slice (some ⟨g, o, none⟩) ln cap) := c1
  have d3 : w.drew.cell? ⟨jp, 3, none⟩ = some (.int .i64 fl) := c3
  have d4 : w.drew.cell? ⟨g, o, none⟩ = some (.int .i64 n) := c4
  have HBD : Hid (Below w.heap.size w w.drew) := (Below.refl _ _).drew
  go_enter Tryz.func128, Tryz.ntmps128
  go_wp2
  go_region_held3 (fun W => W.cell? ⟨jp, 0, none⟩ = some (.pointer (some ⟨sp, 0, none⟩)) ∧ W.cell? ⟨jp, 1, none⟩ = some (.slice (some ⟨g, o, none⟩) ln cap) ∧ W.cell? ⟨g, o, none⟩ = some (.int .i64 n))
    (first | (exact ⟨d0, d1, d4⟩) | assumption)
    (first
      | (go_at_call 34; refine (HFI.out _ HBD.out).mono ?_; rintro e w' ⟨rfl, rfl⟩))
  go_wp2_with fail
  refine (HLK.out _ HBD.out).mono ?_
  rintro e w2 ⟨rfl, hd⟩
  have HD := toHid hd
  clear hd
  go_wp2
  go_ret
  exact ⟨rfl, HD.out⟩
end Go.Proofs.YtjegaljdindfaabGreatDoor
