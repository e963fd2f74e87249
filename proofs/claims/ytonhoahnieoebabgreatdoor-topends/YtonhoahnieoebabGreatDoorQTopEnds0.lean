/-
A job that has tokens, nothing being armed: each step takes one cluster away, or is full; at last it is ready, or (a stream) concluded (W4).
A job that has nothing left: a stream is concluded by a step, a mirror and a commit are ready, and a pivot concludes them; how one begins (W4).
An act of a top: what it leaves of what a guest saw, and that nothing is armed (but by 'fail').
What `did` does, in full: its contract stands for every yard of 1 to 32 clusters.
TopEnds: what each call of its tail makes of a yard and its guest.
-/
import Derived.Test.YtonhoahnieoebabGreatDoorQCalmPlain
import Derived.Test.YtonhoahnieoebabGreatDoorQYardGuest4
import Derived.Test.YtonhoahnieoebabGreatDoorQShowPlain
namespace Go.Proofs.YtonhoahnieoebabGreatDoor
open Go.RowKit

theorem cnt_same {x y : Nat} : ∀ n, (∀ i, i < n → y.testBit i = x.testBit i) → S4.cnt y n = S4.cnt x n := by
  intro n
  induction n with
  | zero => intro _; rfl
  | succ n ih =>
    intro h
    show S4.cnt y n + _ = S4.cnt x n + _
    rw [ih (fun i hi => h i (by omega)), h n (by omega)]
theorem cnt_less {x y k : Nat} (hk : x.testBit k = true) (hy : ∀ i, y.testBit i = if i = k then false else x.testBit i) : ∀ n, k < n → S4.cnt y n + 1 = S4.cnt x n := by
  intro n
  induction n with
  | zero => intro h; omega
  | succ n ih =>
    intro h
    show S4.cnt y n + (if y.testBit n then 1 else 0) + 1 = S4.cnt x n + (if x.testBit n then 1 else 0)
    by_cases e : n = k
    · subst e
      rw [cnt_same (x := x) (y := y) n (fun i hi => by rw [hy i, if_neg (by omega)]), hy n, if_pos rfl, hk]
      simp
    · rw [hy n, if_neg e]
      have := ih (by omega)
      omega

theorem some_cnt (j : JV) : j.some = true ↔ S4.cnt j.x 64 ≠ 0 := by
  unfold JV.some S4.nextB
  have h := S4.elemsTo_len j.x 64
  have e : S4.elems j.x = S4.elemsTo j.x 64 := rfl
  rw [e, ← h]
  cases S4.elemsTo j.x 64 with
  | nil => simp
  | cons a b => simp

/- A move under no failing device: well, or full. -/
theorem move_calm {s : SV} {n : Int} {v : IV} (hf : s.file n = some v) (hc : v.d.fail = -1) {c : Nat} (hl : c < v.t.length) {t : ByteArray} (ht : t.size = 64) : (s.move n (c : Int) t).2 = 0 ∨ (s.move n (c : Int) t).2 = 6 := by
  have hth : v.there (c : Int) = true := decide_eq_true (by omega)
  have he : v.entE (c : Int) = v.ent (c : Int) := by
    rw [entE_nat]
    show _ = v.t.getD ((c : Int)).toNat (0, 0)
    rw [Int.toNat_natCast]
  unfold SV.move
  rw [hf]
  simp only []
  split
  · left
    show v.clearF (c : Int) = 0
    unfold IV.clearF
    rw [if_pos hth]
    split
    · rfl
    · exact calm_putF hc
  · rw [he]
    split
    · next h2 =>
      left
      show v.writeF (c : Int) 0 t = 0
      unfold IV.writeF
      rw [if_pos (by unfold wrOk; rw [hth, ht]; rfl), if_pos h2]
      exact (calm_puts hc _ _ _).2
    · next h2 =>
      show v.fillF (c : Int) t = 0 ∨ v.fillF (c : Int) t = 6
      unfold IV.fillF
      rw [if_pos ⟨hth, ht⟩, if_neg h2]
      split
      · exact .inr rfl
      · left
        rw [if_pos (show (v.fillD _ t).2 = 0 from (calm_puts hc _ _ _).2)]
        exact calm_putF (d := (v.fillV _ t).d) (calm_puts hc _ _ _).1
theorem JGo.calm {s : SV} {C m : Nat} {j : JV} (h : JGo s C m j) (hc : SCalm s) {c : Nat} (hl : c < C) : (j.moved s (c : Int)).2 = 0 ∨ (j.moved s (c : Int)).2 = 6 := by
  obtain ⟨r, v, _, _, hf, ht, _⟩ := h.form
  exact move_calm hf (hc.file hf) (by omega) (h.ok.read h.sok hl).2

/- A job that goes on, with n clusters left. -/
structure Runs (y : YV) (j : JV) (n : Nat) : Prop where
  job : y.j = some j
  st : j.stage = 1
  cn : S4.cnt j.x 64 = n
  lv : 4 * (n : Int) ≤ j.lv

/- Its link, where it is a stream's. -/
theorem JIn.linkF {s : SV} {C m : Nat} {l : List Int} {k : KDesk} {j : JV} (h : JIn s C l k j) (hs : s.ok m) (hc : SCalm s) (h2 : k.kind = 2) : (linkS s (j.l.headD 0) j.file).2 = 0 := by
  obtain ⟨n, r, v, hl, hf, _⟩ := h.ok.root
  have hfile : j.file = k.file := by rw [← h.dsk]; rfl
  have hr : -1 ≤ j.file ∧ j.file ≤ 4 := by
    rw [hfile]
    rcases h.tgt.str h2 with e | e
    · omega
    · rw [← h.lst] at e
      obtain ⟨u, hu, _⟩ := h.ok.good _ e
      have := SV.file_of hu
      omega
  rw [hl]
  show (linkS s n j.file).2 = 0
  unfold linkS
  rw [hf]
  show v.linkF j.file = 0
  have hok := HV.of_ok (hs.file hf).h
  unfold IV.linkF
  have hlk : (v.linkH j.file).ok = true := decide_eq_true (by show 1 ≤ v.h.c ∧ v.h.c ≤ 32 ∧ 0 ≤ v.h.p ∧ v.h.p ≤ 40 ∧ -1 ≤ j.file ∧ j.file ≤ 4; omega)
  rw [if_pos hlk]
  exact calm_putF (d := v.flush.d) (show v.d.fail = -1 from hc.file hf)

theorem went_cnt {j : JV} {k : Nat} (hk : j.x.testBit k = true) (hm : S4.mayB j.n (k : Int) = true) (h64 : k < 64) : S4.cnt (S4.putV j.n j.x (k : Int) false) 64 + 1 = S4.cnt j.x 64 := by
  refine cnt_less hk (fun i => ?_) 64 h64
  rw [S4.putV_bit, hm]
  by_cases e : i = k
  · rw [if_pos ⟨rfl, by rw [e]⟩, if_pos e]
  · rw [if_neg (fun q => e (by have := q.2; omega)), if_neg e]

theorem went_x (j : JV) (c : Int) : (j.went c).x = S4.putV j.n j.x c false := rfl
attribute [local irreducible] S4.cnt S4.putV

/- A step. -/
set_option maxHeartbeats 400000 in
theorem Runs.step {y : YV} {C m n : Nat} {j : JV} (hg : YG y C m) (hc : YCalm y) (h : Runs y j n) (hn : 0 < n) (hm : m + 10 ≤ 1000000000) :
    (y.stepF = 6 ∧ ∃ j', y.step.j = some j' ∧ j'.stage = 5) ∨
    (y.stepF = 0 ∧ ((¬ (y.kd.kind = 2 ∧ n = 1) ∧ y.step.kd = y.kd ∧ ∃ j', Runs y.step j' (n - 1)) ∨ ((y.kd.kind = 2 ∧ n = 1) ∧ ∃ j', y.step.j = some j' ∧ j'.stage = 4 ∧ S4.cnt j'.x 64 = 0))) := by
  have hst : j.stage < 4 := by rw [h.st]; decide
  have hgo := hg.go h.job hst
  have hin := hg.ok.job j h.job hst
  have hsm : j.some = true := (some_cnt j).2 (by rw [h.cn]; omega)
  have hlv : S4.inB 4 j.lv = true := decide_eq_true (by have := h.lv; omega)
  obtain ⟨k, hk, hkC, hk64⟩ := hgo.ok.pick hsm
  obtain ⟨k', hk', hkm⟩ := nextI_mem (x := j.x) (f := j.last + 1) hsm
  have ekk : k' = k := by
    have : (k' : Int) = (k : Int) := hk'.symm.trans hk
    omega
  subst ekk
  have hbit : j.x.testBit k' = true := ((S4.elemsTo_mem j.x 64 k').1 hkm).2
  have hns : ¬ (4 ≤ j.stage) := by omega
  have hcalm := hgo.calm hc.s hkC
  rw [← hk] at hcalm
  by_cases hfull : j.wantB y.s j.pick = true ∧ (j.moved y.s j.pick).2 ≠ 0
  · left
    have h6 : (j.moved y.s j.pick).2 = 6 := by
      rcases hcalm with e | e
      · exact absurd e hfull.2
      · exact e
    have hF : Go.Proofs.YtonhoahnieoebabGreatDoor.stepF y.s j = 6 := by
      unfold Go.Proofs.YtonhoahnieoebabGreatDoor.stepF
      rw [if_pos h.st, if_pos ⟨hsm, hlv, hfull.1⟩, h6]
    have hJ : stepJ y.s j = j.fell := by
      unfold stepJ
      rw [if_pos ⟨h.st, hsm, hlv⟩, if_pos hfull]
    refine ⟨?_, j.fell, ?_, rfl⟩
    · unfold YV.stepF
      rw [h.job]
      simp only []
      rw [if_neg hns, if_pos (by rw [hF]; decide), hF]
    · unfold YV.step
      rw [h.job]
      simp only []
      rw [if_neg hns, if_pos (by rw [hF]; decide), hJ, if_pos (show j.fell.stage = 5 from rfl)]
      exact (ydesk_s _ _).2.2.2
  · right
    have hF : Go.Proofs.YtonhoahnieoebabGreatDoor.stepF y.s j = 0 := by
      unfold Go.Proofs.YtonhoahnieoebabGreatDoor.stepF
      rw [if_pos h.st]
      split
      · next q =>
        rcases hcalm with e | e
        · exact e
        · exact absurd ⟨q.2.2, by rw [e]; decide⟩ hfull
      · rfl
    have hJ : stepJ y.s j = j.went j.pick := by
      unfold stepJ
      rw [if_pos ⟨h.st, hsm, hlv⟩, if_neg hfull]
    have hcn : S4.cnt (j.went j.pick).x 64 = n - 1 := by
      rw [went_x, hk]
      exact Nat.eq_sub_of_add_eq ((went_cnt hbit (decide_eq_true (by have := hgo.ok.n; omega)) hk64).trans h.cn)
    have hst' : (j.went j.pick).stage = 1 := h.st
    have hstate : (j.went j.pick).state = if n = 1 then 3 else 1 := by
      unfold JV.state
      rw [hcn, hst']
      by_cases e : n = 1
      · rw [if_pos ⟨rfl, by omega⟩, if_pos e]
      · rw [if_neg (fun q => e (by have := q.2; omega)), if_neg e]
    by_cases hlast : y.kd.kind = 2 ∧ n = 1
    · have hsl : settleF (stepS y.s j) (stepJ y.s j) = 0 := by
        have hin' := hin.over (fun l => Stay.step l y.s j)
        have hl := hin'.linkF (hg.ok.s.step j hm) (hc.s.step j) hlast.1
        unfold settleF
        rw [hJ, hstate, if_pos hlast.2, if_pos rfl]
        have hk2 : (j.went j.pick).kind = 2 := by have : j.kind = y.kd.kind := by rw [← hin.dsk]; rfl
                                                  show j.kind = 2; rw [this]; exact hlast.1
        rw [if_pos hk2]
        exact hl
      have hnot : ¬ (y.kd.kind ≠ 2 ∨ (stepJ y.s j).state ≠ 3) := by
        rw [hJ, hstate, if_pos hlast.2]
        rintro (q | q)
        · exact q hlast.1
        · exact q rfl
      have hsJ : settleJ (stepS y.s j) (stepJ y.s j) = j.went j.pick := by
        unfold settleJ
        rw [if_neg, hJ]
        rintro ⟨q1, q2, q3⟩
        unfold settleF at hsl
        rw [if_pos q1, if_pos q2] at hsl
        exact q3 hsl
      refine ⟨?_, .inr ⟨hlast, (j.went j.pick).at 4, ?_, rfl, ?_⟩⟩
      · unfold YV.stepF
        rw [h.job]
        simp only []
        rw [if_neg hns, if_neg (by rw [hF]; decide), if_neg hnot, hsl]
      · unfold YV.step
        rw [h.job]
        simp only []
        rw [if_neg hns, if_neg (by rw [hF]; decide), if_neg hnot, if_neg (by rw [hsl]; decide), hsJ]
        exact (ydesk_s _ _).2.2.2
      · show S4.cnt (j.went j.pick).x 64 = 0
        rw [hcn]
        omega
    · have hgo1 : y.kd.kind ≠ 2 ∨ (stepJ y.s j).state ≠ 3 := by
        rw [hJ, hstate]
        by_cases e : y.kd.kind = 2
        · right
          rw [if_neg (fun q => hlast ⟨e, q⟩)]
          decide
        · exact .inl e
      have hy : y.step = { y with s := stepS y.s j, j := some (stepJ y.s j) } := by
        unfold YV.step
        rw [h.job]
        simp only []
        rw [if_neg hns, if_neg (by rw [hF]; decide), if_pos hgo1]
      refine ⟨?_, .inl ⟨hlast, by rw [hy], j.went j.pick, ?_⟩⟩
      · unfold YV.stepF
        rw [h.job]
        simp only []
        rw [if_neg hns, if_neg (by rw [hF]; decide), if_pos hgo1]
      · rw [hy]
        refine ⟨by show some (stepJ y.s j) = _; rw [hJ], hst', hcn, ?_⟩
        show 4 * ((n - 1 : Nat) : Int) ≤ j.lv - 4
        have := h.lv
        omega
end Go.Proofs.YtonhoahnieoebabGreatDoor

namespace Go.Proofs.YtonhoahnieoebabGreatDoor
open Go.RowKit
attribute [local irreducible] S4.cnt S4.putV

/- What begins. -/
theorem start_runs {y : YV} (hc : YCalm y) {d : KDesk} (hb : d.burst = 1000) (h : y.startF d = 0) : Runs (y.start d) ((newJ y.s d).at 1) (S4.cnt (newJ y.s d).x 64) ∧ (y.start d).kd = d := by
  have h0 : y.startF0 d = 0 := by
    unfold YV.startF at h
    split at h
    · next q => exact q
    · exact h
  have hy : y.start d = { y.desk d with j := some ((newJ y.s d).at 1) } := by
    unfold YV.start
    rw [if_pos h0, if_pos hc.deskF]
  rw [hy]
  refine ⟨⟨rfl, rfl, rfl, ?_⟩, ?_⟩
  · show 4 * ((S4.cnt (newJ y.s d).x 64 : Nat) : Int) ≤ d.burst
    have := S4.cnt_le (newJ y.s d).x 64
    omega
  · show (y.desk d).kd = d
    unfold YV.desk
    rw [if_pos (show y.top.putF = 0 from calm_putF hc.top)]

/- A stream with nothing left. -/
theorem Runs.none {y : YV} {C m : Nat} {j : JV} (hg : YG y C m) (hc : YCalm y) (h : Runs y j 0) (h2 : y.kd.kind = 2) : y.stepF = 0 ∧ ∃ j', y.step.j = some j' ∧ j'.stage = 4 ∧ S4.cnt j'.x 64 = 0 := by
  have hst : j.stage < 4 := by rw [h.st]; decide
  have hin := hg.ok.job j h.job hst
  have hns : ¬ (4 ≤ j.stage) := by omega
  have hsm : ¬ (j.some = true) := fun q => (some_cnt j).1 q h.cn
  have hF : Go.Proofs.YtonhoahnieoebabGreatDoor.stepF y.s j = 0 := by
    unfold Go.Proofs.YtonhoahnieoebabGreatDoor.stepF
    rw [if_pos h.st, if_neg (fun q => hsm q.1)]
  have hS : stepS y.s j = y.s := by
    unfold stepS
    rw [if_neg (fun q => hsm q.2.1)]
  have hJ : stepJ y.s j = j := by
    unfold stepJ
    rw [if_neg (fun q => hsm q.2.1)]
  have hstate : j.state = 3 := by
    unfold JV.state
    rw [if_pos ⟨h.st, h.cn⟩]
  have hk2 : j.kind = 2 := by
    have : j.kind = y.kd.kind := by rw [← hin.dsk]; rfl
    rw [this]; exact h2
  have hsl : settleF y.s j = 0 := by
    unfold settleF
    rw [if_pos hstate, if_pos hk2]
    exact hin.linkF hg.ok.s hc.s h2
  have hsJ : settleJ y.s j = j := by
    unfold settleJ
    rw [if_neg]
    rintro ⟨_, _, q3⟩
    exact q3 (hin.linkF hg.ok.s hc.s h2)
  have hnot : ¬ (y.kd.kind ≠ 2 ∨ j.state ≠ 3) := by
    rintro (q | q)
    · exact q h2
    · exact q hstate
  refine ⟨?_, j.at 4, ?_, rfl, h.cn⟩
  · unfold YV.stepF
    rw [h.job]
    simp only []
    rw [if_neg hns, if_neg (by rw [hF]; decide), hS, hJ, if_neg hnot, hsl]
  · unfold YV.step
    rw [h.job]
    simp only []
    rw [if_neg hns, if_neg (by rw [hF]; decide), hS, hJ, if_neg hnot, if_neg (by rw [hsl]; decide), hsJ]
    exact (ydesk_s _ _).2.2.2

/- A mirror or a commit with nothing left. -/
theorem Runs.ready {y : YV} {C m : Nat} {j : JV} (hg : YG y C m) (hc : YCalm y) (h : Runs y j 0) (h2 : y.kd.kind ≠ 2) : j.state = 3 ∧ y.pivotF = 0 ∧ ∃ j', y.pivot.j = some j' ∧ j'.stage = 4 ∧ S4.cnt j'.x 64 = 0 := by
  have hst : j.stage < 4 := by rw [h.st]; decide
  have hin := hg.ok.job j h.job hst
  have hns : ¬ (4 ≤ j.stage) := by omega
  have hstate : j.state = 3 := by
    unfold JV.state
    rw [if_pos ⟨h.st, h.cn⟩]
  have hk2 : j.kind ≠ 2 := by
    have : j.kind = y.kd.kind := by rw [← hin.dsk]; rfl
    rw [this]; exact h2
  have hfile : j.file = y.kd.file := by rw [← hin.dsk]; rfl
  obtain ⟨q, hq⟩ := hin.chain hg.ok.ch h2
  have hsl : settleF y.s j = 0 := by
    unfold settleF
    rw [if_pos hstate, if_neg hk2, hfile, hq.walk]
  have hsJ : settleJ y.s j = j := by
    unfold settleJ
    rw [if_neg (fun e => hk2 e.2.1)]
  refine ⟨hstate, ?_, j.at 4, ?_, rfl, h.cn⟩
  · unfold YV.pivotF
    rw [h.job]
    simp only []
    rw [if_neg hns, if_neg h2, if_neg (by rw [hsl]; decide)]
    exact hc.deskF
  · unfold YV.pivot
    rw [h.job]
    simp only []
    rw [if_neg (by rintro (e | e); exact hns e; exact h2 e), if_neg (by rw [hsl]; decide), hsJ]
    unfold YV.over
    have hd : YV.deskF { y with s := settleS y.s j, j := some j } = 0 := calm_putF hc.top
    rw [if_pos hd]
    rfl
end Go.Proofs.YtonhoahnieoebabGreatDoor

namespace Go.Proofs.YtonhoahnieoebabGreatDoor
open Go.RowKit Go.Maps

theorem YCalm.act {n : Nat} {y y' : YV} {g g' : GV} {x : ActV} (h : YCalm y) (hr : TopR n y g x y' g') (hk : x.kind.toList ≠ [102, 97, 105, 108]) : YCalm y' := by
  cases hr with
  | write _ => exact h.write _ _
  | wipe _ => exact h.wipe _ _
  | flush _ => exact h.flush
  | blank _ => exact h.blank _ _
  | snap _ => exact h.snap _
  | start _ => exact h.start _
  | pivot _ => exact h.pivot
  | cancel _ => exact h.cancel
  | pause _ => exact h.pause _
  | tick _ => exact h.tick _
  | fail hf => exact absurd hf hk
  | step => exact h.step

/- What `did` does, in full. -/
def DidTop (C : Nat) : Prop := ∀ (B : Nat) (w0 : World) (yp gp m : Nat) (Y : Yh) (y : YV) (G : Gh) (g : GV) (x : ActV) (w : World), YGd B w0 w yp Y y gp G (4 * C) g → YOk y C m → ActIn x → S4.Tab w → m + 8000 < 1000000000 → (∀ k, k < 4 * C → g.now k ≠ [] ∧ (g.now k).length ≤ 1000 ∧ (g.cr k).length ≤ 1000) →
  Calls Tryz.prog 42 #[.pointer (some ⟨yp, 0, none⟩), .pointer (some ⟨gp, 0, none⟩), actG x] w fun e w' => e = .returned (.tuple #[]) ∧ ∃ Y' G' y' g', TopR (4 * C) y g x y' g' ∧ YGd B w0 w' yp Y' y' gp G' (4 * C) g'

theorem Saw.lens {y : YV} {C m L : Nat} {g : GV} (h : Saw y C m g L) (hL : L ≤ 1000) : ∀ k, k < 4 * C → g.now k ≠ [] ∧ (g.now k).length ≤ 1000 ∧ (g.cr k).length ≤ 1000 := fun k hk =>
  ⟨(fun e => by have := h.now k hk; rw [e] at this; cases this), by have := (h.len k hk).1; omega, by have := (h.len k hk).2; omega⟩

/- A yard on which nothing is armed, and its guest, behind q acts. -/
def ESt (B : Nat) (w0 : World) (yp gp C q : Nat) (W : World) : Prop := ∃ Y y G g, YGd B w0 W yp Y y gp G (4 * C) g ∧ Saw y C (20 + 2000 * q) g (1 + q) ∧ YCalm y
theorem ESt.below {B yp gp C q : Nat} {w0 W : World} (h : ESt B w0 yp gp C q W) : Below B w0 W := by
  obtain ⟨Y, y, G, g, h1, _⟩ := h
  exact h1.bel
theorem ESt.next {B yp gp C q : Nat} {w0 W : World} (h : ESt B w0 yp gp C q W) : ESt B w0 yp gp C (q + 1) W := by
  obtain ⟨Y, y, G, g, h1, h2, h3⟩ := h
  exact ⟨Y, y, G, g, h1, h2.more (by omega) (by omega), h3⟩
theorem ESt.did {B yp gp C q : Nat} {w0 W : World} (HD : DidTop C) (hC : C ≤ 32) (h : ESt B w0 yp gp C q W) (hq : q ≤ 100) (x : ActV) (hx : ActIn x) (hk : x.kind.toList ≠ [102, 97, 105, 108]) (hT : S4.Tab W) :
    Calls Tryz.prog 42 #[.pointer (some ⟨yp, 0, none⟩), .pointer (some ⟨gp, 0, none⟩), .agg #[.string x.kind, .int .i64 x.a, .int .i64 x.b, .int .i64 x.c, .int .i64 x.d, .string x.s, .slice x.ka x.kl x.kc]] W fun e w' => e = .returned (.tuple #[]) ∧ ESt B w0 yp gp C (q + 1) w' := by
  obtain ⟨Y, y, G, g, h1, h2, h3⟩ := h
  refine (HD B w0 yp gp _ Y y G g x W h1 h2.yg.ok hx hT (by omega) (h2.lens (by omega))).mono fun e w' ⟨he, Y', G', y', g', hr, hy⟩ => ⟨he, Y', y', G', g', hy, ?_, h3.act hr hk⟩
  exact (h2.act hr hx hC (by omega)).more (by omega) (by omega)
end Go.Proofs.YtonhoahnieoebabGreatDoor

namespace Go.Proofs.YtonhoahnieoebabGreatDoor
open Go.RowKit Go.Maps

theorem did_top (C : Nat) (h1 : 1 ≤ C) (h2 : C ≤ 32) : DidTop C := fun _ _ _ _ _ _ _ _ _ x w hg hY hx hT hm hl => did_any x w hg hY ⟨h1, h2⟩ rfl hx hT hm hl
end Go.Proofs.YtonhoahnieoebabGreatDoor

namespace Go.Proofs.YtonhoahnieoebabGreatDoor
open Go.RowKit Go.Maps
attribute [local irreducible] S4.cnt

/- A block that is none of theirs, if one is kept in mind. -/
def Bx (yp : Nat) (Y : Yh) (y : YV) (gp : Nat) (G : Gh) (n : Nat) (W : World) : Option (Nat × Obj) → Prop
  | none => True
  | some (b, o) => W.heap[b]? = some o ∧ ¬ fpY yp Y y b ∧ ¬ fpG gp G n b
theorem Bx.below {yp gp n : Nat} {Y : Yh} {y : YV} {G : Gh} {W W' : World} {k : Option (Nat × Obj)} (h : Bx yp Y y gp G n W k) (hb : Below W.heap.size W W') : Bx yp Y y gp G n W' k := by
  match k, h with
  | none, _ => exact trivial
  | some (b, o), h => exact ⟨(hb.block b (lt_of_some h.1)).trans h.1, h.2⟩
theorem YGd.yard_bx {B : Nat} {w0 w w' : World} {yp gp n : Nat} {Y : Yh} {y y' : YV} {G : Gh} {g : GV} {k : Option (Nat × Obj)} (h : YGd B w0 w yp Y y gp G n g) (hk : Bx yp Y y gp G n w k) (hd : YDid yp Y y y' w w') : ∃ Y', YGd B w0 w' yp Y' y' gp G n g ∧ Bx yp Y' y' gp G n w' k := by
  obtain ⟨Y', h1, h2, h3⟩ := hd
  have hk' : Bx yp Y' y' gp G n w' k := by
    match k, hk with
    | none, _ => exact trivial
    | some (b, o), hk =>
      refine ⟨(h3.kept.block b (lt_of_some hk.1) hk.2.1).trans hk.1, fun e => ?_, hk.2.2⟩
      rcases h3.new b e with q | q
      · exact hk.2.1 q
      · have := lt_of_some hk.1; omega
  refine ⟨Y', ⟨h2, h.guest.beside h3 (fun k hk e => h.apart k e hk), fun k hk hg => ?_, fun q o e hg => ?_, fun q o e => ?_, fun k hk => ?_, h.bG, h.bel.trans (h3.below h.sizes h.bY), h.size⟩, hk'⟩
  · rcases h3.new k hk with e | e
    · exact h.apart k e hg
    · have := h.guest.lt hg; omega
  · rcases h1 with e1 | e1
    · exact h.job q o (by rw [← e1]; exact e) hg
    · have := h.guest.lt hg; have := (e1 q o e).1; omega
  · rcases h1 with e1 | e1
    · exact Nat.lt_of_lt_of_le (h.jobL q o (by rw [← e1]; exact e)) h3.size
    · exact (e1 q o e).2
  · rcases h3.new k hk with e | e
    · exact h.bY k e
    · exact Nat.le_trans h.sizes e

/- A job goes on, with n clusters left. -/
def RSt (k : Option (Nat × Obj)) (B : Nat) (w0 : World) (yp gp C : Nat) (kind : Int) (n : Nat) (W : World) : Prop := ∃ Y y G g j m L, (YGd B w0 W yp Y y gp G (4 * C) g ∧ Bx yp Y y gp G (4 * C) W k) ∧ Saw y C m g L ∧ YCalm y ∧ Runs y j n ∧ y.kd.kind = kind ∧ m + 50 * n ≤ 900000000 ∧ L ≤ 900
/- It is concluded. -/
def CSt (k : Option (Nat × Obj)) (B : Nat) (w0 : World) (yp gp C : Nat) (W : World) : Prop := ∃ Y y G g j m L, (YGd B w0 W yp Y y gp G (4 * C) g ∧ Bx yp Y y gp G (4 * C) W k) ∧ Saw y C m g L ∧ y.j = some j ∧ j.stage = 4 ∧ S4.cnt j.x 64 = 0 ∧ L ≤ 950
/- It is aborted. -/
def ASt (B : Nat) (w0 : World) (yp gp C : Nat) (W : World) : Prop := ∃ Y y G g j m L, YGd B w0 W yp Y y gp G (4 * C) g ∧ Saw y C m g L ∧ y.j = some j ∧ j.stage = 5

theorem RSt.below {B yp gp C n : Nat} {kind : Int} {k : Option (Nat × Obj)} {w0 W : World} (h : RSt k B w0 yp gp C kind n W) : Below B w0 W := by
  obtain ⟨Y, y, G, g, j, m, L, h1, _⟩ := h
  exact h1.1.bel
theorem CSt.below {B yp gp C : Nat} {k : Option (Nat × Obj)} {w0 W : World} (h : CSt k B w0 yp gp C W) : Below B w0 W := by
  obtain ⟨Y, y, G, g, j, m, L, h1, _⟩ := h
  exact h1.1.bel
/- A new block is kept in mind; another one is not. -/
theorem RSt.box {B yp gp C n : Nat} {kind : Int} {w0 W : World} (h : RSt none B w0 yp gp C kind n W) (o : Obj) : RSt (some (W.heap.size, o)) B w0 yp gp C kind n (W.alloc o) := by
  obtain ⟨Y, y, G, g, j, m, L, ⟨h1, _⟩, h2⟩ := h
  exact ⟨Y, y, G, g, j, m, L, ⟨h1.below ((Below.refl _ _).alloc (Nat.le_refl _) o), heap_alloc_new W o, fun e => Nat.lt_irrefl _ (h1.yard.fp_lt e), fun e => Nat.lt_irrefl _ (h1.guest.lt e)⟩, h2⟩
theorem RSt.on {B yp gp C n : Nat} {kind : Int} {k : Option (Nat × Obj)} {w0 W W' : World} (h : RSt k B w0 yp gp C kind n W) (hb : Below W.heap.size W W') : RSt k B w0 yp gp C kind n W' := by
  obtain ⟨Y, y, G, g, j, m, L, h1, h2⟩ := h
  exact ⟨Y, y, G, g, j, m, L, ⟨h1.1.below hb, h1.2.below hb⟩, h2⟩
theorem CSt.on {B yp gp C : Nat} {k : Option (Nat × Obj)} {w0 W W' : World} (h : CSt k B w0 yp gp C W) (hb : Below W.heap.size W W') : CSt k B w0 yp gp C W' := by
  obtain ⟨Y, y, G, g, j, m, L, h1, h2⟩ := h
  exact ⟨Y, y, G, g, j, m, L, ⟨h1.1.below hb, h1.2.below hb⟩, h2⟩
theorem RSt.has {B yp gp C n b : Nat} {kind : Int} {o : Obj} {w0 W : World} (h : RSt (some (b, o)) B w0 yp gp C kind n W) : W.heap[b]? = some o := by
  obtain ⟨Y, y, G, g, j, m, L, h1, h2⟩ := h
  exact h1.2.1
theorem CSt.has {B yp gp C b : Nat} {o : Obj} {w0 W : World} (h : CSt (some (b, o)) B w0 yp gp C W) : W.heap[b]? = some o := by
  obtain ⟨Y, y, G, g, j, m, L, h1, h2⟩ := h
  exact h1.2.1

theorem ESt.cancel {B yp gp C q : Nat} {w0 W : World} (h : ESt B w0 yp gp C q W) (hq : q ≤ 100) :
    Calls Tryz.prog 52 #[.pointer (some ⟨yp, 0, none⟩)] W fun e w' => (∃ v, e = .returned v) ∧ ESt B w0 yp gp C (q + 1) w' := by
  obtain ⟨Y, y, G, g, h1, h2, h3⟩ := h
  refine (ycancel_any W h1.yard h2.yg.ok (by omega)).mono fun e w' ⟨he, hd⟩ => ⟨⟨_, he⟩, ?_⟩
  obtain ⟨Y', h4⟩ := h1.yard_acts hd.out
  have h5 := h2.yg.cancel (by omega)
  exact ⟨Y', _, G, g, h4, (h2.sees h5.1 h5.2).more (by omega) (by omega), h3.cancel⟩

theorem ESt.start {B yp gp C q : Nat} {w0 W : World} (h : ESt B w0 yp gp C q W) (hq : q ≤ 100) (kind file : Int) :
    Calls Tryz.prog 53 #[.pointer (some ⟨yp, 0, none⟩), .int .i64 kind, .int .i64 file, .int .i64 0, .int .i64 1000] W fun e w' => ∃ f : Int, e = .returned (erV f) ∧ Below B w0 w' ∧ (f = 0 → ∃ n, n ≤ 64 ∧ RSt none B w0 yp gp C kind n w') := by
  obtain ⟨Y, y, G, g, h1, h2, h3⟩ := h
  refine (ystart_any kind file 0 1000 W h1.yard h2.yg.ok (by omega)).mono fun e w' ⟨he, hd⟩ => ⟨_, he, ?_⟩
  obtain ⟨Y', h4⟩ := h1.yard_acts hd
  refine ⟨h4.bel, fun hf => ?_⟩
  have h5 := h2.yg.start (d := startK y kind file 0 1000) rfl (by omega)
  have h6 := start_runs h3 (d := startK y kind file 0 1000) rfl hf
  refine ⟨_, S4.cnt_le (newJ y.s (startK y kind file 0 1000)).x 64, Y', _, G, g, _, _, _, ⟨h4, trivial⟩, h2.sees h5.1 h5.2, h3.start _, h6.1, by rw [h6.2]; rfl, ?_, by omega⟩
  have := S4.cnt_le (newJ y.s (startK y kind file 0 1000)).x 64
  omega

theorem RSt.status {B yp gp C n : Nat} {kind : Int} {k : Option (Nat × Obj)} {w0 W : World} (h : RSt k B w0 yp gp C kind n W) : ∃ fl : Int,
    Calls Tryz.prog 47 #[.pointer (some ⟨yp, 0, none⟩)] W fun e w' => e = .returned (.agg #[.int .i64 kind, .int .i64 fl, .int .i64 (if n = 0 then 3 else 1), .int .i64 (n : Int)]) ∧ RSt k B w0 yp gp C kind n w' := by
  obtain ⟨Y, y, G, g, j, m, L, h1, h2, h3, h4, h5, h6, h7⟩ := h
  refine ⟨j.file, (ystatus_any W h1.1.yard h2.yg.ok).mono fun e w' ⟨he, hb⟩ => ⟨?_, Y, y, G, g, j, m, L, ⟨h1.1.below hb, h1.2.below hb⟩, h2, h3, h4, h5, h6, h7⟩⟩
  have hk : j.kind = kind := by
    have hin := h2.yg.ok.job j h4.job (by rw [h4.st]; decide)
    rw [← h5, ← hin.dsk]
    rfl
  have hs : j.state = if n = 0 then 3 else 1 := by
    unfold JV.state
    rw [h4.st, h4.cn]
    by_cases e : n = 0
    · rw [if_pos ⟨rfl, e⟩, if_pos e]
    · rw [if_neg (fun q => e q.2), if_neg e]
  rw [he, h4.job]
  simp only []
  rw [hk, hs, h4.cn]

theorem CSt.status {B yp gp C : Nat} {k : Option (Nat × Obj)} {w0 W : World} (h : CSt k B w0 yp gp C W) : ∃ (kd fl : Int),
    Calls Tryz.prog 47 #[.pointer (some ⟨yp, 0, none⟩)] W fun e w' => e = .returned (.agg #[.int .i64 kd, .int .i64 fl, .int .i64 4, .int .i64 0]) ∧ CSt k B w0 yp gp C w' := by
  obtain ⟨Y, y, G, g, j, m, L, h1, h2, h3, h4, h5, h6⟩ := h
  refine ⟨j.kind, j.file, (ystatus_any W h1.1.yard h2.yg.ok).mono fun e w' ⟨he, hb⟩ => ⟨?_, Y, y, G, g, j, m, L, ⟨h1.1.below hb, h1.2.below hb⟩, h2, h3, h4, h5, h6⟩⟩
  have hs : j.state = 4 := by
    unfold JV.state
    rw [h4, if_neg (fun q => by have := q.1; omega)]
  rw [he, h3]
  simp only []
  rw [hs, h5]
  rfl
theorem ASt.status {B yp gp C : Nat} {w0 W : World} (h : ASt B w0 yp gp C W) : ∃ (kd fl : Int) (n : Nat),
    Calls Tryz.prog 47 #[.pointer (some ⟨yp, 0, none⟩)] W fun e w' => e = .returned (.agg #[.int .i64 kd, .int .i64 fl, .int .i64 5, .int .i64 (n : Int)]) ∧ Below B w0 w' := by
  obtain ⟨Y, y, G, g, j, m, L, h1, h2, h3, h4⟩ := h
  refine ⟨j.kind, j.file, S4.cnt j.x 64, (ystatus_any W h1.yard h2.yg.ok).mono fun e w' ⟨he, hb⟩ => ⟨?_, (h1.below hb).bel⟩⟩
  have hs : j.state = 5 := by
    unfold JV.state
    rw [h4, if_neg (fun q => by have := q.1; omega)]
  rw [he, h3]
  simp only []
  rw [hs]

/- A step with clusters left. -/
theorem RSt.step {B yp gp C n : Nat} {kind : Int} {k : Option (Nat × Obj)} {w0 W : World} (h : RSt k B w0 yp gp C kind n W) (hT : S4.Tab W) (hn : 0 < n) :
    Calls Tryz.prog 54 #[.pointer (some ⟨yp, 0, none⟩)] W fun e w' => ∃ (b : Bool) (f : Int), e = .returned (.tuple #[.bool b, erV f]) ∧
      ((f = 6 ∧ ASt B w0 yp gp C w') ∨ (f = 0 ∧ ¬ (kind = 2 ∧ n = 1) ∧ RSt k B w0 yp gp C kind (n - 1) w') ∨ (f = 0 ∧ (kind = 2 ∧ n = 1) ∧ CSt k B w0 yp gp C w')) := by
  obtain ⟨Y, y, G, g, j, m, L, h1, h2, h3, h4, h5, h6, h7⟩ := h
  refine (ystep_any W h1.1.yard h2.yg.ok hT (by omega)).mono fun e w' ⟨he, hd⟩ => ⟨_, _, he, ?_⟩
  obtain ⟨Y', h8⟩ := h1.1.yard_bx h1.2 hd.out
  have h9 := sees_of (h2.yg.step (by omega))
  have h10 := h2.sees h9.1 h9.2
  rcases h4.step h2.yg h3 hn (by omega) with ⟨f, j', q1, q2⟩ | ⟨f, q⟩
  · exact .inl ⟨f, Y', _, G, g, j', _, _, h8.1, h10, q1, q2⟩
  · rcases q with ⟨q1, q2, j', q3⟩ | ⟨q1, j', q3, q4, q5⟩
    · exact .inr (.inl ⟨f, by rw [← h5]; exact q1, Y', _, G, g, j', _, _, h8, h10, h3.step, q3, by rw [q2]; exact h5, by omega, h7⟩)
    · exact .inr (.inr ⟨f, by rw [← h5]; exact q1, Y', _, G, g, j', _, _, h8, h10, q3, q4, q5, by omega⟩)
/- A stream with nothing left. -/
theorem RSt.idle {B yp gp C : Nat} {kind : Int} {k : Option (Nat × Obj)} {w0 W : World} (h : RSt k B w0 yp gp C kind 0 W) (hT : S4.Tab W) (hk : kind = 2) :
    Calls Tryz.prog 54 #[.pointer (some ⟨yp, 0, none⟩)] W fun e w' => ∃ b : Bool, e = .returned (.tuple #[.bool b, .nilIface]) ∧ CSt k B w0 yp gp C w' := by
  obtain ⟨Y, y, G, g, j, m, L, h1, h2, h3, h4, h5, h6, h7⟩ := h
  refine (ystep_any W h1.1.yard h2.yg.ok hT (by omega)).mono fun e w' ⟨he, hd⟩ => ⟨y.stepB, ?_, ?_⟩
  · rw [he, (h4.none h2.yg h3 (h5.trans hk)).1, erV_0]
  · obtain ⟨Y', h8⟩ := h1.1.yard_bx h1.2 hd.out
    have h9 := sees_of (h2.yg.step (by omega))
    obtain ⟨_, j', q1, q2, q3⟩ := h4.none h2.yg h3 (h5.trans hk)
    exact ⟨Y', _, G, g, j', _, _, h8, h2.sees h9.1 h9.2, q1, q2, q3, by omega⟩
/- A pivot. -/
theorem RSt.pivot {B yp gp C : Nat} {kind : Int} {k : Option (Nat × Obj)} {w0 W : World} (h : RSt k B w0 yp gp C kind 0 W) (hk : kind ≠ 2) :
    Calls Tryz.prog 56 #[.pointer (some ⟨yp, 0, none⟩)] W fun e w' => e = .returned .nilIface ∧ CSt k B w0 yp gp C w' := by
  obtain ⟨Y, y, G, g, j, m, L, h1, h2, h3, h4, h5, h6, h7⟩ := h
  have hr := h4.ready h2.yg h3 (fun e => hk (h5.symm.trans e))
  refine (ypivot_any W h1.1.yard h2.yg.ok (by omega)).mono fun e w' ⟨he, hd⟩ => ⟨by rw [he, hr.2.1, erV_0], ?_⟩
  obtain ⟨Y', h8⟩ := h1.1.yard_bx h1.2 hd.out
  have h9 := sees_of (h2.yg.pivot (by omega))
  obtain ⟨_, _, j', q1, q2, q3⟩ := hr
  exact ⟨Y', _, G, g, j', _, _, h8, h2.sees h9.1 h9.2, q1, q2, q3, by omega⟩
/- What is read at last. -/
theorem CSt.looks {B yp gp C : Nat} {k : Option (Nat × Obj)} {w0 W : World} (h : CSt k B w0 yp gp C W) (hC : C ≤ 32) : ∃ T : ByteArray,
    Calls Tryz.prog 44 #[.pointer (some ⟨yp, 0, none⟩)] W fun e w1 => e = .returned (.int .i64 ((4 * C : Nat) : Int)) ∧
      Calls Tryz.prog 43 #[.pointer (some ⟨yp, 0, none⟩), .int .i64 0, .int .i64 ((4 * C : Nat) : Int)] w1 fun e w2 => e = .returned (.tuple #[.string T, .nilIface]) ∧
        Calls Tryz.prog 45 #[.pointer (some ⟨gp, 0, none⟩), .string T] w2 fun e w3 => e = .returned (.bool true) ∧ CSt none B w0 yp gp C w3 := by
  obtain ⟨Y, y, G, g, j, m, L, h1, h2, h3, h4, h0, h5⟩ := h
  obtain ⟨t1, t2, t3⟩ := h2.text
  refine ⟨y.s.getS y.l 0 ((4 * C : Nat) : Int), (ysectors_any W h1.1.yard h2.yg.ok).mono fun e w1 ⟨e1, b1⟩ => ⟨e1, ?_⟩⟩
  have h1' := h1.1.below b1
  refine (yread_any 0 ((4 * C : Nat) : Int) w1 h1'.yard h2.yg.ok (by omega) (by omega)).mono fun e w2 ⟨e2, b2⟩ => ⟨?_, ?_⟩
  · rw [e2, t1, erV_0]
  · have h1'' := h1'.below b2
    refine (sees_any _ w2 h1''.guest (by omega) t2 (fun k hk => by rw [t3 k hk]; exact h2.now k hk) (fun k hk => by have := (h2.len k hk).1; omega)).mono fun e w3 ⟨e3, hg⟩ => ⟨e3, ?_⟩
    obtain ⟨G', h6⟩ := h1''.guest_acts hg
    have hL : 1 ≤ L ∨ C = 0 := by
      by_cases e : C = 0
      · exact .inr e
      · have q1 := h2.now 0 (by omega)
        have q2 := (h2.len 0 (by omega)).1
        have q3 := List.length_pos_of_mem q1
        exact .inl (by omega)
    rcases hL with hL | hL
    · exact ⟨Y, y, G', _, j, m, L, ⟨h6, trivial⟩, h2.seen hL, h3, h4, h0, h5⟩
    · exact ⟨Y, y, G', _, j, m, L, ⟨h6, trivial⟩, ⟨h2.yg, fun k hk => by omega, fun k hk => by omega⟩, h3, h4, h0, h5⟩
end Go.Proofs.YtonhoahnieoebabGreatDoor
