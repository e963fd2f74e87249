/-
An act on a yard's files, and one of its job, as acts on the yard.
Desks (C3): what may be, in the program and in the document's answer.
Desks as sectors (C3): in the program and in the document's answer: what each call gives.
A desk is written (J1).
The job's own calls in a yard; a pause, a tick, a cancel (J6).
-/
import Derived.Test.YtonhoahnieoebabGreatDoorQYardP1
import Derived.Test.YtonhoahnieoebabGreatDoorQShapeRow
import Derived.BigRegion
namespace Go.Proofs.YtonhoahnieoebabGreatDoor
open Go.RowKit Go.Maps

theorem IsYard.shelved {w w1 w' : World} {yp m' : Nat} {Y : Yh} {y : YV} {z : SV} {xs' : Nat → Ih} (h : IsYard w yp Y y) (hb : Below w.heap.size w w1) (hs : IsShelf w' yp xs' z m') (hm : Moved (fpS Y.xs y.s) w1 (fpS xs' z) w') :
    IsYard w' yp { Y with xs := xs' } { y with s := z } ∧ Moved (fpY yp Y y) w (fpY yp { Y with xs := xs' } { y with s := z }) w' := by
  have h1 := h.below hb
  obtain ⟨h2, h3⟩ := h1.acted (j' := y.j) hs hm (fun k hk => .inl hk) (fun k hk => by
    rcases hk with hk | hk
    · exact .inl hk
    · exact .inr ⟨h1.fp_lt (.inr (.inr (.inr hk))), .inr hk⟩) Iff.rfl (fun a ha => ⟨a, ha, rfl, by
    obtain ⟨h4, _⟩ := h1.job a ha
    have hn : y.j ≠ none := by rw [ha]; intro e; cases e
    have hJ : ∀ k, k = Y.jb.jp ∨ k = Y.jb.lp ∨ k = Y.jb.bp → w'.heap[k]? = w1.heap[k]? := fun k hk => hm.block (h1.fp_lt (.inr (.inr (.inr ⟨hn, hk⟩)))) (fun e => by
      obtain ⟨i, hi, hf⟩ := h1.inS e
      exact (h1.jobNot ⟨hn, hk⟩).1 i hi hf)
    exact h4.keep (hJ _ (.inl rfl)) (hJ _ (.inr (.inl rfl))) (hJ _ (.inr (.inr rfl)))⟩)
  exact ⟨h2, (Moved.of_below hb).trans h3⟩

theorem IsYard.sdid {w w1 w' : World} {yp m' : Nat} {Y : Yh} {y : YV} {R : SV × Int} {e : Ending} (h : IsYard w yp Y y) (hb : Below w.heap.size w w1) (hd : SDid w1 yp Y.xs y.s m' R e w') :
    e = .returned (erV R.2) ∧ ∃ Y' : Yh, Y'.jb = Y.jb ∧ IsYard w' yp Y' { y with s := R.1 } ∧ Moved (fpY yp Y y) w (fpY yp Y' { y with s := R.1 }) w' := by
  obtain ⟨xs', h1, h2, h3⟩ := hd
  obtain ⟨h4, h5⟩ := h.shelved hb h2 h3
  exact ⟨h1, { Y with xs := xs' }, rfl, h4, h5⟩

theorem IsYard.pdid {w w1 w' : World} {yp m C : Nat} {Y : Yh} {y : YV} {z : SV} {j a : JV} (h : IsYard w yp Y y) (hj : y.j = some j) (hb : Below w.heap.size w w1) (hd : PDid yp Y.jb.jp Y.jb.lp Y.jb.bp Y.jb.a Y.jb.cap Y.xs y.s z m C a w1 w') (hl : a.l = j.l) :
    ∃ Y' : Yh, Y'.jb = Y.jb ∧ IsYard w' yp Y' { y with s := z, j := some a } ∧ Moved (fpY yp Y y) w (fpY yp Y' { y with s := z, j := some a }) w' := by
  obtain ⟨xs', h1, h2⟩ := hd
  have hn : y.j ≠ none := by rw [hj]; intro e; cases e
  obtain ⟨h3, h4⟩ := (h.below hb).acted (j' := some a) h1.shelf h2 (fun k hk => by
    rcases hk with hk | hk
    · exact .inl hk
    · exact .inr ⟨hn, hk⟩) (fun k hk => by
    rcases hk with hk | hk
    · exact .inl (.inl hk)
    · exact .inl (.inr hk.2)) (by rw [hj]; exact ⟨fun e => (by cases e), fun e => (by cases e)⟩) (fun b hb => by
    cases hb
    exact ⟨j, hj, hl, h1.job⟩)
  exact ⟨{ Y with xs := xs' }, rfl, h3, (Moved.of_below hb).trans h4⟩

/- With the same job's blocks. -/
def YDidJ (yp : Nat) (Y : Yh) (y y' : YV) (w w' : World) : Prop := ∃ Y' : Yh, Y'.jb = Y.jb ∧ IsYard w' yp Y' y' ∧ Moved (fpY yp Y y) w (fpY yp Y' y') w'
theorem YDidJ.out {w w' : World} {yp : Nat} {Y : Yh} {y z : YV} (h : YDidJ yp Y y z w w') : YDid yp Y y z w w' := by
  obtain ⟨Y', h0, h1, h2⟩ := h
  exact ⟨Y', .inl h0, h1, h2⟩
theorem YDidJ.refl {w : World} {yp : Nat} {Y : Yh} {y : YV} (h : IsYard w yp Y y) : YDidJ yp Y y y w w := ⟨Y, rfl, h, Moved.refl _ _⟩
theorem YDidJ.below {w w' : World} {yp : Nat} {Y : Yh} {y : YV} (h : IsYard w yp Y y) (hb : Below w.heap.size w w') : YDidJ yp Y y y w w' := ⟨Y, rfl, h.below hb, Moved.of_below hb⟩
theorem YDidJ.trans {w w1 w' : World} {yp : Nat} {Y Y1 : Yh} {y y1 y' : YV} (hj : Y1.jb = Y.jb) (hm : Moved (fpY yp Y y) w (fpY yp Y1 y1) w1) (h : YDidJ yp Y1 y1 y' w1 w') : YDidJ yp Y y y' w w' := by
  obtain ⟨Y', h0, h1, h2⟩ := h
  exact ⟨Y', h0.trans hj, h1, hm.trans h2⟩
theorem YDidJ.from {w w1 w' : World} {yp : Nat} {Y : Yh} {y y' : YV} (hb : Below w.heap.size w w1) (h : YDidJ yp Y y y' w1 w') : YDidJ yp Y y y' w w' := by
  obtain ⟨Y', h0, h1, h2⟩ := h
  exact ⟨Y', h0, h1, (Moved.of_below hb).trans h2⟩

theorem IsYard.pjOf {w : World} {yp m C : Nat} {Y : Yh} {y : YV} {j : JV} (h : IsYard w yp Y y) (hs : y.s.ok m) (hj : y.j = some j) (hok : JOk y.s C j) : PJ w yp Y.jb.jp Y.jb.lp Y.jb.bp Y.jb.a Y.jb.cap Y.xs y.s m C j := by
  obtain ⟨h1, h2, h3, h4, h5⟩ := h.job j hj
  refine ⟨h.shelf hs, h1, h2, fun g o e hk => h5 g o e ?_, hok, h4⟩
  rcases hk with hk | hk
  · exact .inr (.inl (h.inS hk))
  · exact .inr (.inr (.inr ⟨(by rw [hj]; intro e; cases e), hk⟩))

theorem mark_none {y : YV} (h : y.busy ≠ true) (fr n : Nat) : y.mark fr n = y := by
  unfold YV.mark
  cases hj : y.j with
  | none =>
    show ({ y with j := none } : YV) = y
    rw [← hj]
  | some j =>
    have h4 := busy_no h j hj
    show ({ y with j := some (dirtyTo j fr n) } : YV) = y
    rw [dirtyTo_over h4, ← hj]
theorem mark_zero (y : YV) (fr : Nat) : y.mark fr 0 = y := by
  unfold YV.mark
  have : (y.j.map fun j => dirtyTo j fr 0) = y.j := by cases y.j <;> rfl
  rw [this]
theorem dirtyC_l (j : JV) (c : Nat) : ∀ k, (dirtyC j c k).l = j.l := by
  intro k
  induction k with
  | zero => rfl
  | succ k ih =>
    show (dirtyJ (dirtyC j c k) _).l = j.l
    unfold dirtyJ
    split <;> exact ih
theorem JOk.dirtyC {s : SV} {C : Nat} {j : JV} (h : JOk s C j) (c : Nat) : ∀ k, JOk s C (dirtyC j c k) := by
  intro k
  induction k with
  | zero => exact h
  | succ k ih => exact ih.dirty _
end Go.Proofs.YtonhoahnieoebabGreatDoor

namespace Go.Proofs.YtonhoahnieoebabGreatDoor
open Go.RowKit
attribute [local go_sem ↓] Go.wp_at_zero Go.wp_at_succ


theorem KV.fault1 {d : KV} (h : ¬ (0 ≤ d.r ∧ d.r ≤ 4 ∧ 0 ≤ d.k ∧ d.k ≤ 3 ∧ -1 ≤ d.f ∧ d.f ≤ 4 ∧ 0 ≤ d.a ∧ d.a ≤ 1000 ∧ 0 ≤ d.u ∧ d.u ≤ 1000)) : d.fault = 1 := by
  unfold KV.fault KV.bound
  rw [if_neg (fun e => h (of_decide_eq_true e))]

theorem KV.fault2 {d : KV} (h : 0 ≤ d.r ∧ d.r ≤ 4 ∧ 0 ≤ d.k ∧ d.k ≤ 3 ∧ -1 ≤ d.f ∧ d.f ≤ 4 ∧ 0 ≤ d.a ∧ d.a ≤ 1000 ∧ 0 ≤ d.u ∧ d.u ≤ 1000)
    (hm : ¬ ((d.k = 0 ∧ d.f = -1 ∧ d.a = 0 ∧ d.u = 0) ∨ (d.k ≠ 0 ∧ d.f ≠ d.r ∧ (d.f ≠ -1 ∨ d.k = 2)))) : d.fault = 2 := by
  unfold KV.fault KV.bound KV.may
  rw [if_pos (decide_eq_true h), if_neg (fun e => hm (of_decide_eq_true e))]

theorem KV.fault0 {d : KV} (h : 0 ≤ d.r ∧ d.r ≤ 4 ∧ 0 ≤ d.k ∧ d.k ≤ 3 ∧ -1 ≤ d.f ∧ d.f ≤ 4 ∧ 0 ≤ d.a ∧ d.a ≤ 1000 ∧ 0 ≤ d.u ∧ d.u ≤ 1000)
    (hm : (d.k = 0 ∧ d.f = -1 ∧ d.a = 0 ∧ d.u = 0) ∨ (d.k ≠ 0 ∧ d.f ≠ d.r ∧ (d.f ≠ -1 ∨ d.k = 2))) : d.fault = 0 := by
  unfold KV.fault KV.bound KV.may
  rw [if_pos (decide_eq_true h), if_pos (decide_eq_true hm)]

set_option maxRecDepth 100000 in
set_option maxHeartbeats 1000000 in
theorem checkDesk_bound (r k f a u : Int) (w : World) (h : ¬ (0 ≤ r ∧ r ≤ 4 ∧ 0 ≤ k ∧ k ≤ 3 ∧ -1 ≤ f ∧ f ≤ 4 ∧ 0 ≤ a ∧ a ≤ 1000 ∧ 0 ≤ u ∧ u ≤ 1000)) :
    Calls Tryz.prog 147 #[.agg #[.int .i64 r, .int .i64 k, .int .i64 f, .int .i64 a, .int .i64 u]] w fun e w' => e = .returned (erV (KV.fault ⟨r, k, f, a, u⟩)) ∧ Below w.heap.size w w' := by
  have hbel : Below w.heap.size w (w.alloc (.cells #[.int .i64 r, .int .i64 k, .int .i64 f, .int .i64 a, .int .i64 u] 47)) := (Below.refl _ _).alloc (Nat.le_refl _) _
  have HF : Hid (erV (KV.fault ⟨r, k, f, a, u⟩) = .iface 127 (.int .i64 1)) := by unfold Hid; rw [KV.fault1 (d := ⟨r, k, f, a, u⟩) h]; exact erV_1
  by_cases h0 : 0 ≤ r ∧ r ≤ 4
  rotate_left
  · have y0 : inB r (0) 4 = false := inB_no h0
    clear h h0
    go_enter Tryz.func147, Tryz.ntmps147
    go_wp2_with (go_at_call 211; refine (within_any _ _ _ _).mono ?_; rintro e w' ⟨rfl, rfl⟩)
    go_ret
    exact ⟨ret_v HF.out.symm, hbel⟩
  by_cases h1 : 0 ≤ k ∧ k ≤ 3
  rotate_left
  · have y1 : inB k (0) 3 = false := inB_no h1
    have y0 : inB r (0) 4 = true := inB_yes h0
    clear h h1 h0
    go_enter Tryz.func147, Tryz.ntmps147
    go_wp2_with (go_at_call 211; refine (within_any _ _ _ _).mono ?_; rintro e w' ⟨rfl, rfl⟩)
    go_ret
    exact ⟨ret_v HF.out.symm, hbel⟩
  by_cases h2 : -1 ≤ f ∧ f ≤ 4
  rotate_left
  · have y2 : inB f (-1) 4 = false := inB_no h2
    have y0 : inB r (0) 4 = true := inB_yes h0
    have y1 : inB k (0) 3 = true := inB_yes h1
    clear h h2 h0 h1
    go_enter Tryz.func147, Tryz.ntmps147
    go_wp2_with (go_at_call 211; refine (within_any _ _ _ _).mono ?_; rintro e w' ⟨rfl, rfl⟩)
    go_ret
    exact ⟨ret_v HF.out.symm, hbel⟩
  by_cases h3 : 0 ≤ a ∧ a ≤ 1000
  rotate_left
  · have y3 : inB a (0) 1000 = false := inB_no h3
    have y0 : inB r (0) 4 = true := inB_yes h0
    have y1 : inB k (0) 3 = true := inB_yes h1
    have y2 : inB f (-1) 4 = true := inB_yes h2
    clear h h3 h0 h1 h2
    go_enter Tryz.func147, Tryz.ntmps147
    go_wp2_with (go_at_call 211; refine (within_any _ _ _ _).mono ?_; rintro e w' ⟨rfl, rfl⟩)
    go_ret
    exact ⟨ret_v HF.out.symm, hbel⟩
  have h4 : ¬ (0 ≤ u ∧ u ≤ 1000) := by omega
  · have y4 : inB u (0) 1000 = false := inB_no h4
    have y0 : inB r (0) 4 = true := inB_yes h0
    have y1 : inB k (0) 3 = true := inB_yes h1
    have y2 : inB f (-1) 4 = true := inB_yes h2
    have y3 : inB a (0) 1000 = true := inB_yes h3
    clear h h4 h0 h1 h2 h3
    go_enter Tryz.func147, Tryz.ntmps147
    go_wp2_with (go_at_call 211; refine (within_any _ _ _ _).mono ?_; rintro e w' ⟨rfl, rfl⟩)
    go_ret
    exact ⟨ret_v HF.out.symm, hbel⟩

set_option maxRecDepth 100000 in
set_option maxHeartbeats 1000000 in
theorem checkDesk_in (r k f a u : Int) (w : World) (h0 : 0 ≤ r ∧ r ≤ 4) (h1 : 0 ≤ k ∧ k ≤ 3) (h2 : -1 ≤ f ∧ f ≤ 4) (h3 : 0 ≤ a ∧ a ≤ 1000) (h4 : 0 ≤ u ∧ u ≤ 1000) :
    Calls Tryz.prog 147 #[.agg #[.int .i64 r, .int .i64 k, .int .i64 f, .int .i64 a, .int .i64 u]] w fun e w' => e = .returned (erV (KV.fault ⟨r, k, f, a, u⟩)) ∧ Below w.heap.size w w' := by
  have hbel : Below w.heap.size w (w.alloc (.cells #[.int .i64 r, .int .i64 k, .int .i64 f, .int .i64 a, .int .i64 u] 47)) := (Below.refl _ _).alloc (Nat.le_refl _) _
  by_cases k0 : k = 0
  · by_cases f1 : f = -1
    · by_cases a0 : a = 0
      · by_cases u0 : u = 0
        · have HF : Hid (erV (KV.fault ⟨r, k, f, a, u⟩) = .nilIface) := by unfold Hid; rw [KV.fault0 (d := ⟨r, k, f, a, u⟩) ⟨h0.1, h0.2, h1.1, h1.2, h2.1, h2.2, h3.1, h3.2, h4.1, h4.2⟩ (.inl ⟨k0, f1, a0, u0⟩)]; exact erV_0
          clear hbel
          subst k0 f1 a0 u0
          have y0 := inB_yes h0
          have y1 := inB_yes h1
          have y2 := inB_yes h2
          have y3 := inB_yes h3
          have y4 := inB_yes h4
          clear h0 h1 h2 h3 h4
          try clear k0
          try clear f1
          try clear a0
          try clear u0
          try clear fr
          try clear k2
          go_enter Tryz.func147, Tryz.ntmps147
          go_wp2_with (go_at_call 211; refine (within_any _ _ _ _).mono ?_; rintro e w' ⟨rfl, rfl⟩)
          go_ret
          exact ⟨ret_v HF.out.symm, (Below.refl _ _).alloc (Nat.le_refl _) _⟩
        · have HF : Hid (erV (KV.fault ⟨r, k, f, a, u⟩) = .iface 127 (.int .i64 2)) := by unfold Hid; rw [KV.fault2 (d := ⟨r, k, f, a, u⟩) ⟨h0.1, h0.2, h1.1, h1.2, h2.1, h2.2, h3.1, h3.2, h4.1, h4.2⟩ (by show ¬ ((k = 0 ∧ f = -1 ∧ a = 0 ∧ u = 0) ∨ (k ≠ 0 ∧ f ≠ r ∧ (f ≠ -1 ∨ k = 2))); omega)]; exact erV_2
          obtain ⟨v1, v2⟩ := ne_b u0
          clear hbel
          subst k0 f1 a0
          have y0 := inB_yes h0
          have y1 := inB_yes h1
          have y2 := inB_yes h2
          have y3 := inB_yes h3
          have y4 := inB_yes h4
          clear h0 h1 h2 h3 h4
          try clear k0
          try clear f1
          try clear a0
          try clear u0
          try clear fr
          try clear k2
          go_enter Tryz.func147, Tryz.ntmps147
          go_wp2_with (go_at_call 211; refine (within_any _ _ _ _).mono ?_; rintro e w' ⟨rfl, rfl⟩)
          go_ret
          exact ⟨ret_v HF.out.symm, (Below.refl _ _).alloc (Nat.le_refl _) _⟩
      · have HF : Hid (erV (KV.fault ⟨r, k, f, a, u⟩) = .iface 127 (.int .i64 2)) := by unfold Hid; rw [KV.fault2 (d := ⟨r, k, f, a, u⟩) ⟨h0.1, h0.2, h1.1, h1.2, h2.1, h2.2, h3.1, h3.2, h4.1, h4.2⟩ (by show ¬ ((k = 0 ∧ f = -1 ∧ a = 0 ∧ u = 0) ∨ (k ≠ 0 ∧ f ≠ r ∧ (f ≠ -1 ∨ k = 2))); omega)]; exact erV_2
        obtain ⟨v1, v2⟩ := ne_b a0
        clear hbel
        subst k0 f1
        have y0 := inB_yes h0
        have y1 := inB_yes h1
        have y2 := inB_yes h2
        have y3 := inB_yes h3
        have y4 := inB_yes h4
        clear h0 h1 h2 h3 h4
        try clear k0
        try clear f1
        try clear a0
        try clear u0
        try clear fr
        try clear k2
        go_enter Tryz.func147, Tryz.ntmps147
        go_wp2_with (go_at_call 211; refine (within_any _ _ _ _).mono ?_; rintro e w' ⟨rfl, rfl⟩)
        go_ret
        exact ⟨ret_v HF.out.symm, (Below.refl _ _).alloc (Nat.le_refl _) _⟩
    · have HF : Hid (erV (KV.fault ⟨r, k, f, a, u⟩) = .iface 127 (.int .i64 2)) := by unfold Hid; rw [KV.fault2 (d := ⟨r, k, f, a, u⟩) ⟨h0.1, h0.2, h1.1, h1.2, h2.1, h2.2, h3.1, h3.2, h4.1, h4.2⟩ (by show ¬ ((k = 0 ∧ f = -1 ∧ a = 0 ∧ u = 0) ∨ (k ≠ 0 ∧ f ≠ r ∧ (f ≠ -1 ∨ k = 2))); omega)]; exact erV_2
      obtain ⟨v1, v2⟩ := ne_b f1
      clear hbel
      subst k0
      have y0 := inB_yes h0
      have y1 := inB_yes h1
      have y2 := inB_yes h2
      have y3 := inB_yes h3
      have y4 := inB_yes h4
      clear h0 h1 h2 h3 h4
      try clear k0
      try clear f1
      try clear a0
      try clear u0
      try clear fr
      try clear k2
      go_enter Tryz.func147, Tryz.ntmps147
      go_wp2_with (go_at_call 211; refine (within_any _ _ _ _).mono ?_; rintro e w' ⟨rfl, rfl⟩)
      go_ret
      exact ⟨ret_v HF.out.symm, (Below.refl _ _).alloc (Nat.le_refl _) _⟩
  · obtain ⟨v1, v2⟩ := ne_b k0
    by_cases fr : f = r
    · have HF : Hid (erV (KV.fault ⟨r, k, f, a, u⟩) = .iface 127 (.int .i64 2)) := by unfold Hid; rw [KV.fault2 (d := ⟨r, k, f, a, u⟩) ⟨h0.1, h0.2, h1.1, h1.2, h2.1, h2.2, h3.1, h3.2, h4.1, h4.2⟩ (by show ¬ ((k = 0 ∧ f = -1 ∧ a = 0 ∧ u = 0) ∨ (k ≠ 0 ∧ f ≠ r ∧ (f ≠ -1 ∨ k = 2))); omega)]; exact erV_2
      obtain ⟨v3, v4⟩ := eq_b fr
      clear hbel
      have y0 := inB_yes h0
      have y1 := inB_yes h1
      have y2 := inB_yes h2
      have y3 := inB_yes h3
      have y4 := inB_yes h4
      clear h0 h1 h2 h3 h4
      try clear k0
      try clear f1
      try clear a0
      try clear u0
      try clear fr
      try clear k2
      go_enter Tryz.func147, Tryz.ntmps147
      go_wp2_with (go_at_call 211; refine (within_any _ _ _ _).mono ?_; rintro e w' ⟨rfl, rfl⟩)
      go_ret
      exact ⟨ret_v HF.out.symm, (Below.refl _ _).alloc (Nat.le_refl _) _⟩
    · obtain ⟨v3, v4⟩ := ne_b fr
      by_cases f1 : f = -1
      · by_cases k2 : k = 2
        · have HF : Hid (erV (KV.fault ⟨r, k, f, a, u⟩) = .nilIface) := by unfold Hid; rw [KV.fault0 (d := ⟨r, k, f, a, u⟩) ⟨h0.1, h0.2, h1.1, h1.2, h2.1, h2.2, h3.1, h3.2, h4.1, h4.2⟩ (.inr ⟨k0, fr, .inr k2⟩)]; exact erV_0
          clear hbel
          obtain ⟨v5, v6⟩ := eq_b f1
          obtain ⟨v7, v8⟩ := eq_b k2
          have y0 := inB_yes h0
          have y1 := inB_yes h1
          have y2 := inB_yes h2
          have y3 := inB_yes h3
          have y4 := inB_yes h4
          clear h0 h1 h2 h3 h4
          try clear k0
          try clear f1
          try clear a0
          try clear u0
          try clear fr
          try clear k2
          go_enter Tryz.func147, Tryz.ntmps147
          go_wp2_with (go_at_call 211; refine (within_any _ _ _ _).mono ?_; rintro e w' ⟨rfl, rfl⟩)
          go_ret
          exact ⟨ret_v HF.out.symm, (Below.refl _ _).alloc (Nat.le_refl _) _⟩
        · have HF : Hid (erV (KV.fault ⟨r, k, f, a, u⟩) = .iface 127 (.int .i64 2)) := by unfold Hid; rw [KV.fault2 (d := ⟨r, k, f, a, u⟩) ⟨h0.1, h0.2, h1.1, h1.2, h2.1, h2.2, h3.1, h3.2, h4.1, h4.2⟩ (by show ¬ ((k = 0 ∧ f = -1 ∧ a = 0 ∧ u = 0) ∨ (k ≠ 0 ∧ f ≠ r ∧ (f ≠ -1 ∨ k = 2))); omega)]; exact erV_2
          clear hbel
          obtain ⟨v5, v6⟩ := eq_b f1
          obtain ⟨v7, v8⟩ := ne_b k2
          have y0 := inB_yes h0
          have y1 := inB_yes h1
          have y2 := inB_yes h2
          have y3 := inB_yes h3
          have y4 := inB_yes h4
          clear h0 h1 h2 h3 h4
          try clear k0
          try clear f1
          try clear a0
          try clear u0
          try clear fr
          try clear k2
          go_enter Tryz.func147, Tryz.ntmps147
          go_wp2_with (go_at_call 211; refine (within_any _ _ _ _).mono ?_; rintro e w' ⟨rfl, rfl⟩)
          go_ret
          exact ⟨ret_v HF.out.symm, (Below.refl _ _).alloc (Nat.le_refl _) _⟩
      · have HF : Hid (erV (KV.fault ⟨r, k, f, a, u⟩) = .nilIface) := by unfold Hid; rw [KV.fault0 (d := ⟨r, k, f, a, u⟩) ⟨h0.1, h0.2, h1.1, h1.2, h2.1, h2.2, h3.1, h3.2, h4.1, h4.2⟩ (.inr ⟨k0, fr, .inl f1⟩)]; exact erV_0
        clear hbel
        obtain ⟨v5, v6⟩ := ne_b f1
        have y0 := inB_yes h0
        have y1 := inB_yes h1
        have y2 := inB_yes h2
        have y3 := inB_yes h3
        have y4 := inB_yes h4
        clear h0 h1 h2 h3 h4
        try clear k0
        try clear f1
        try clear a0
        try clear u0
        try clear fr
        try clear k2
        go_enter Tryz.func147, Tryz.ntmps147
        go_wp2_with (go_at_call 211; refine (within_any _ _ _ _).mono ?_; rintro e w' ⟨rfl, rfl⟩)
        go_ret
        exact ⟨ret_v HF.out.symm, (Below.refl _ _).alloc (Nat.le_refl _) _⟩

theorem checkDesk_any (r k f a u : Int) (w : World) :
    Calls Tryz.prog 147 #[.agg #[.int .i64 r, .int .i64 k, .int .i64 f, .int .i64 a, .int .i64 u]] w fun e w' => e = .returned (erV (KV.fault ⟨r, k, f, a, u⟩)) ∧ Below w.heap.size w w' := by
  by_cases h : 0 ≤ r ∧ r ≤ 4 ∧ 0 ≤ k ∧ k ≤ 3 ∧ -1 ≤ f ∧ f ≤ 4 ∧ 0 ≤ a ∧ a ≤ 1000 ∧ 0 ≤ u ∧ u ≤ 1000
  · exact checkDesk_in r k f a u w ⟨h.1, by omega⟩ ⟨by omega, by omega⟩ ⟨by omega, by omega⟩ ⟨by omega, by omega⟩ ⟨by omega, by omega⟩
  · exact checkDesk_bound r k f a u w h

end Go.Proofs.YtonhoahnieoebabGreatDoor

namespace Go.Proofs.YtonhoahnieoebabGreatDoor
open Go.RowKit
attribute [local go_sem ↓] Go.wp_at_zero Go.wp_at_succ

set_option maxRecDepth 100000 in
set_option maxHeartbeats 400000 in
theorem pair_any (x y : Int) (w : World) (h0 : 0 ≤ x) (h1 : x < 256) (h2 : 0 ≤ y) (h3 : y < 256) :
    Calls Tryz.prog 233 #[.int .u8 x, .int .u8 y] w fun e w' => e = .returned (.int .i64 (x + y * 256)) ∧ w' = w := by
  go_enter Tryz.func233, Tryz.ntmps233
  go_wp2
  go_ret
  exact ⟨retI (by omega), rfl⟩

set_option maxRecDepth 100000 in
set_option maxHeartbeats 400000 in
theorem desk_yes (r k f a u : Int) (w : World) (hk : KV.fault ⟨r, k, f, a, u⟩ = 0) :
    Calls Tryz.prog 213 #[.agg #[.int .i64 r, .int .i64 k, .int .i64 f, .int .i64 a, .int .i64 u]] w fun e w' => e = .returned (.tuple #[.string (sealS [68, 75, r, k, f + 1, a % 256, a / 256, u % 256, u / 256]), .nilIface]) ∧ Below w.heap.size w w' := by
  have hch := checkDesk_any r k f a u (w.alloc (.cells #[.int .i64 r, .int .i64 k, .int .i64 f, .int .i64 a, .int .i64 u] 47))
  rw [hk, erV_0] at hch
  have hbd := of_decide_eq_true (KV.of_fault hk).1
  simp only at hbd
  obtain ⟨g1, g2, g3, g4, g5, g6, g7, g8, g9, g10⟩ := hbd
  have HC := toHid hch
  clear hch hk
  go_enter Tryz.func213, Tryz.ntmps213
  go_wp2_with fail
  refine HC.out.mono ?_
  rintro e w1 ⟨rfl, hb1⟩
  obtain ⟨hc, hf⟩ := bcell hb1
  have hz : w.heap.size < w1.heap.size := by have := hb1.size; simp at this; omega
  go_wp2_with fail
  refine (sealed_any [68, 75, r, k, f + 1, a % 256, a / 256, u % 256, u / 256] _ 9 _ (by simp) ?_ (cells_row w1 [68, 75, r, k, f + 1, a % 256, a / 256, u % 256, u / 256] 5)).mono ?_
  · simp
  rintro e w2 ⟨rfl, hb2⟩
  go_wp2
  go_ret2
  exact ⟨rfl, ((((Below.refl _ _).alloc (Nat.le_refl _) _).trans (hb1.mono (by simp))).alloc (by omega) _).trans (hb2.mono (by simp; omega))⟩

set_option maxRecDepth 100000 in
set_option maxHeartbeats 400000 in
theorem desk_no (r k f a u : Int) (w : World) (hk : KV.fault ⟨r, k, f, a, u⟩ ≠ 0) :
    Calls Tryz.prog 213 #[.agg #[.int .i64 r, .int .i64 k, .int .i64 f, .int .i64 a, .int .i64 u]] w fun e w' => e = .returned (.tuple #[.string ⟨#[]⟩, .iface 127 (.int .i64 (KV.fault ⟨r, k, f, a, u⟩))]) ∧ Below w.heap.size w w' := by
  have hch := checkDesk_any r k f a u (w.alloc (.cells #[.int .i64 r, .int .i64 k, .int .i64 f, .int .i64 a, .int .i64 u] 47))
  have e0 : erV (KV.fault ⟨r, k, f, a, u⟩) = .iface 127 (.int .i64 (KV.fault ⟨r, k, f, a, u⟩)) := by unfold erV; rw [if_neg hk]
  rw [e0] at hch
  generalize KV.fault ⟨r, k, f, a, u⟩ = F at hch
  have HC := toHid hch
  clear hch e0 hk
  go_enter Tryz.func213, Tryz.ntmps213
  go_wp2_with fail
  refine HC.out.mono ?_
  rintro e w1 ⟨rfl, hb1⟩
  go_wp2
  go_ret2
  exact ⟨rfl, ((Below.refl _ _).alloc (Nat.le_refl _) _).trans (hb1.mono (by simp))⟩

end Go.Proofs.YtonhoahnieoebabGreatDoor

namespace Go.Proofs.YtonhoahnieoebabGreatDoor
open Go.RowKit Go.Maps
attribute [local go_sem ↓] Go.wp_at_zero Go.wp_at_succ

theorem ytop_write {yp m : Nat} {Y : Yh} {y : YV} (s : ByteArray) (w : World) (h : IsYard w yp Y y) (hf : y.top.fine y.top.fl.length m) (hm : m < 1000000000) (hs : s.size = 16) :
    Calls Tryz.prog 214 #[.pointer (some ⟨Y.tp.p, 0, none⟩), .int .i64 0, .string s] w fun e w' => e = .returned (erV y.top.putF) ∧ YDidJ yp Y y { y with top := y.top.put 0 s.data.toList } w w' := by
  refine (dWrite_any 0 s w h.top.butG hf hm (Nat.le_refl _) hs (by have := hf.ok.n1; omega)).mono ?_
  rintro e w' ⟨v2, rfl, h1, h2⟩
  obtain ⟨h3, h4⟩ := h.topped (t' := { Y.tp with v2 := v2 }) h1.noG rfl (h1.moved h2 fun k hk hg => hg.2 hk)
  exact ⟨rfl, { Y with tp := { Y.tp with v2 := v2 } }, rfl, h3, h4⟩
theorem ytop_flush {yp : Nat} {Y : Yh} {y : YV} (w : World) (h : IsYard w yp Y y) :
    Calls Tryz.prog 215 #[.pointer (some ⟨Y.tp.p, 0, none⟩)] w fun e w' => e = .returned (.tuple #[]) ∧ YDidJ yp Y y { y with top := y.top.flushed } w w' := by
  refine (flush_any w h.top.toIsDev).mono ?_
  rintro e w' ⟨rfl, h1, h2⟩
  have h3 : IsDevG (Gd.but w Y.tp.fp) w' { Y.tp with v2 := .slice none 0 0 } y.top.flushed := h.top.butG.nilled h1
  obtain ⟨h4, h5⟩ := h.topped (t' := { Y.tp with v2 := .slice none 0 0 }) h3.noG rfl (h3.moved h2 fun k hk hg => hg.2 (by rcases hk with hk | hk; exact .inl hk; exact .inr (.inl hk)))
  exact ⟨rfl, { Y with tp := { Y.tp with v2 := .slice none 0 0 } }, rfl, h4, h5⟩

theorem deskS_size (d : KDesk) : (sealS d.kv.bytes).size = 16 := sealS_size d.kv.bytes (by show 9 ≤ 12; omega)

set_option maxRecDepth 100000 in
set_option maxHeartbeats 1000000 in
theorem ydesk_any {yp m : Nat} {Y : Yh} {y : YV} (d : KDesk) (w : World) (h : IsYard w yp Y y) (hY : y.top.fine y.top.fl.length m) (hd : d.kv.fault = 0) (hm : m < 1000000000) :
    Calls Tryz.prog 102 #[.pointer (some ⟨yp, 0, none⟩), .agg #[.int .i64 d.root, .int .i64 d.kind, .int .i64 d.file, .int .i64 d.rate, .int .i64 d.burst]] w fun e w' => e = .returned (erV y.deskF) ∧ YDidJ yp Y y (y.desk d) w w' := by
  have HB0 : Hid (Below w.heap.size w (w.alloc (deskC d))) := (Below.refl _ _).alloc (Nat.le_refl _) _
  have h1 := h.below HB0.out
  have HDK : Hid (Calls Tryz.prog 213 #[.agg #[.int .i64 d.root, .int .i64 d.kind, .int .i64 d.file, .int .i64 d.rate, .int .i64 d.burst]] (w.alloc (deskC d)) fun e w' => e = .returned (.tuple #[.string (sealS d.kv.bytes), .nilIface]) ∧ Below (w.alloc (deskC d)).heap.size (w.alloc (deskC d)) w') := desk_yes d.root d.kind d.file d.rate d.burst _ hd
  have HWR : Hid (∀ (W : World), Below (w.alloc (deskC d)).heap.size (w.alloc (deskC d)) W → W.cell? ⟨yp, 5, none⟩ = some (.pointer (some ⟨Y.tp.p, 0, none⟩)) ∧ Calls Tryz.prog 214 #[.pointer (some ⟨Y.tp.p, 0, none⟩), .int .i64 0, .string (sealS d.kv.bytes)] W fun e w' => e = .returned (erV y.top.putF) ∧ YDidJ yp Y y { y with top := y.top.put 0 (YV.deskS d) } (w.alloc (deskC d)) w') := fun W hb =>
    ⟨(h1.below hb).blk.cells.2.1, (ytop_write _ W (h1.below hb) hY hm (deskS_size d)).mono fun e w' ⟨h1, h2⟩ => ⟨h1, YDidJ.from hb h2⟩⟩
  have HF1 : Hid (∀ z : YV, ∀ W : World, YDidJ yp Y y z (w.alloc (deskC d)) W → ∃ tp : Nat, W.cell? ⟨yp, 5, none⟩ = some (.pointer (some ⟨tp, 0, none⟩)) ∧ Calls Tryz.prog 215 #[.pointer (some ⟨tp, 0, none⟩)] W fun e w' => e = .returned (.tuple #[]) ∧ YDidJ yp Y y { z with top := z.top.flushed } (w.alloc (deskC d)) w') := fun z W ⟨Y1, e1, h1, h2⟩ =>
    ⟨Y1.tp.p, h1.blk.cells.2.1, (ytop_flush W h1).mono fun e w' ⟨h3, h4⟩ => ⟨h3, YDidJ.trans e1 h2 h4⟩⟩
  have HSR : Hid (∀ z : YV, ∀ W : World, YDidJ yp Y y z (w.alloc (deskC d)) W → (∃ r, W.cell? ⟨yp, 11, none⟩ = some (.int .i64 r)) ∧ W.frozen? ⟨yp, 11, none⟩ = false ∧ YDidJ yp Y y { z with kd := d } w (W.setCell ⟨yp, 11, none⟩ (.int .i64 d.root))) := fun z W ⟨Y1, e1, h1, h2⟩ => by
    obtain ⟨_, _, _, q3, _, q5⟩ := h1.blk.cells
    obtain ⟨h3, h4⟩ := h1.setRoot d
    exact ⟨⟨_, q3⟩, q5 11, Y1, e1, h3, (Moved.of_below HB0.out).trans (h2.trans h4)⟩
  have HBX : Hid (∀ z : YV, ∀ W : World, YDidJ yp Y y z (w.alloc (deskC d)) W → W.cell? ⟨w.heap.size, 0, none⟩ = some (.int .i64 d.root)) := fun z W ⟨Y1, _, _, h2⟩ => by
    have hk := h2.block (k := w.heap.size) (by simp) (fun e => by have := h.fp_lt e; omega)
    rw [heap_alloc_new] at hk
    unfold deskC at hk
    rw [cell_of_row _ _ _ _ _ _ hk]; rfl
  have HED : Hid (∀ z : YV, ∀ W : World, YDidJ yp Y y z (w.alloc (deskC d)) W → YDidJ yp Y y z w W) := fun z W hd => YDidJ.from HB0.out hd
  unfold YV.desk YV.deskF
  clear h hY hm hd h1
  generalize y.top.putF = F at HWR ⊢
  unfold deskC at HDK HWR HF1 HSR HBX HED
  by_cases hF : F = 0
  · rw [if_pos hF, hF, erV_0]
    rw [hF, erV_0] at HWR
    go_enter Tryz.func102, Tryz.ntmps102
    go_wp2_with fail
    refine HDK.out.mono ?_
    rintro e w1 ⟨rfl, hb1⟩
    obtain ⟨c5, hw⟩ := HWR.out w1 hb1
    have HW := toHid hw
    clear hw hb1 HWR HDK
    go_wp2_with fail
    refine HW.out.mono ?_
    rintro e w2 ⟨rfl, hd2⟩
    obtain ⟨tp, c5', hf⟩ := HF1.out _ _ hd2
    have HF := toHid hf
    clear hf hd2 HW HF1
    go_wp2_with fail
    refine HF.out.mono ?_
    rintro e w3 ⟨rfl, hd3⟩
    have q0 := HBX.out _ _ hd3
    obtain ⟨⟨r, q1⟩, q2, hd4⟩ := HSR.out _ _ hd3
    have HD := toHid hd4
    clear hd3 hd4 HF HSR HBX
    go_wp2
    go_ret
    exact ⟨rfl, HD.out⟩
  · rw [if_neg hF]
    rw [erV_some hF] at HWR ⊢
    go_enter Tryz.func102, Tryz.ntmps102
    go_wp2_with fail
    refine HDK.out.mono ?_
    rintro e w1 ⟨rfl, hb1⟩
    obtain ⟨c5, hw⟩ := HWR.out w1 hb1
    have HW := toHid hw
    clear hw hb1 HWR HDK
    go_wp2_with fail
    refine HW.out.mono ?_
    rintro e w2 ⟨rfl, hd2⟩
    have HD := toHid (HED.out _ _ hd2)
    clear hd2 HW
    go_wp2
    go_ret
    exact ⟨rfl, HD.out⟩

set_option maxRecDepth 100000 in
set_option maxHeartbeats 1000000 in
theorem yidle_any (r : Int) (w : World) : Calls Tryz.prog 103 #[.int .i64 r] w fun e w' => e = .returned (.agg #[.int .i64 (bareK r).root, .int .i64 (bareK r).kind, .int .i64 (bareK r).file, .int .i64 (bareK r).rate, .int .i64 (bareK r).burst]) ∧ Below w.heap.size w w' := by
  go_enter Tryz.func103, Tryz.ntmps103
  go_wp2
  exact bodyPost_ret (v := .agg #[.int .i64 r, .int .i64 0, .int .i64 (-1), .int .i64 0, .int .i64 0]) (by simp [results, Tryz.results103, go_sem]) rfl ⟨rfl, (Below.refl _ _).alloc (Nat.le_refl _) _⟩
end Go.Proofs.YtonhoahnieoebabGreatDoor

namespace Go.Proofs.YtonhoahnieoebabGreatDoor
open Go.RowKit Go.Maps
attribute [local go_sem ↓] Go.wp_at_zero Go.wp_at_succ

theorem yj_end {yp m C : Nat} {Y : Yh} {y : YV} {j : JV} (well : Bool) (w : World) (h : IsYard w yp Y y) (hs : y.s.ok m) (hj : y.j = some j) (hok : JOk y.s C j) :
    Calls Tryz.prog 95 #[.pointer (some ⟨Y.jb.jp, 0, none⟩), .bool well] w fun e w' => e = .returned (.tuple #[]) ∧ YDidJ yp Y y { y with j := some (endJ j well) } w w' :=
  (end_any well w (h.pjOf hs hj hok)).mono fun _ _ ⟨h1, h2⟩ => ⟨h1, h.pdid hj (Below.refl _ _) h2 rfl⟩
theorem yj_pause {yp m C : Nat} {Y : Yh} {y : YV} {j : JV} (on : Bool) (w : World) (h : IsYard w yp Y y) (hs : y.s.ok m) (hj : y.j = some j) (hok : JOk y.s C j) :
    Calls Tryz.prog 81 #[.pointer (some ⟨Y.jb.jp, 0, none⟩), .bool on] w fun e w' => e = .returned (erV (pauseF j on)) ∧ YDidJ yp Y y { y with j := some (pauseJ j on) } w w' :=
  (pause_any on w (h.pjOf hs hj hok)).mono fun _ _ ⟨h1, h2⟩ => ⟨h1, h.pdid hj (Below.refl _ _) h2 (pauseJ_is j on).1⟩
theorem yj_tick {yp m C : Nat} {Y : Yh} {y : YV} {j : JV} (n : Int) (w : World) (h : IsYard w yp Y y) (hs : y.s.ok m) (hj : y.j = some j) (hok : JOk y.s C j) :
    Calls Tryz.prog 91 #[.pointer (some ⟨Y.jb.jp, 0, none⟩), .int .i64 n] w fun e w' => e = .returned (erV (if S4.inB n 100000 = true then 0 else 1)) ∧ YDidJ yp Y y { y with j := some (tickJ j n) } w w' :=
  (jtick_any n w (h.pjOf hs hj hok)).mono fun _ _ ⟨h1, h2⟩ => ⟨h1, h.pdid hj (Below.refl _ _) h2 (tickJ_is j n).1⟩
theorem yj_settle {yp m C : Nat} {Y : Yh} {y : YV} {j : JV} (w : World) (h : IsYard w yp Y y) (hs : y.s.ok m) (hj : y.j = some j) (hok : JOk y.s C j) (hm : m + 10 < 1000000000) :
    Calls Tryz.prog 93 #[.pointer (some ⟨Y.jb.jp, 0, none⟩)] w fun e w' => e = .returned (erV (settleF y.s j)) ∧ YDidJ yp Y y { y with s := settleS y.s j, j := some (settleJ y.s j) } w w' :=
  (jsettle_any w (h.pjOf hs hj hok) hm).mono fun _ _ ⟨h1, h2⟩ => ⟨h1, h.pdid hj (Below.refl _ _) h2 (settleJ_is y.s j).1⟩
theorem yj_step {yp m C : Nat} {Y : Yh} {y : YV} {j : JV} (w : World) (h : IsYard w yp Y y) (hs : y.s.ok m) (hj : y.j = some j) (hok : JOk y.s C j) (hT : S4.Tab w) (hm : m + 10 < 1000000000) :
    Calls Tryz.prog 82 #[.pointer (some ⟨Y.jb.jp, 0, none⟩)] w fun e w' => e = .returned (.tuple #[.bool (stepB y.s j), erV (stepF y.s j)]) ∧ YDidJ yp Y y { y with s := stepS y.s j, j := some (stepJ y.s j) } w w' :=
  (jstep_any w (h.pjOf hs hj hok) hT hm).mono fun _ _ ⟨h1, h2⟩ => ⟨h1, h.pdid hj (Below.refl _ _) h2 (stepJ_is y.s j).1⟩

/- No job goes. -/
theorem goV_no {b : Jh} {y : YV} (h : y.busy ≠ true) : goV b y = .pointer none := by unfold goV; rw [if_neg h]
theorem goV_yes {b : Jh} {y : YV} (h : y.busy = true) : goV b y = .pointer (some ⟨b.jp, 0, none⟩) := by unfold goV; rw [if_pos h]

set_option maxRecDepth 100000 in
set_option maxHeartbeats 1000000 in
theorem ypause_any {yp C m : Nat} {Y : Yh} {y : YV} (on : Bool) (w : World) (h : IsYard w yp Y y) (hY : YOk y C m) :
    Calls Tryz.prog 121 #[.pointer (some ⟨yp, 0, none⟩), .bool on] w fun e w' => e = .returned (erV (y.pauseF on)) ∧ YDidJ yp Y y (y.pause on) w w' := by
  have HG := toHid (ygoes_any w h)
  have HD0 : Hid (YDidJ yp Y y y w w) := YDidJ.refl h
  by_cases hb : y.busy = true
  · obtain ⟨j, hj, hg⟩ := busy_of hb
    rw [goV_yes hb] at HG
    have e1 : y.pauseF on = pauseF j on := by unfold YV.pauseF; rw [hj]; show (if 4 ≤ j.stage then _ else _) = _; rw [if_neg (by omega)]
    have e2 : y.pause on = { y with j := some (pauseJ j on) } := by unfold YV.pause; rw [if_pos hb, hj]; rfl
    have HP := toHid (yj_pause on w h hY.s hj (hY.job j hj hg).ok)
    rw [e1, e2]
    clear h hY hb hj hg e1 e2 HD0
    go_enter Tryz.func121, Tryz.ntmps121
    go_wp2_with fail
    refine HG.out.mono ?_
    rintro e w' ⟨rfl, hw⟩
    have hw' := hw.symm
    subst hw'
    clear hw HG
    go_wp2_with fail
    refine HP.out.mono ?_
    rintro e w1 ⟨rfl, hd⟩
    have HD := toHid hd
    clear hd HP
    go_wp2
    go_ret
    exact ⟨rfl, HD.out⟩
  · rw [goV_no hb] at HG
    have e1 : y.pauseF on = 4 := by
      unfold YV.pauseF
      cases hj : y.j with
      | none => rfl
      | some j => show (if 4 ≤ j.stage then _ else _) = _; rw [if_pos (busy_no hb j hj)]
    have e2 : y.pause on = y := by unfold YV.pause; rw [if_neg hb]
    rw [e1, e2, erV_some (by decide)]
    clear h hY hb e1 e2
    go_enter Tryz.func121, Tryz.ntmps121
    go_wp2_with fail
    refine HG.out.mono ?_
    rintro e w' ⟨rfl, hw⟩
    have hw' := hw.symm
    subst hw'
    clear hw HG
    go_wp2
    go_ret
    exact ⟨rfl, HD0.out⟩

set_option maxRecDepth 100000 in
set_option maxHeartbeats 1000000 in
theorem ytick_any {yp C m : Nat} {Y : Yh} {y : YV} (n : Int) (w : World) (h : IsYard w yp Y y) (hY : YOk y C m) :
    Calls Tryz.prog 123 #[.pointer (some ⟨yp, 0, none⟩), .int .i64 n] w fun e w' => e = .returned (erV (YV.tickF n)) ∧ YDidJ yp Y y (y.tick n) w w' := by
  have HG := toHid (ygoes_any w h)
  have HD0 : Hid (YDidJ yp Y y y w w) := YDidJ.refl h
  unfold YV.tickF
  cases hn : S4.inB n 100000 with
  | false =>
    have e2 : y.tick n = y := by
      unfold YV.tick
      split
      · cases hj : y.j with
        | none =>
          show ({ y with j := none } : YV) = y
          rw [← hj]
        | some j =>
          show ({ y with j := some (tickJ j n) } : YV) = y
          rw [show tickJ j n = j by unfold tickJ; rw [if_neg (by rw [hn]; decide)], ← hj]
      · rfl
    rw [e2, if_neg (by decide), erV_1]
    clear h hY e2 HG
    have hx : n < 0 ∨ 100000 < n := by unfold S4.inB at hn; simp at hn; omega
    by_cases h0 : n < 0
    · have g0 : decide (n < 0) = true := decide_eq_true h0
      go_enter Tryz.func123, Tryz.ntmps123
      go_wp2
      go_ret
      exact ⟨rfl, HD0.out⟩
    · have g0 : decide (n < 0) = false := decide_eq_false h0
      have g1 : decide (100000 < n) = true := decide_eq_true (by omega)
      go_enter Tryz.func123, Tryz.ntmps123
      go_wp2
      go_ret
      exact ⟨rfl, HD0.out⟩
  | true =>
    have hx : 0 ≤ n ∧ n ≤ 100000 := by unfold S4.inB at hn; simp at hn; omega
    have g0 : decide (n < 0) = false := decide_eq_false (by omega)
    have g1 : decide (100000 < n) = false := decide_eq_false (by omega)
    rw [if_pos rfl, erV_0]
    by_cases hb : y.busy = true
    · obtain ⟨j, hj, hg⟩ := busy_of hb
      rw [goV_yes hb] at HG
      have e2 : y.tick n = { y with j := some (tickJ j n) } := by unfold YV.tick; rw [if_pos hb, hj]; rfl
      have HP := toHid (yj_tick n w h hY.s hj (hY.job j hj hg).ok)
      rw [hn, if_pos rfl, erV_0] at HP
      rw [e2]
      clear h hY hb hj hg e2 HD0 hn
      go_enter Tryz.func123, Tryz.ntmps123
      go_wp2_with fail
      refine HG.out.mono ?_
      rintro e w' ⟨rfl, hw⟩
      have hw' := hw.symm
      subst hw'
      clear hw HG
      go_wp2_with fail
      refine HP.out.mono ?_
      rintro e w1 ⟨rfl, hd⟩
      have HD := toHid hd
      clear hd HP
      go_wp2
      go_ret
      exact ⟨rfl, HD.out⟩
    · rw [goV_no hb] at HG
      have e2 : y.tick n = y := by unfold YV.tick; rw [if_neg hb]
      rw [e2]
      clear h hY hb e2 hn
      go_enter Tryz.func123, Tryz.ntmps123
      go_wp2_with fail
      refine HG.out.mono ?_
      rintro e w' ⟨rfl, hw⟩
      have hw' := hw.symm
      subst hw'
      clear hw HG
      go_wp2
      go_ret
      exact ⟨rfl, HD0.out⟩

set_option maxRecDepth 100000 in
set_option maxHeartbeats 1000000 in
theorem ycancel_any {yp C m : Nat} {Y : Yh} {y : YV} (w : World) (h : IsYard w yp Y y) (hY : YOk y C m) (hm : m < 1000000000) :
    Calls Tryz.prog 52 #[.pointer (some ⟨yp, 0, none⟩)] w fun e w' => e = .returned (erV y.cancelF) ∧ YDidJ yp Y y y.cancel w w' := by
  have HG := toHid (ygoes_any w h)
  have HD0 : Hid (YDidJ yp Y y y w w) := YDidJ.refl h
  unfold YV.cancel YV.cancelF
  by_cases hb : y.busy = true
  · obtain ⟨j, hj, hg⟩ := busy_of hb
    rw [goV_yes hb] at HG
    rw [if_pos hb, if_pos hb]
    obtain ⟨c0, c5, c6, c11, c12, fz⟩ := h.blk.cells
    have hr := hY.root
    have HID := toHid (yidle_any y.kd.root w)
    have HDK : Hid (∀ W : World, Below w.heap.size w W → Calls Tryz.prog 102 #[.pointer (some ⟨yp, 0, none⟩), .agg #[.int .i64 (bareK y.kd.root).root, .int .i64 (bareK y.kd.root).kind, .int .i64 (bareK y.kd.root).file, .int .i64 (bareK y.kd.root).rate, .int .i64 (bareK y.kd.root).burst]] W fun e w' => e = .returned (erV y.deskF) ∧ YDidJ yp Y y (y.desk (bareK y.kd.root)) w w') := fun W hb => (ydesk_any (bareK y.kd.root) W (h.below hb) hY.top (bareK_fault hr.1 hr.2) hm).mono fun e w' ⟨h1, h2⟩ => ⟨h1, YDidJ.from hb h2⟩
    obtain ⟨s1, s2, s3, s4⟩ := ydesk_s y (bareK y.kd.root)
    have HE : Hid (∀ W : World, y.deskF = 0 → YDidJ yp Y y (y.desk (bareK y.kd.root)) w W → Calls Tryz.prog 95 #[.pointer (some ⟨Y.jb.jp, 0, none⟩), .bool false] W fun e w' => e = .returned (.tuple #[]) ∧ YDidJ yp Y y (y.over y.kd.root 5) w w') := fun W h0 ⟨Y1, e1, h1, h2⟩ => by
      rw [← e1]
      refine (yj_end false W h1 (by rw [s1]; exact hY.s) (s4.trans hj) (by rw [s1]; exact (hY.job j hj hg).ok)).mono ?_
      rintro e w' ⟨rfl, hd⟩
      refine ⟨rfl, YDidJ.trans e1 h2 ?_⟩
      have e2 : y.over y.kd.root 5 = { y.desk (bareK y.kd.root) with j := some (endJ j false) } := by
        unfold YV.over
        rw [if_pos h0, hY.ch.walk, hj]
        show ({ y.desk (bareK y.kd.root) with j := some (j.at 5), l := y.l } : YV) = _
        rw [← s3]; rfl
      rw [e2]; exact hd
    have HO : Hid (y.deskF ≠ 0 → y.over y.kd.root 5 = y.desk (bareK y.kd.root)) := fun h0 => by unfold YV.over; rw [if_neg h0]
    clear h hY hb hj hg HD0 c0 c5 c6 c12 fz hr s1 s2 s3 s4
    generalize y.over y.kd.root 5 = z at HE HO ⊢
    generalize y.desk (bareK y.kd.root) = z1 at HDK HE HO
    generalize y.deskF = F at HDK HE HO ⊢
    by_cases hF : F = 0
    · rw [hF, erV_0] at HDK
      rw [hF, erV_0]
      have HE1 := toHid (fun W hd => HE.out W hF hd)
      clear HE HO hF
      go_enter Tryz.func52, Tryz.ntmps52
      go_wp2_with fail
      refine HG.out.mono ?_
      rintro e w' ⟨rfl, hw⟩
      have hw' := hw.symm
      subst hw'
      clear hw HG
      go_wp2_with fail
      refine HID.out.mono ?_
      rintro e w1 ⟨rfl, hb1⟩
      have HK := toHid (HDK.out w1 hb1)
      clear hb1 HID HDK
      go_wp2_with fail
      refine HK.out.mono ?_
      rintro e w2 ⟨rfl, hd2⟩
      have HE2 := toHid (HE1.out _ hd2)
      clear hd2 HK HE1
      go_wp2_with fail
      refine HE2.out.mono ?_
      rintro e w3 ⟨rfl, hd3⟩
      have HD := toHid hd3
      clear hd3 HE2
      go_wp2
      go_ret
      exact ⟨rfl, HD.out⟩
    · rw [HO.out hF]
      rw [erV_some hF] at HDK ⊢
      clear HE HO
      go_enter Tryz.func52, Tryz.ntmps52
      go_wp2_with fail
      refine HG.out.mono ?_
      rintro e w' ⟨rfl, hw⟩
      have hw' := hw.symm
      subst hw'
      clear hw HG
      go_wp2_with fail
      refine HID.out.mono ?_
      rintro e w1 ⟨rfl, hb1⟩
      have HK := toHid (HDK.out w1 hb1)
      clear hb1 HID HDK
      go_wp2_with fail
      refine HK.out.mono ?_
      rintro e w2 ⟨rfl, hd2⟩
      have HD := toHid hd2
      clear hd2 HK
      go_wp2
      go_ret
      exact ⟨rfl, HD.out⟩
  · rw [goV_no hb] at HG
    rw [if_neg hb, if_neg hb, erV_some (by decide)]
    clear h hY hb
    go_enter Tryz.func52, Tryz.ntmps52
    go_wp2_with fail
    refine HG.out.mono ?_
    rintro e w' ⟨rfl, hw⟩
    have hw' := hw.symm
    subst hw'
    clear hw HG
    go_wp2
    go_ret
    exact ⟨rfl, HD0.out⟩
end Go.Proofs.YtonhoahnieoebabGreatDoor
