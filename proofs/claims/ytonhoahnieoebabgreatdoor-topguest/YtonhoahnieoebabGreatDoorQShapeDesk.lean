/-
A range of sectors is dirty, sector by sector and cluster by cluster: the same.
What the small calls on a yard give: the job that goes, the chain, how many sectors, what is read, how the last job stands.
An act on a yard's files, and one of its job, as acts on the yard.
Desks (C3): what may be, in the program and in the document's answer.
-/
import Derived.Test.YtonhoahnieoebabGreatDoorQYardOk2
import Derived.Test.YtonhoahnieoebabGreatDoorQYardMem2
import Derived.Test.YtonhoahnieoebabGreatDoorQShapeEnt
namespace Go.Proofs.YtonhoahnieoebabGreatDoor
open Go.RowKit

theorem putV_twice (n x : Nat) (i : Int) : S4.putV n (S4.putV n x i true) i true = S4.putV n x i true := by
  refine Nat.eq_of_testBit_eq fun j => ?_
  rw [S4.putV_bit, S4.putV_bit]
  split
  · rfl
  · rfl
theorem dirtyJ_twice (j : JV) (c : Int) : dirtyJ (dirtyJ j c) c = dirtyJ j c := by
  by_cases h : j.kind = 2 ∨ 4 ≤ j.stage
  · have e : dirtyJ j c = j := by unfold dirtyJ; rw [if_pos h]
    rw [e, e]
  · have e : dirtyJ j c = j.put (S4.putV j.n j.x c true) := by unfold dirtyJ; rw [if_neg h]
    rw [e]
    unfold dirtyJ
    rw [if_neg (show ¬ ((j.put (S4.putV j.n j.x c true)).kind = 2 ∨ 4 ≤ (j.put (S4.putV j.n j.x c true)).stage) from h)]
    show { j with x := _ } = { j with x := _ }
    congr 1
    exact putV_twice _ _ _

/- So many clusters, from one on. -/
def dirtyC (j : JV) (c0 : Nat) : Nat → JV
  | 0 => j
  | k + 1 => dirtyJ (dirtyC j c0 k) ((c0 + k : Nat) : Int)

theorem dirtyTo_C (j : JV) (fr : Nat) : ∀ n, dirtyTo j fr (n + 1) = dirtyC j (fr / 4) ((fr + n) / 4 - fr / 4 + 1) := by
  intro n
  induction n with
  | zero =>
    show dirtyJ j (((fr + 0) / 4 : Nat) : Int) = _
    rw [Nat.add_zero, Nat.sub_self]
    show _ = dirtyJ j ((fr / 4 + 0 : Nat) : Int)
    rw [Nat.add_zero]
  | succ n ih =>
    show dirtyJ (dirtyTo j fr (n + 1)) (((fr + (n + 1)) / 4 : Nat) : Int) = _
    rw [ih]
    have h0 : fr / 4 ≤ (fr + n) / 4 := Nat.div_le_div_right (by omega)
    by_cases h : (fr + (n + 1)) / 4 = (fr + n) / 4
    · rw [h]
      show dirtyJ (dirtyJ (dirtyC j (fr / 4) ((fr + n) / 4 - fr / 4)) ((fr / 4 + ((fr + n) / 4 - fr / 4) : Nat) : Int)) _ = dirtyJ (dirtyC j (fr / 4) ((fr + n) / 4 - fr / 4)) ((fr / 4 + ((fr + n) / 4 - fr / 4) : Nat) : Int)
      rw [show fr / 4 + ((fr + n) / 4 - fr / 4) = (fr + n) / 4 by omega, dirtyJ_twice]
    · have e : (fr + (n + 1)) / 4 = (fr + n) / 4 + 1 := by omega
      rw [e, show (fr + n) / 4 + 1 - fr / 4 = ((fr + n) / 4 - fr / 4) + 1 by omega]
      show _ = dirtyJ (dirtyC j (fr / 4) ((fr + n) / 4 - fr / 4 + 1)) ((fr / 4 + ((fr + n) / 4 - fr / 4 + 1) : Nat) : Int)
      rw [show fr / 4 + ((fr + n) / 4 - fr / 4 + 1) = (fr + n) / 4 + 1 by omega]

theorem dirtyTo_over {j : JV} (h : 4 ≤ j.stage) (fr : Nat) : ∀ n, dirtyTo j fr n = j := by
  intro n
  induction n with
  | zero => rfl
  | succ n ih =>
    show dirtyJ (dirtyTo j fr n) _ = j
    rw [ih]
    unfold dirtyJ
    rw [if_pos (.inr h)]
end Go.Proofs.YtonhoahnieoebabGreatDoor

namespace Go.Proofs.YtonhoahnieoebabGreatDoor
open Go.RowKit Go.Maps
attribute [local go_sem ↓] Go.wp_at_zero Go.wp_at_succ

def goV (b : Jh) (y : YV) : Value := if y.busy = true then .pointer (some ⟨b.jp, 0, none⟩) else .pointer none

set_option maxRecDepth 100000 in
set_option maxHeartbeats 1000000 in
theorem ygoes_any {yp : Nat} {Y : Yh} {y : YV} (w : World) (h : IsYard w yp Y y) :
    Calls Tryz.prog 146 #[.pointer (some ⟨yp, 0, none⟩)] w fun e w' => e = .returned (goV Y.jb y) ∧ w' = w := by
  obtain ⟨c0, c5, c6, c11, c12, fz⟩ := h.blk.cells
  unfold goV YV.busy
  cases hj : y.j with
  | none =>
    rw [hj] at c12
    unfold jptr at c12
    clear h c0 c5 c6 c11 fz hj
    go_enter Tryz.func146, Tryz.ntmps146
    go_wp2
    go_ret
    exact ⟨rfl, rfl⟩
  | some j =>
    have HG := toHid (goes_any w (h.job j hj).1)
    rw [hj] at c12
    unfold jptr at c12
    clear h c0 c5 c6 c11 fz hj
    by_cases hg : j.stage < 4
    · have e1 : decide (j.stage < 4) = true := decide_eq_true hg
      show Calls _ _ _ _ fun e w' => e = .returned (if decide (j.stage < 4) = true then _ else _) ∧ _
      rw [e1] at HG ⊢
      rw [if_pos rfl]
      clear e1 hg
      go_enter Tryz.func146, Tryz.ntmps146
      go_wp2_with fail
      refine HG.out.mono ?_
      rintro e w' ⟨rfl, hw⟩
      have hw' := hw.symm
      subst hw'
      clear hw
      go_wp2
      go_ret
      exact ⟨rfl, rfl⟩
    · have e1 : decide (j.stage < 4) = false := decide_eq_false hg
      show Calls _ _ _ _ fun e w' => e = .returned (if decide (j.stage < 4) = true then _ else _) ∧ _
      rw [e1] at HG ⊢
      rw [if_neg (by decide)]
      clear e1 hg
      go_enter Tryz.func146, Tryz.ntmps146
      go_wp2_with fail
      refine HG.out.mono ?_
      rintro e w' ⟨rfl, hw⟩
      have hw' := hw.symm
      subst hw'
      clear hw
      go_wp2
      go_ret
      exact ⟨rfl, rfl⟩

set_option maxRecDepth 100000 in
set_option maxHeartbeats 1000000 in
theorem ylist_any {yp C m : Nat} {Y : Yh} {y : YV} (w : World) (h : IsYard w yp Y y) (hY : YOk y C m) :
    Calls Tryz.prog 143 #[.pointer (some ⟨yp, 0, none⟩)] w fun e w' =>
      ∃ (g o cap : Nat), e = .returned (.slice (some ⟨g, o, none⟩) y.l.length cap) ∧ Nums w' (some ⟨g, o, none⟩) y.l ∧ w.heap.size ≤ g ∧ g < w'.heap.size ∧ y.l.length ≤ cap ∧ Below w.heap.size w w' := by
  obtain ⟨c0, c5, c6, c11, c12, fz⟩ := h.blk.cells
  have HW : Hid (∀ W : World, Below w.heap.size w W → Calls Tryz.prog 15 #[.pointer (some ⟨yp, 6, none⟩), .int .i64 y.kd.root] W fun e w' => ∃ (g o cap : Nat), e = .returned (.tuple #[.slice (some ⟨g, o, none⟩) y.l.length cap, .nilIface]) ∧ Nums w' (some ⟨g, o, none⟩) y.l ∧ w.heap.size ≤ g ∧ g < w'.heap.size ∧ y.l.length ≤ cap ∧ Below w.heap.size w w' ∧ w'.cell? ⟨yp, 11, none⟩ = some (.int .i64 y.kd.root)) := fun W hb => by
    have := cwalk_any y.kd.root W ((h.shelf hY.s).below hb)
    rw [hY.ch.walk, erV_0] at this
    refine this.mono ?_
    rintro e w' ⟨a, cap, rfl, h1, h2, h3⟩
    obtain ⟨g, o, ha, _⟩ := h1 0 (List.length_pos_iff.2 hY.ch.ne)
    subst ha
    obtain ⟨h4, h5, h6⟩ := h2 g o rfl
    have hb2 := hb.trans (h3.mono hb.size)
    exact ⟨g, o, cap, rfl, h1, Nat.le_trans hb.size h4, h5, h6, hb2, (h.below hb2).blk.cells.2.2.2.1⟩
  clear h c0 c5 c6 c12 fz hY
  generalize y.kd.root = r at c11 HW
  generalize y.l = l at HW ⊢
  have d11 : w.drew.cell? ⟨yp, 11, none⟩ = some (.int .i64 r) := c11
  have HBD : Hid (Below w.heap.size w w.drew) := (Below.refl _ _).drew
  go_enter Tryz.func143, Tryz.ntmps143
  go_wp2
  go_region_held3 (fun W => W.cell? ⟨yp, 11, none⟩ = some (.int .i64 r))
    (first | (exact d11) | assumption)
    (first
      | (go_at_call 15; refine (HW.out _ HBD.out).mono ?_; rintro e w1 ⟨g, o, cap, rfl, h1, h2, h3, h4, h5, hS1⟩; have H1 := toHid h1; have H5 := toHid h5; clear h1 h5))
  clear hS1
  go_wp2
  go_ret
  exact ⟨g, o, cap, rfl, H1.out, h2, h3, h4, H5.out⟩

set_option maxRecDepth 100000 in
set_option maxHeartbeats 1000000 in
theorem ysectors_any {yp C m : Nat} {Y : Yh} {y : YV} (w : World) (h : IsYard w yp Y y) (hY : YOk y C m) :
    Calls Tryz.prog 44 #[.pointer (some ⟨yp, 0, none⟩)] w fun e w' => e = .returned (.int .i64 ((4 * C : Nat) : Int)) ∧ Below w.heap.size w w' := by
  obtain ⟨c0, c5, c6, c11, c12, fz⟩ := h.blk.cells
  obtain ⟨v, hv, hc⟩ := hY.ch.root
  obtain ⟨r0, r5, hv2⟩ := SV.file_of hv
  obtain ⟨k, hk⟩ : ∃ k : Nat, y.kd.root = (k : Int) := ⟨y.kd.root.toNat, by omega⟩
  rw [hk] at c11 hv2 r5 r0
  have hkn : ((k : Int)).toNat = k := by omega
  rw [hkn] at hv2
  have hcell := c6 k (by omega)
  have HH : Hid (∀ W : World, Below w.heap.size w W → Calls Tryz.prog 67 #[.pointer (some ⟨(Y.xs k).p, 0, none⟩)] W fun e w' => e = .returned (.agg #[.int .i64 v.h.c, .int .i64 v.h.p, .int .i64 v.h.b]) ∧ Below w.heap.size w w' ∧ w'.cell? ⟨yp, 11, none⟩ = some (.int .i64 (k : Int)) ∧ w'.cell? ⟨yp, 6 + k, none⟩ = some (.pointer (some ⟨(Y.xs k).p, 0, none⟩))) := fun W hb => (head_img W ((h.img k v (by omega) hv2).below hb)).mono fun e w' ⟨h1, h2⟩ => by
    have hb2 := hb.trans (h2.mono hb.size)
    obtain ⟨_, _, q6, q11, _, _⟩ := (h.below hb2).blk.cells
    refine ⟨h1, hb2, by rw [← hk]; exact q11, ?_⟩
    have := q6 k (by omega)
    rw [hv2] at this; exact this
  have hC : v.h.c ≤ 32 := by
    have := (hY.s k v hv2).h
    have := HV.of_ok this
    omega
  rw [hv2] at hcell
  unfold ptrO at hcell
  rw [hc] at HH hC
  have f1 := field_c (C : Int) v.h.p v.h.b
  have k0 : (0 : Int) ≤ (k : Int) := r0
  have k5 : (k : Int) < 5 := by omega
  clear h hY c0 c5 c6 c12 fz hv hv2 hk hc
  generalize (Y.xs k).p = xp at HH hcell
  generalize v.h.p = p1 at HH f1
  generalize v.h.b = b1 at HH f1
  have k1 : IntKind.i64.wrap (4 * (C : Int)) = 4 * (C : Int) := IntWalk.i64_in _ (by omega)
  have d11 : w.drew.cell? ⟨yp, 11, none⟩ = some (.int .i64 (k : Int)) := c11
  have d6 : w.drew.cell? ⟨yp, 6 + k, none⟩ = some (.pointer (some ⟨xp, 0, none⟩)) := hcell
  have HBD : Hid (Below w.heap.size w w.drew) := (Below.refl _ _).drew
  go_enter Tryz.func44, Tryz.ntmps44
  go_wp2
  go_region_held3 (fun W => W.cell? ⟨yp, 11, none⟩ = some (.int .i64 (k : Int)) ∧ W.cell? ⟨yp, 6 + k, none⟩ = some (.pointer (some ⟨xp, 0, none⟩)))
    (first | (exact ⟨d11, d6⟩) | assumption)
    (first
      | (go_at_call 67; refine (HH.out _ HBD.out).mono ?_; rintro e w1 ⟨rfl, hb1, hS1⟩; have HB1 := toHid hb1; clear hb1))
  clear hS1
  go_wp2
  go_ret
  exact ⟨ret_i (by omega), HB1.out⟩

set_option maxRecDepth 100000 in
set_option maxHeartbeats 1000000 in
theorem yread_any {yp C m : Nat} {Y : Yh} {y : YV} (fr n : Int) (w : World) (h : IsYard w yp Y y) (hY : YOk y C m) (hC : C ≤ 40) (hfr : -9223372036854775808 ≤ fr ∧ fr ≤ 9223372036854775807) :
    Calls Tryz.prog 43 #[.pointer (some ⟨yp, 0, none⟩), .int .i64 fr, .int .i64 n] w fun e w' => e = .returned (.tuple #[.string (y.s.getS y.l fr n), erV (y.s.chkF y.l fr n)]) ∧ Below w.heap.size w w' := by
  have HW : Hid (∀ W : World, Below w.heap.size w W → Calls Tryz.prog 143 #[.pointer (some ⟨yp, 0, none⟩)] W fun e w' => ∃ (g o cap : Nat), e = .returned (.slice (some ⟨g, o, none⟩) y.l.length cap) ∧ Nums w' (some ⟨g, o, none⟩) y.l ∧ Below w.heap.size w w') := fun W hb => (ylist_any W (h.below hb) hY).mono fun e w' ⟨g, o, cap, h1, h2, _, _, _, h6⟩ => ⟨g, o, cap, h1, h2, hb.trans (h6.mono hb.size)⟩
  have HG : Hid (∀ (W : World) (a : Option Addr) (cap : Nat), Below w.heap.size w W → Nums W a y.l → Calls Tryz.prog 73 #[.pointer (some ⟨yp, 6, none⟩), .slice a y.l.length cap, .int .i64 fr, .int .i64 n] W fun e w' => e = .returned (.tuple #[.string (y.s.getS y.l fr n), erV (y.s.chkF y.l fr n)]) ∧ Below w.heap.size w w') := fun W a cap hb hn =>
    (cget_any y.l fr n W ((h.shelf hY.s).below hb) hn hY.ch.good (by have := hY.ch.len; omega) hC hfr).mono fun e w' ⟨h1, h2⟩ => ⟨h1, hb.trans (h2.mono hb.size)⟩
  clear h hY
  generalize y.s.getS y.l fr n = T at HG ⊢
  generalize erV (y.s.chkF y.l fr n) = E at HG ⊢
  generalize y.l = l at HW HG
  have HBD : Hid (Below w.heap.size w w.drew) := (Below.refl _ _).drew
  go_enter Tryz.func43, Tryz.ntmps43
  go_wp2
  go_region_held3 (fun _ => True)
    (first | trivial | assumption)
    (first
      | (go_at_call 143; refine (HW.out _ HBD.out).mono ?_; rintro e w1 ⟨g, o, cap, rfl, h1, h5⟩; have HC := toHid (HG.out w1 _ cap h5 h1); clear h1 h5; have hS1 := True.intro)
      | (go_at_call 73; refine HC.out.mono ?_; rintro e w2 ⟨rfl, hb2⟩; have HB2 := toHid hb2; clear hb2; have hS2 := True.intro))
  go_wp2
  go_ret2
  exact ⟨rfl, HB2.out⟩
end Go.Proofs.YtonhoahnieoebabGreatDoor

namespace Go.Proofs.YtonhoahnieoebabGreatDoor
open Go.RowKit Go.Maps

theorem IsYard.shelved {w w1 w' : World} {yp m' : Nat} {Y : Yh} {y : YV} {z : SV} {xs' : Nat → Ih} (h : IsYard w yp Y y) (hb : Below w.heap.size w w1) (hs : IsShelf w' yp xs' z m') (hm : Moved (fpS Y.xs y.s) w1 (fpS xs' z) w') :
    IsYard w' yp { Y with xs := xs' } { y with s := z } ∧ Moved (fpY yp Y y) w (fpY yp { Y with xs := xs' } { y with s := z }) w' := by
  have h1 := h.below hb
  obtain ⟨h2, h3⟩ := h1.acted (j' := y.j) hs hm (fun k hk => .inl hk) (fun k hk => by
    rcases hk with hk | hk
    · exact .inl hk
    · exact .inr ⟨h1.fp_lt (.inr (.inr (.inr hk))), .inr hk⟩) Iff.rfl (fun a ha => ⟨a, ha, rfl, by
    obtain ⟨h4, _⟩ := h1.job a ha
    have hn : y.j ≠ none := by rw [ha]; intro e; cases e
    have hJ : ∀ k, k = Y.jb.jp ∨ k = Y.jb.lp ∨ k = Y.jb.bp → w'.heap[k]? = w1.heap[k]? := fun k hk => hm.block (h1.fp_lt (.inr (.inr (.inr ⟨hn, hk⟩)))) (fun e => by
      obtain ⟨i, hi, hf⟩ := h1.inS e
      exact (h1.jobNot ⟨hn, hk⟩).1 i hi hf)
    exact h4.keep (hJ _ (.inl rfl)) (hJ _ (.inr (.inl rfl))) (hJ _ (.inr (.inr rfl)))⟩)
  exact ⟨h2, (Moved.of_below hb).trans h3⟩

theorem IsYard.sdid {w w1 w' : World} {yp m' : Nat} {Y : Yh} {y : YV} {R : SV × Int} {e : Ending} (h : IsYard w yp Y y) (hb : Below w.heap.size w w1) (hd : SDid w1 yp Y.xs y.s m' R e w') :
    e = .returned (erV R.2) ∧ ∃ Y' : Yh, Y'.jb = Y.jb ∧ IsYard w' yp Y' { y with s := R.1 } ∧ Moved (fpY yp Y y) w (fpY yp Y' { y with s := R.1 }) w' := by
  obtain ⟨xs', h1, h2, h3⟩ := hd
  obtain ⟨h4, h5⟩ := h.shelved hb h2 h3
  exact ⟨h1, { Y with xs := xs' }, rfl, h4, h5⟩

theorem IsYard.pdid {w w1 w' : World} {yp m C : Nat} {Y : Yh} {y : YV} {z : SV} {j a : JV} (h : IsYard w yp Y y) (hj : y.j = some j) (hb : Below w.heap.size w w1) (hd : PDid yp Y.jb.jp Y.jb.lp Y.jb.bp Y.jb.a Y.jb.cap Y.xs y.s z m C a w1 w') (hl : a.l = j.l) :
    ∃ Y' : Yh, Y'.jb = Y.jb ∧ IsYard w' yp Y' { y with s := z, j := some a } ∧ Moved (fpY yp Y y) w (fpY yp Y' { y with s := z, j := some a }) w' := by
  obtain ⟨xs', h1, h2⟩ := hd
  have hn : y.j ≠ none := by rw [hj]; intro e; cases e
  obtain ⟨h3, h4⟩ := (h.below hb).acted (j' := some a) h1.shelf h2 (fun k hk => by
    rcases hk with hk | hk
    · exact .inl hk
    · exact .inr ⟨hn, hk⟩) (fun k hk => by
    rcases hk with hk | hk
    · exact .inl (.inl hk)
    · exact .inl (.inr hk.2)) (by rw [hj]; exact ⟨fun e => (by cases e), fun e => (by cases e)⟩) (fun b hb => by
    cases hb
    exact ⟨j, hj, hl, h1.job⟩)
  exact ⟨{ Y with xs := xs' }, rfl, h3, (Moved.of_below hb).trans h4⟩

/- With the same job's blocks. -/
def YDidJ (yp : Nat) (Y : Yh) (y y' : YV) (w w' : World) : Prop := ∃ Y' : Yh, Y'.jb = Y.jb ∧ IsYard w' yp Y' y' ∧ Moved (fpY yp Y y) w (fpY yp Y' y') w'
theorem YDidJ.out {w w' : World} {yp : Nat} {Y : Yh} {y z : YV} (h : YDidJ yp Y y z w w') : YDid yp Y y z w w' := by
  obtain ⟨Y', h0, h1, h2⟩ := h
  exact ⟨Y', .inl h0, h1, h2⟩
theorem YDidJ.refl {w : World} {yp : Nat} {Y : Yh} {y : YV} (h : IsYard w yp Y y) : YDidJ yp Y y y w w := ⟨Y, rfl, h, Moved.refl _ _⟩
theorem YDidJ.below {w w' : World} {yp : Nat} {Y : Yh} {y : YV} (h : IsYard w yp Y y) (hb : Below w.heap.size w w') : YDidJ yp Y y y w w' := ⟨Y, rfl, h.below hb, Moved.of_below hb⟩
theorem YDidJ.trans {w w1 w' : World} {yp : Nat} {Y Y1 : Yh} {y y1 y' : YV} (hj : Y1.jb = Y.jb) (hm : Moved (fpY yp Y y) w (fpY yp Y1 y1) w1) (h : YDidJ yp Y1 y1 y' w1 w') : YDidJ yp Y y y' w w' := by
  obtain ⟨Y', h0, h1, h2⟩ := h
  exact ⟨Y', h0.trans hj, h1, hm.trans h2⟩
theorem YDidJ.from {w w1 w' : World} {yp : Nat} {Y : Yh} {y y' : YV} (hb : Below w.heap.size w w1) (h : YDidJ yp Y y y' w1 w') : YDidJ yp Y y y' w w' := by
  obtain ⟨Y', h0, h1, h2⟩ := h
  exact ⟨Y', h0, h1, (Moved.of_below hb).trans h2⟩

theorem IsYard.pjOf {w : World} {yp m C : Nat} {Y : Yh} {y : YV} {j : JV} (h : IsYard w yp Y y) (hs : y.s.ok m) (hj : y.j = some j) (hok : JOk y.s C j) : PJ w yp Y.jb.jp Y.jb.lp Y.jb.bp Y.jb.a Y.jb.cap Y.xs y.s m C j := by
  obtain ⟨h1, h2, h3, h4, h5⟩ := h.job j hj
  refine ⟨h.shelf hs, h1, h2, fun g o e hk => h5 g o e ?_, hok, h4⟩
  rcases hk with hk | hk
  · exact .inr (.inl (h.inS hk))
  · exact .inr (.inr (.inr ⟨(by rw [hj]; intro e; cases e), hk⟩))

theorem mark_none {y : YV} (h : y.busy ≠ true) (fr n : Nat) : y.mark fr n = y := by
  unfold YV.mark
  cases hj : y.j with
  | none =>
    show ({ y with j := none } : YV) = y
    rw [← hj]
  | some j =>
    have h4 := busy_no h j hj
    show ({ y with j := some (dirtyTo j fr n) } : YV) = y
    rw [dirtyTo_over h4, ← hj]
theorem mark_zero (y : YV) (fr : Nat) : y.mark fr 0 = y := by
  unfold YV.mark
  have : (y.j.map fun j => dirtyTo j fr 0) = y.j := by cases y.j <;> rfl
  rw [this]
theorem dirtyC_l (j : JV) (c : Nat) : ∀ k, (dirtyC j c k).l = j.l := by
  intro k
  induction k with
  | zero => rfl
  | succ k ih =>
    show (dirtyJ (dirtyC j c k) _).l = j.l
    unfold dirtyJ
    split <;> exact ih
theorem JOk.dirtyC {s : SV} {C : Nat} {j : JV} (h : JOk s C j) (c : Nat) : ∀ k, JOk s C (dirtyC j c k) := by
  intro k
  induction k with
  | zero => exact h
  | succ k ih => exact ih.dirty _
end Go.Proofs.YtonhoahnieoebabGreatDoor

namespace Go.Proofs.YtonhoahnieoebabGreatDoor
open Go.RowKit
attribute [local go_sem ↓] Go.wp_at_zero Go.wp_at_succ


theorem KV.fault1 {d : KV} (h : ¬ (0 ≤ d.r ∧ d.r ≤ 4 ∧ 0 ≤ d.k ∧ d.k ≤ 3 ∧ -1 ≤ d.f ∧ d.f ≤ 4 ∧ 0 ≤ d.a ∧ d.a ≤ 1000 ∧ 0 ≤ d.u ∧ d.u ≤ 1000)) : d.fault = 1 := by
  unfold KV.fault KV.bound
  rw [if_neg (fun e => h (of_decide_eq_true e))]

theorem KV.fault2 {d : KV} (h : 0 ≤ d.r ∧ d.r ≤ 4 ∧ 0 ≤ d.k ∧ d.k ≤ 3 ∧ -1 ≤ d.f ∧ d.f ≤ 4 ∧ 0 ≤ d.a ∧ d.a ≤ 1000 ∧ 0 ≤ d.u ∧ d.u ≤ 1000)
    (hm : ¬ ((d.k = 0 ∧ d.f = -1 ∧ d.a = 0 ∧ d.u = 0) ∨ (d.k ≠ 0 ∧ d.f ≠ d.r ∧ (d.f ≠ -1 ∨ d.k = 2)))) : d.fault = 2 := by
  unfold KV.fault KV.bound KV.may
  rw [if_pos (decide_eq_true h), if_neg (fun e => hm (of_decide_eq_true e))]

theorem KV.fault0 {d : KV} (h : 0 ≤ d.r ∧ d.r ≤ 4 ∧ 0 ≤ d.k ∧ d.k ≤ 3 ∧ -1 ≤ d.f ∧ d.f ≤ 4 ∧ 0 ≤ d.a ∧ d.a ≤ 1000 ∧ 0 ≤ d.u ∧ d.u ≤ 1000)
    (hm : (d.k = 0 ∧ d.f = -1 ∧ d.a = 0 ∧ d.u = 0) ∨ (d.k ≠ 0 ∧ d.f ≠ d.r ∧ (d.f ≠ -1 ∨ d.k = 2))) : d.fault = 0 := by
  unfold KV.fault KV.bound KV.may
  rw [if_pos (decide_eq_true h), if_pos (decide_eq_true hm)]

set_option maxRecDepth 100000 in
set_option maxHeartbeats 1000000 in
theorem checkDesk_bound (r k f a u : Int) (w : World) (h : ¬ (0 ≤ r ∧ r ≤ 4 ∧ 0 ≤ k ∧ k ≤ 3 ∧ -1 ≤ f ∧ f ≤ 4 ∧ 0 ≤ a ∧ a ≤ 1000 ∧ 0 ≤ u ∧ u ≤ 1000)) :
    Calls Tryz.prog 147 #[.agg #[.int .i64 r, .int .i64 k, .int .i64 f, .int .i64 a, .int .i64 u]] w fun e w' => e = .returned (erV (KV.fault ⟨r, k, f, a, u⟩)) ∧ Below w.heap.size w w' := by
  have hbel : Below w.heap.size w (w.alloc (.cells #[.int .i64 r, .int .i64 k, .int .i64 f, .int .i64 a, .int .i64 u] 47)) := (Below.refl _ _).alloc (Nat.le_refl _) _
  have HF : Hid (erV (KV.fault ⟨r, k, f, a, u⟩) = .iface 127 (.int .i64 1)) := by unfold Hid; rw [KV.fault1 (d := ⟨r, k, f, a, u⟩) h]; exact erV_1
  by_cases h0 : 0 ≤ r ∧ r ≤ 4
  rotate_left
  · have y0 : inB r (0) 4 = false := inB_no h0
    clear h h0
    go_enter Tryz.func147, Tryz.ntmps147
    go_wp2_with (go_at_call 211; refine (within_any _ _ _ _).mono ?_; rintro e w' ⟨rfl, rfl⟩)
    go_ret
    exact ⟨ret_v HF.out.symm, hbel⟩
  by_cases h1 : 0 ≤ k ∧ k ≤ 3
  rotate_left
  · have y1 : inB k (0) 3 = false := inB_no h1
    have y0 : inB r (0) 4 = true := inB_yes h0
    clear h h1 h0
    go_enter Tryz.func147, Tryz.ntmps147
    go_wp2_with (go_at_call 211; refine (within_any _ _ _ _).mono ?_; rintro e w' ⟨rfl, rfl⟩)
    go_ret
    exact ⟨ret_v HF.out.symm, hbel⟩
  by_cases h2 : -1 ≤ f ∧ f ≤ 4
  rotate_left
  · have y2 : inB f (-1) 4 = false := inB_no h2
    have y0 : inB r (0) 4 = true := inB_yes h0
    have y1 : inB k (0) 3 = true := inB_yes h1
    clear h h2 h0 h1
    go_enter Tryz.func147, Tryz.ntmps147
    go_wp2_with (go_at_call 211; refine (within_any _ _ _ _).mono ?_; rintro e w' ⟨rfl, rfl⟩)
    go_ret
    exact ⟨ret_v HF.out.symm, hbel⟩
  by_cases h3 : 0 ≤ a ∧ a ≤ 1000
  rotate_left
  · have y3 : inB a (0) 1000 = false := inB_no h3
    have y0 : inB r (0) 4 = true := inB_yes h0
    have y1 : inB k (0) 3 = true := inB_yes h1
    have y2 : inB f (-1) 4 = true := inB_yes h2
    clear h h3 h0 h1 h2
    go_enter Tryz.func147, Tryz.ntmps147
    go_wp2_with (go_at_call 211; refine (within_any _ _ _ _).mono ?_; rintro e w' ⟨rfl, rfl⟩)
    go_ret
    exact ⟨ret_v HF.out.symm, hbel⟩
  have h4 : ¬ (0 ≤ u ∧ u ≤ 1000) := by omega
  · have y4 : inB u (0) 1000 = false := inB_no h4
    have y0 : inB r (0) 4 = true := inB_yes h0
    have y1 : inB k (0) 3 = true := inB_yes h1
    have y2 : inB f (-1) 4 = true := inB_yes h2
    have y3 : inB a (0) 1000 = true := inB_yes h3
    clear h h4 h0 h1 h2 h3
    go_enter Tryz.func147, Tryz.ntmps147
    go_wp2_with (go_at_call 211; refine (within_any _ _ _ _).mono ?_; rintro e w' ⟨rfl, rfl⟩)
    go_ret
    exact ⟨ret_v HF.out.symm, hbel⟩

set_option maxRecDepth 100000 in
set_option maxHeartbeats 1000000 in
theorem checkDesk_in (r k f a u : Int) (w : World) (h0 : 0 ≤ r ∧ r ≤ 4) (h1 : 0 ≤ k ∧ k ≤ 3) (h2 : -1 ≤ f ∧ f ≤ 4) (h3 : 0 ≤ a ∧ a ≤ 1000) (h4 : 0 ≤ u ∧ u ≤ 1000) :
    Calls Tryz.prog 147 #[.agg #[.int .i64 r, .int .i64 k, .int .i64 f, .int .i64 a, .int .i64 u]] w fun e w' => e = .returned (erV (KV.fault ⟨r, k, f, a, u⟩)) ∧ Below w.heap.size w w' := by
  have hbel : Below w.heap.size w (w.alloc (.cells #[.int .i64 r, .int .i64 k, .int .i64 f, .int .i64 a, .int .i64 u] 47)) := (Below.refl _ _).alloc (Nat.le_refl _) _
  by_cases k0 : k = 0
  · by_cases f1 : f = -1
    · by_cases a0 : a = 0
      · by_cases u0 : u = 0
        · have HF : Hid (erV (KV.fault ⟨r, k, f, a, u⟩) = .nilIface) := by unfold Hid; rw [KV.fault0 (d := ⟨r, k, f, a, u⟩) ⟨h0.1, h0.2, h1.1, h1.2, h2.1, h2.2, h3.1, h3.2, h4.1, h4.2⟩ (.inl ⟨k0, f1, a0, u0⟩)]; exact erV_0
          clear hbel
          subst k0 f1 a0 u0
          have y0 := inB_yes h0
          have y1 := inB_yes h1
          have y2 := inB_yes h2
          have y3 := inB_yes h3
          have y4 := inB_yes h4
          clear h0 h1 h2 h3 h4
          try clear k0
          try clear f1
          try clear a0
          try clear u0
          try clear fr
          try clear k2
          go_enter Tryz.func147, Tryz.ntmps147
          go_wp2_with (go_at_call 211; refine (within_any _ _ _ _).mono ?_; rintro e w' ⟨rfl, rfl⟩)
          go_ret
          exact ⟨ret_v HF.out.symm, (Below.refl _ _).alloc (Nat.le_refl _) _⟩
        · have HF : Hid (erV (KV.fault ⟨r, k, f, a, u⟩) = .iface 127 (.int .i64 2)) := by unfold Hid; rw [KV.fault2 (d := ⟨r, k, f, a, u⟩) ⟨h0.1, h0.2, h1.1, h1.2, h2.1, h2.2, h3.1, h3.2, h4.1, h4.2⟩ (by show ¬ ((k = 0 ∧ f = -1 ∧ a = 0 ∧ u = 0) ∨ (k ≠ 0 ∧ f ≠ r ∧ (f ≠ -1 ∨ k = 2))); omega)]; exact erV_2
          obtain ⟨v1, v2⟩ := ne_b u0
          clear hbel
          subst k0 f1 a0
          have y0 := inB_yes h0
          have y1 := inB_yes h1
          have y2 := inB_yes h2
          have y3 := inB_yes h3
          have y4 := inB_yes h4
          clear h0 h1 h2 h3 h4
          try clear k0
          try clear f1
          try clear a0
          try clear u0
          try clear fr
          try clear k2
          go_enter Tryz.func147, Tryz.ntmps147
          go_wp2_with (go_at_call 211; refine (within_any _ _ _ _).mono ?_; rintro e w' ⟨rfl, rfl⟩)
          go_ret
          exact ⟨ret_v HF.out.symm, (Below.refl _ _).alloc (Nat.le_refl _) _⟩
      · have HF : Hid (erV (KV.fault ⟨r, k, f, a, u⟩) = .iface 127 (.int .i64 2)) := by unfold Hid; rw [KV.fault2 (d := ⟨r, k, f, a, u⟩) ⟨h0.1, h0.2, h1.1, h1.2, h2.1, h2.2, h3.1, h3.2, h4.1, h4.2⟩ (by show ¬ ((k = 0 ∧ f = -1 ∧ a = 0 ∧ u = 0) ∨ (k ≠ 0 ∧ f ≠ r ∧ (f ≠ -1 ∨ k = 2))); omega)]; exact erV_2
        obtain ⟨v1, v2⟩ := ne_b a0
        clear hbel
        subst k0 f1
        have y0 := inB_yes h0
        have y1 := inB_yes h1
        have y2 := inB_yes h2
        have y3 := inB_yes h3
        have y4 := inB_yes h4
        clear h0 h1 h2 h3 h4
        try clear k0
        try clear f1
        try clear a0
        try clear u0
        try clear fr
        try clear k2
        go_enter Tryz.func147, Tryz.ntmps147
        go_wp2_with (go_at_call 211; refine (within_any _ _ _ _).mono ?_; rintro e w' ⟨rfl, rfl⟩)
        go_ret
        exact ⟨ret_v HF.out.symm, (Below.refl _ _).alloc (Nat.le_refl _) _⟩
    · have HF : Hid (erV (KV.fault ⟨r, k, f, a, u⟩) = .iface 127 (.int .i64 2)) := by unfold Hid; rw [KV.fault2 (d := ⟨r, k, f, a, u⟩) ⟨h0.1, h0.2, h1.1, h1.2, h2.1, h2.2, h3.1, h3.2, h4.1, h4.2⟩ (by show ¬ ((k = 0 ∧ f = -1 ∧ a = 0 ∧ u = 0) ∨ (k ≠ 0 ∧ f ≠ r ∧ (f ≠ -1 ∨ k = 2))); omega)]; exact erV_2
      obtain ⟨v1, v2⟩ := ne_b f1
      clear hbel
      subst k0
      have y0 := inB_yes h0
      have y1 := inB_yes h1
      have y2 := inB_yes h2
      have y3 := inB_yes h3
      have y4 := inB_yes h4
      clear h0 h1 h2 h3 h4
      try clear k0
      try clear f1
      try clear a0
      try clear u0
      try clear fr
      try clear k2
      go_enter Tryz.func147, Tryz.ntmps147
      go_wp2_with (go_at_call 211; refine (within_any _ _ _ _).mono ?_; rintro e w' ⟨rfl, rfl⟩)
      go_ret
      exact ⟨ret_v HF.out.symm, (Below.refl _ _).alloc (Nat.le_refl _) _⟩
  · obtain ⟨v1, v2⟩ := ne_b k0
    by_cases fr : f = r
    · have HF : Hid (erV (KV.fault ⟨r, k, f, a, u⟩) = .iface 127 (.int .i64 2)) := by unfold Hid; rw [KV.fault2 (d := ⟨r, k, f, a, u⟩) ⟨h0.1, h0.2, h1.1, h1.2, h2.1, h2.2, h3.1, h3.2, h4.1, h4.2⟩ (by show ¬ ((k = 0 ∧ f = -1 ∧ a = 0 ∧ u = 0) ∨ (k ≠ 0 ∧ f ≠ r ∧ (f ≠ -1 ∨ k = 2))); omega)]; exact erV_2
      obtain ⟨v3, v4⟩ := eq_b fr
      clear hbel
      have y0 := inB_yes h0
      have y1 := inB_yes h1
      have y2 := inB_yes h2
      have y3 := inB_yes h3
      have y4 := inB_yes h4
      clear h0 h1 h2 h3 h4
      try clear k0
      try clear f1
      try clear a0
      try clear u0
      try clear fr
      try clear k2
      go_enter Tryz.func147, Tryz.ntmps147
      go_wp2_with (go_at_call 211; refine (within_any _ _ _ _).mono ?_; rintro e w' ⟨rfl, rfl⟩)
      go_ret
      exact ⟨ret_v HF.out.symm, (Below.refl _ _).alloc (Nat.le_refl _) _⟩
    · obtain ⟨v3, v4⟩ := ne_b fr
      by_cases f1 : f = -1
      · by_cases k2 : k = 2
        · have HF : Hid (erV (KV.fault ⟨r, k, f, a, u⟩) = .nilIface) := by unfold Hid; rw [KV.fault0 (d := ⟨r, k, f, a, u⟩) ⟨h0.1, h0.2, h1.1, h1.2, h2.1, h2.2, h3.1, h3.2, h4.1, h4.2⟩ (.inr ⟨k0, fr, .inr k2⟩)]; exact erV_0
          clear hbel
          obtain ⟨v5, v6⟩ := eq_b f1
          obtain ⟨v7, v8⟩ := eq_b k2
          have y0 := inB_yes h0
          have y1 := inB_yes h1
          have y2 := inB_yes h2
          have y3 := inB_yes h3
          have y4 := inB_yes h4
          clear h0 h1 h2 h3 h4
          try clear k0
          try clear f1
          try clear a0
          try clear u0
          try clear fr
          try clear k2
          go_enter Tryz.func147, Tryz.ntmps147
          go_wp2_with (go_at_call 211; refine (within_any _ _ _ _).mono ?_; rintro e w' ⟨rfl, rfl⟩)
          go_ret
          exact ⟨ret_v HF.out.symm, (Below.refl _ _).alloc (Nat.le_refl _) _⟩
        · have HF : Hid (erV (KV.fault ⟨r, k, f, a, u⟩) = .iface 127 (.int .i64 2)) := by unfold Hid; rw [KV.fault2 (d := ⟨r, k, f, a, u⟩) ⟨h0.1, h0.2, h1.1, h1.2, h2.1, h2.2, h3.1, h3.2, h4.1, h4.2⟩ (by show ¬ ((k = 0 ∧ f = -1 ∧ a = 0 ∧ u = 0) ∨ (k ≠ 0 ∧ f ≠ r ∧ (f ≠ -1 ∨ k = 2))); omega)]; exact erV_2
          clear hbel
          obtain ⟨v5, v6⟩ := eq_b f1
          obtain ⟨v7, v8⟩ := ne_b k2
          have y0 := inB_yes h0
          have y1 := inB_yes h1
          have y2 := inB_yes h2
          have y3 := inB_yes h3
          have y4 := inB_yes h4
          clear h0 h1 h2 h3 h4
          try clear k0
          try clear f1
          try clear a0
          try clear u0
          try clear fr
          try clear k2
          go_enter Tryz.func147, Tryz.ntmps147
          go_wp2_with (go_at_call 211; refine (within_any _ _ _ _).mono ?_; rintro e w' ⟨rfl, rfl⟩)
          go_ret
          exact ⟨ret_v HF.out.symm, (Below.refl _ _).alloc (Nat.le_refl _) _⟩
      · have HF : Hid (erV (KV.fault ⟨r, k, f, a, u⟩) = .nilIface) := by unfold Hid; rw [KV.fault0 (d := ⟨r, k, f, a, u⟩) ⟨h0.1, h0.2, h1.1, h1.2, h2.1, h2.2, h3.1, h3.2, h4.1, h4.2⟩ (.inr ⟨k0, fr, .inl f1⟩)]; exact erV_0
        clear hbel
        obtain ⟨v5, v6⟩ := ne_b f1
        have y0 := inB_yes h0
        have y1 := inB_yes h1
        have y2 := inB_yes h2
        have y3 := inB_yes h3
        have y4 := inB_yes h4
        clear h0 h1 h2 h3 h4
        try clear k0
        try clear f1
        try clear a0
        try clear u0
        try clear fr
        try clear k2
        go_enter Tryz.func147, Tryz.ntmps147
        go_wp2_with (go_at_call 211; refine (within_any _ _ _ _).mono ?_; rintro e w' ⟨rfl, rfl⟩)
        go_ret
        exact ⟨ret_v HF.out.symm, (Below.refl _ _).alloc (Nat.le_refl _) _⟩

theorem checkDesk_any (r k f a u : Int) (w : World) :
    Calls Tryz.prog 147 #[.agg #[.int .i64 r, .int .i64 k, .int .i64 f, .int .i64 a, .int .i64 u]] w fun e w' => e = .returned (erV (KV.fault ⟨r, k, f, a, u⟩)) ∧ Below w.heap.size w w' := by
  by_cases h : 0 ≤ r ∧ r ≤ 4 ∧ 0 ≤ k ∧ k ≤ 3 ∧ -1 ≤ f ∧ f ≤ 4 ∧ 0 ≤ a ∧ a ≤ 1000 ∧ 0 ≤ u ∧ u ≤ 1000
  · exact checkDesk_in r k f a u w ⟨h.1, by omega⟩ ⟨by omega, by omega⟩ ⟨by omega, by omega⟩ ⟨by omega, by omega⟩ ⟨by omega, by omega⟩
  · exact checkDesk_bound r k f a u w h

end Go.Proofs.YtonhoahnieoebabGreatDoor
