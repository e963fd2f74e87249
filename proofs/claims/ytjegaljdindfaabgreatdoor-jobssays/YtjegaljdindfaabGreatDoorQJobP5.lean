/-
moves: a mirror moves a cluster (a closed fact).
An act's own box, and worlds that part in what they drew alone.
A job of the program and one of the document's answer, side by side; a step that both take.
The files' flush (program).
How a job is settled; a step (program).
-/
import Derived.Test.YtjegaljdindfaabGreatDoorQLawLaid
import Derived.Test.YtjegaljdindfaabGreatDoorQChainParts
import Derived.Test.YtjegaljdindfaabGreatDoorQJobP6
import Derived.Test.YtjegaljdindfaabGreatDoorQChainRead
import Derived.Test.YtjegaljdindfaabGreatDoorQTabDefs
import Derived.Test.YtjegaljdindfaabGreatDoorQRefWalks
import Derived.Test.YtjegaljdindfaabGreatDoorQRjMem
import Derived.Test.YtjegaljdindfaabGreatDoorQJobP3
import Derived.Test.YtjegaljdindfaabGreatDoorQBitsNext
namespace Go.Proofs.YtjegaljdindfaabGreatDoor
open Go.RowKit Go.Maps
attribute [local go_sem ↓] Go.wp_at_zero Go.wp_at_succ

def mvF (ia : Option Addr) : List FileV := [⟨true, 1, 1, -1, ia, 1, 1, [5]⟩, ⟨true, 1, 1, -1, none, 0, 0, []⟩]
def mvS : SV := filesS (mvF none)
def mvD : KDesk := ⟨0, 1, 1, 0, 4⟩
def mvJ : JV := (newJ mvS mvD).at 1
theorem mvS_all (ia : Option Addr) : filesS (mvF ia) = mvS := by
  funext i
  match i with
  | 0 => rfl
  | 1 => rfl
  | n + 2 =>
    unfold mvS filesS
    rw [if_neg (show ¬ (n + 2 < (mvF ia).length ∧ n + 2 < 5) from fun h => absurd (show n + 2 < 2 from h.1) (by omega)), if_neg (show ¬ (n + 2 < (mvF none).length ∧ n + 2 < 5) from fun h => absurd (show n + 2 < 2 from h.1) (by omega))]
theorem mv_new : newF mvS mvD = 0 := by decide +kernel
theorem mv_pause : pauseF (newJ mvS mvD) false = 0 := by decide +kernel
theorem mv_stepB : stepB mvS mvJ = true := by decide +kernel
theorem mv_stepF : stepF mvS mvJ = 0 := by decide +kernel
theorem mv_read1 : ((stepS mvS mvJ).read [1] 0).1.data.toList = (clusterS 5).data.toList := by decide +kernel
theorem mv_read2 : ((stepS mvS mvJ).read [1] 0).2 = 0 := by decide +kernel
theorem mv_state : (stepJ mvS mvJ).state = 3 := by decide +kernel
theorem mv_read : ((stepS mvS mvJ).read [1] 0).1 = clusterS 5 := by
  have h := mv_read1
  apply ByteArray.ext
  exact Array.toList_inj.1 h
theorem mv_pauseJ : pauseJ (newJ mvS mvD) false = mvJ := by
  have h : (newJ mvS mvD).stage = 2 := rfl
  unfold pauseJ
  rw [if_neg (show ¬ (false = true) by decide), if_pos h]
  rfl
theorem mv_good : (stepS mvS mvJ).good 1 [1] := fun n hn => by
  have : n = 1 := by simpa using hn
  subst this
  have h : (((stepS mvS mvJ).file 1).map fun v => v.h.c) = some 1 := by decide +kernel
  cases hf : (stepS mvS mvJ).file 1 with
  | none => rw [hf] at h; cases h
  | some v => rw [hf] at h; exact ⟨v, rfl, by simpa using h⟩

theorem mv_files (w : World) : Files ((w.alloc (.cells #[.int .i64 5] 3)).alloc (.cells #[.bool true, .int .i64 1, .int .i64 1, .int .i64 (-1), .slice (some ⟨w.heap.size, 0, none⟩) 1 1, .bool true, .int .i64 1, .int .i64 1, .int .i64 (-1), .slice none 0 0] 62)) (some ⟨w.heap.size + 1, 0, none⟩) 2 (mvF (some ⟨w.heap.size, 0, none⟩)) := by
  have hrow := heap_alloc_new (w.alloc (.cells #[.int .i64 5] 3)) (.cells #[.bool true, .int .i64 1, .int .i64 1, .int .i64 (-1), .slice (some ⟨w.heap.size, 0, none⟩) 1 1, .bool true, .int .i64 1, .int .i64 1, .int .i64 (-1), .slice none 0 0] 62)
  rw [show (w.alloc (.cells #[.int .i64 5] 3)).heap.size = w.heap.size + 1 by simp] at hrow
  have hrow2 : ((w.alloc (.cells #[.int .i64 5] 3)).alloc (.cells #[.bool true, .int .i64 1, .int .i64 1, .int .i64 (-1), .slice (some ⟨w.heap.size, 0, none⟩) 1 1, .bool true, .int .i64 1, .int .i64 1, .int .i64 (-1), .slice none 0 0] 62)).heap[w.heap.size]? = some (.cells #[.int .i64 5] 3) := by
    rw [Below.heap_alloc _ _ _ (by simp), heap_alloc_new]
  refine ⟨rfl, fun k hk => ⟨_, _, rfl, ?_, ?_⟩⟩
  · intro j v hj
    rw [cell_of_row _ _ _ _ _ _ hrow]
    match k, hk with
    | 0, _ => match j, hj with
      | 0, hj => exact hj
      | 1, hj => exact hj
      | 2, hj => exact hj
      | 3, hj => exact hj
      | 4, hj => exact hj
      | n + 5, hj => cases hj
    | 1, _ => match j, hj with
      | 0, hj => exact hj
      | 1, hj => exact hj
      | 2, hj => exact hj
      | 3, hj => exact hj
      | 4, hj => exact hj
      | n + 5, hj => cases hj
  · match k, hk with
    | 0, _ => exact ⟨fun j hj => ⟨_, _, rfl, by
        have hj0 : j = 0 := by have : j < 1 := hj; omega
        rw [hj0, cell_of_row _ _ _ _ _ _ hrow2]; rfl⟩, rfl, (show 1 ≤ maxLen by unfold maxLen; omega)⟩
    | 1, _ => exact ⟨fun j hj => absurd hj (Nat.not_lt_zero j), rfl, Nat.zero_le _⟩

theorem field_st (k f s n : Int) (w : World) : (Instr.field 56 (.agg #[.int .i64 k, .int .i64 f, .int .i64 s, .int .i64 n]) 2).run Tryz.prog w = .ok (.int .i64 s) w := by kernel_rfl

set_option maxRecDepth 100000 in
set_option maxHeartbeats 2000000 in
theorem moves_any (w : World) (hT : S4.Tab w) (h0 : 0 < w.heap.size) : Calls Tryz.prog 15 #[] w fun e w' => e = .returned (.bool true) ∧ Below w.heap.size w w' := by
  have HW1 := toHid (mv_files w)
  have HWB : Hid (Below w.heap.size w ((w.alloc (.cells #[.int .i64 5] 3)).alloc (.cells #[.bool true, .int .i64 1, .int .i64 1, .int .i64 (-1), .slice (some ⟨w.heap.size, 0, none⟩) 1 1, .bool true, .int .i64 1, .int .i64 1, .int .i64 (-1), .slice none 0 0] 62))) := ((Below.refl _ w).alloc (Nat.le_refl _) _).alloc (by simp) _
  have HT := toHid hT
  clear hT
  go_enter Tryz.func15, Tryz.ntmps15
  go_wp2_with fail
  generalize (w.alloc (.cells #[.int .i64 5] 3)).alloc (.cells #[.bool true, .int .i64 1, .int .i64 1, .int .i64 (-1), .slice (some ⟨w.heap.size, 0, none⟩) 1 1, .bool true, .int .i64 1, .int .i64 1, .int .i64 (-1), .slice none 0 0] 62) = W1 at HW1 HWB ⊢
  have HLD := toHid (laid_any (some ⟨w.heap.size + 1, 0, none⟩) 2 2 (mvF (some ⟨w.heap.size, 0, none⟩)) W1 HW1.out (by decide) (fun k hk => by
    match k, hk with
    | 0, _ => exact (by omega : 1 ≤ 40)
    | 1, _ => exact Nat.zero_le _))
  rw [mvS_all] at HLD
  clear HW1
  refine HLD.out.mono ?_
  rintro e w2 ⟨sp, mp, xs, qs, rfl, hL⟩
  have HB2 : Hid (Below w.heap.size w w2) := HWB.out.trans (hL.bel.mono HWB.out.size)
  have HBS : Hid (∀ i, fpS xs mvS i → w.heap.size ≤ i) := fun i hi => Nat.le_trans HWB.out.size (hL.bS i hi)
  have HNW := toHid (new_good mvD w2 hL.prog mv_new)
  clear hL HLD HWB
  unfold mvD at HNW
  simp only at HNW
  go_wp2_with fail
  refine HNW.out.mono ?_
  rintro e w3 ⟨jp, lp, bp, C, a, cap, rfl, hP3, ⟨hj, hl, hb, _⟩, hb3, _⟩
  have HB3 : Hid (Below w.heap.size w w3) := HB2.out.trans (hb3.mono HB2.out.size)
  have HFP : Hid (∀ i, fpP xs mvS jp lp bp i → w.heap.size ≤ i) := fun i hi => by
    have h2 := HB2.out.size
    rcases hi with hi | rfl | rfl | rfl
    · exact HBS.out i hi
    · omega
    · omega
    · omega
  have e1 := mv_pause
  have e2 := mv_pauseJ
  unfold mvD at e1 e2
  have HPA := toHid (pause_any false w3 hP3)
  rw [e1, e2, erV_0] at HPA
  clear hP3 hb3 HNW HB2 e1 e2 HBS hj hl hb
  go_wp2_with fail
  refine HPA.out.mono ?_
  rintro e w4 ⟨rfl, ys, hP4, hM4⟩
  have HM4 := toHid hM4
  have HB4 : Hid (Below w.heap.size w w4) := HB3.out.trans (hM4.below HB3.out.size HFP.out)
  have HSTP := toHid (jstep_any w4 hP4 (S4.Tab.below HT.out HB4.out h0) (by decide))
  rw [mv_stepB, mv_stepF, erV_0] at HSTP
  clear hP4 hM4 HPA
  go_wp2_with fail
  refine HSTP.out.mono ?_
  rintro e w5 ⟨rfl, zs, hP5, hM5⟩
  have hM35 := HM4.out.trans hM5
  have HB5 : Hid (Below w.heap.size w w5) := HB3.out.trans (hM35.below HB3.out.size HFP.out)
  have HP5 := toHid hP5
  have hnew : Nums (w5.alloc (.cells #[.int .i64 1] 3)) (some ⟨w5.heap.size, 0, none⟩) [1] := fun k hk => ⟨_, _, rfl, by
    rw [cell_of_row _ _ _ _ _ _ (heap_alloc_new w5 _)]
    match k, hk with
    | 0, _ => rfl⟩
  have hbA : Below w5.heap.size w5 (w5.alloc (.cells #[.int .i64 1] 3)) := (Below.refl _ _).alloc (Nat.le_refl _) _
  have HRD := toHid (cread_any (cap := 1) [1] 0 _ (hP5.shelf.below hbA) hnew (C := 1) mv_good (by decide))
  rw [mv_read, mv_read2, erV_0] at HRD
  have HBA := toHid hbA
  clear hP5 hM5 hM35 HSTP HM4 HFP HB3 HB4 hnew hbA
  have HCC : Hid (∀ W : World, Calls Tryz.prog 24 #[.int .i64 5] W fun e w' => e = .returned (.string (clusterS 5)) ∧ Below W.heap.size W w') := fun W => cluster_any 5 W
  generalize clusterS 5 = CS at HRD HCC
  have gcs : (CS.toList == CS.toList) = true := by simp
  have HS0 : Hid (∀ W : World, Calls Tryz.prog 11 #[.nilIface, .int .i64 0] W fun e w' => e = .returned (.bool true) ∧ w' = W) := fun W => errSame_nil 0 W
  go_wp2_with fail
  refine HRD.out.mono ?_
  rintro e w6 ⟨rfl, hb6⟩
  have HB56 : Hid (Below w5.heap.size w5 w6) := HBA.out.trans (hb6.mono HBA.out.size)
  clear hb6 HRD HBA
  go_wp2_with fail
  refine (HS0.out _).mono ?_
  rintro e w' ⟨rfl, hw⟩
  have hw' := hw.symm
  subst hw'
  clear hw
  go_wp2_with fail
  refine (HS0.out _).mono ?_
  rintro e w' ⟨rfl, hw⟩
  have hw' := hw.symm
  subst hw'
  clear hw
  go_wp2_with fail
  refine (HCC.out _).mono ?_
  rintro e w7 ⟨rfl, hb7⟩
  have HB57 : Hid (Below w5.heap.size w5 w7) := HB56.out.trans (hb7.mono HB56.out.size)
  have hP7 := HP5.out.below HB57.out
  have HSS := toHid (status_any w7 hP7.job hP7.ok.set)
  rw [mv_state] at HSS
  clear hb7 hP7
  generalize (stepJ mvS mvJ).kind = kd at HSS
  generalize (stepJ mvS mvJ).file = fl at HSS
  generalize S4.cnt (stepJ mvS mvJ).x 64 = ct at HSS
  have fst := field_st kd fl 3 (ct : Int)
  go_wp2_with fail
  refine HSS.out.mono ?_
  rintro e w8 ⟨rfl, hb8⟩
  have HB8 : Hid (Below w.heap.size w w8) := HB5.out.trans ((HB57.out.trans (hb8.mono HB57.out.size)).mono HB5.out.size)
  clear hb8 HSS
  go_wp2
  go_ret
  exact ⟨by first | rfl | simp, HB8.out⟩
end Go.Proofs.YtjegaljdindfaabGreatDoor

namespace Go.Proofs.YtjegaljdindfaabGreatDoor
open Go.RowKit Go.Maps

/- Two worlds that part in what they drew alone. -/
structure Alike (a b : World) : Prop where
  heap : b.heap = a.heap
  os : b.os = a.os
  tape : b.tape = a.tape
  output : b.output = a.output

theorem Alike.below {a b : World} (h : Alike a b) : Below a.heap.size a b := Kept.below (S := fun _ => False) ⟨h.os, h.tape, h.output, by rw [h.heap]; exact Nat.le_refl _, fun k _ _ => by rw [h.heap]⟩ (Nat.le_refl _) (fun _ => False.elim)

def actBox (a : ActV) : Obj := .cells #[.string a.kind, .int .i64 a.a, .int .i64 a.b, .int .i64 a.c, .int .i64 a.d, .string a.s, .slice a.ka a.kl a.kc] 43 (0, 0)

structure ActAt (w : World) (N : Nat) (a : ActV) : Prop where
  blk : w.heap[N]? = some (actBox a)

theorem ActAt.cells {w : World} {N : Nat} {a : ActV} (h : ActAt w N a) : w.cell? ⟨N, 1, none⟩ = some (.int .i64 a.a) ∧ w.cell? ⟨N, 2, none⟩ = some (.int .i64 a.b) ∧ w.cell? ⟨N, 5, none⟩ = some (.string a.s) := by
  refine ⟨?_, ?_, ?_⟩ <;> (rw [cell_of_row _ _ _ _ _ _ h.blk]; rfl)
theorem Alike.after {c a b : World} (h : Below c.heap.size c a) (hA : Alike a b) : Below c.heap.size c b := h.trans (hA.below.mono h.size)
theorem Alike.then_ {a b c : World} (h : Below b.heap.size b c) (hA : Alike a b) : Below a.heap.size a c := hA.below.trans (h.mono hA.below.size)
theorem Alike.far {c a b d : World} (h : Below c.heap.size c a) (h2 : Below b.heap.size b d) (hA : Alike a b) : Below c.heap.size c d := (Alike.after h hA).trans (h2.mono (Alike.after h hA).size)
end Go.Proofs.YtjegaljdindfaabGreatDoor

namespace Go.Proofs.YtjegaljdindfaabGreatDoor
open Go.RowKit Go.Maps

/- Where the two jobs lie. -/
structure Wk where
  sp : Nat
  jp : Nat
  lp : Nat
  bp : Nat
  a : Option Addr
  cap : Nat
  mp : Nat
  xp : Nat
  b : Option Addr
  bcap : Nat
  C : Nat

structure Work (B : Nat) (w0 w : World) (k : Wk) (xs : Nat → Ih) (qs : Nat → Qh) (s : SV) (m : Nat) (j : JV) : Prop where
  p : PJ w k.sp k.jp k.lp k.bp k.a k.cap xs s m k.C j
  r : RJ w k.mp k.xp k.b k.bcap qs s m k.C j j.state
  apart : ∀ i, fpP xs s k.jp k.lp k.bp i → ¬ fpR qs s k.xp i
  apA : Apart k.a (fpR qs s k.xp)
  apB : Apart k.b (fpP xs s k.jp k.lp k.bp)
  bP : ∀ i, fpP xs s k.jp k.lp k.bp i → B ≤ i
  bR : ∀ i, fpR qs s k.xp i → B ≤ i
  bsp : B ≤ k.sp ∧ B ≤ k.mp
  bel : Below B w0 w
  size : B ≤ w0.heap.size

theorem Work.sizes {B : Nat} {w0 w : World} {k : Wk} {xs : Nat → Ih} {qs : Nat → Qh} {s : SV} {m : Nat} {j : JV} (h : Work B w0 w k xs qs s m j) : B ≤ w.heap.size := Nat.le_trans h.size h.bel.size

theorem Work.below {B : Nat} {w0 w w' : World} {k : Wk} {xs : Nat → Ih} {qs : Nat → Qh} {s : SV} {m : Nat} {j : JV} (h : Work B w0 w k xs qs s m j) (hb : Below w.heap.size w w') : Work B w0 w' k xs qs s m j :=
  ⟨h.p.below hb, h.r.below hb, h.apart, h.apA, h.apB, h.bP, h.bR, h.bsp, h.bel.trans (hb.mono h.sizes), h.size⟩

theorem Work.more {B : Nat} {w0 w : World} {k : Wk} {xs : Nat → Ih} {qs : Nat → Qh} {s : SV} {m m' : Nat} {j : JV} (h : Work B w0 w k xs qs s m j) (hm : m ≤ m') : Work B w0 w k xs qs s m' j :=
  ⟨h.p.more hm, h.r.more hm, h.apart, h.apA, h.apB, h.bP, h.bR, h.bsp, h.bel, h.size⟩

theorem Work.lay {B : Nat} {w0 w : World} {k : Wk} {xs : Nat → Ih} {qs : Nat → Qh} {s : SV} {m : Nat} {j : JV} (h : Work B w0 w k xs qs s m j) : Lay B w0 w k.sp k.mp xs qs s m :=
  ⟨h.p.shelf, h.r.shelf, fun i hi hq => h.apart i (.inl hi) (.inl hq), fun i hi => h.bP i (.inl hi), fun i hi => h.bR i (.inl hi), h.bsp, h.bel, h.size⟩

theorem Work.spNot {B : Nat} {w0 w : World} {k : Wk} {xs : Nat → Ih} {qs : Nat → Qh} {s : SV} {m : Nat} {j : JV} (h : Work B w0 w k xs qs s m j) : ¬ fpR qs s k.xp k.sp ∧ ¬ fpP xs s k.jp k.lp k.bp k.mp := by
  have h0 := h.p.shelf.blk
  have h1 := h.r.shelf.blk
  obtain ⟨cur, h2, _⟩ := h.r.job.blk
  have h3 := h.p.job.blk
  have h4 : w.heap[k.lp]? = _ := h.p.job.set
  have h5 : w.heap[k.bp]? = _ := h.p.job.bkt
  refine ⟨?_, ?_⟩
  · rintro (e | e)
    · exact h.r.shelf.notFp h0 (by decide) e
    · rw [e, h2] at h0; simp at h0
  · rintro (e | e | e | e)
    · exact h.p.shelf.notFp h1 (by decide) e
    · rw [e, h3] at h1; simp at h1
    · rw [e, h4] at h1; simp at h1
    · rw [e, h5] at h1; simp at h1

/- The program has acted, the document's answer has not. -/
structure WorkMid (B : Nat) (w0 w : World) (k : Wk) (xs : Nat → Ih) (qs : Nat → Qh) (z s : SV) (m' m : Nat) (i j : JV) : Prop where
  p : PJ w k.sp k.jp k.lp k.bp k.a k.cap xs z m' k.C i
  r : RJ w k.mp k.xp k.b k.bcap qs s m k.C j j.state
  apart : ∀ i, fpP xs z k.jp k.lp k.bp i → ¬ fpR qs s k.xp i
  apA : Apart k.a (fpR qs s k.xp)
  apB : Apart k.b (fpP xs z k.jp k.lp k.bp)
  bP : ∀ i, fpP xs z k.jp k.lp k.bp i → B ≤ i
  bR : ∀ i, fpR qs s k.xp i → B ≤ i
  bsp : B ≤ k.sp ∧ B ≤ k.mp
  spN : ¬ fpR qs s k.xp k.sp
  bel : Below B w0 w
  size : B ≤ w0.heap.size

theorem WorkMid.below {B : Nat} {w0 w w' : World} {k : Wk} {xs : Nat → Ih} {qs : Nat → Qh} {z s : SV} {m' m : Nat} {i j : JV} (h : WorkMid B w0 w k xs qs z s m' m i j) (hb : Below w.heap.size w w') : WorkMid B w0 w' k xs qs z s m' m i j :=
  ⟨h.p.below hb, h.r.below hb, h.apart, h.apA, h.apB, h.bP, h.bR, h.bsp, h.spN, h.bel.trans (hb.mono (Nat.le_trans h.size h.bel.size)), h.size⟩

theorem Work.prog_acts {B : Nat} {w0 w w1 : World} {k : Wk} {xs xs' : Nat → Ih} {qs : Nat → Qh} {s z : SV} {m m' : Nat} {i j : JV} (h : Work B w0 w k xs qs s m j) (h1 : PJ w1 k.sp k.jp k.lp k.bp k.a k.cap xs' z m' k.C i) (hm : Moved (fpP xs s k.jp k.lp k.bp) w (fpP xs' z k.jp k.lp k.bp) w1) : WorkMid B w0 w1 k xs' qs z s m' m i j :=
  ⟨h1, h.r.beside hm h.spNot.2 (fun i hi hs => h.apart i hs hi) h.apB, fun i hi hq => by
    rcases hm.new i hi with h2 | h2
    · exact h.apart i h2 hq
    · have := h.r.fpLt hq; omega, h.apA, h.apB.moved h.r.nums h.r.ok.ne hm, fun i hi => by
    rcases hm.new i hi with h2 | h2
    · exact h.bP i h2
    · exact Nat.le_trans h.sizes h2, h.bR, h.bsp, h.spNot.1, h.bel.trans (hm.below h.sizes h.bP), h.size⟩

theorem WorkMid.ref_acts {B : Nat} {w0 w w1 : World} {k : Wk} {xs : Nat → Ih} {qs qs' : Nat → Qh} {z s : SV} {m' m : Nat} {i j : JV} (h : WorkMid B w0 w k xs qs z s m' m i j) (h1 : RJ w1 k.mp k.xp k.b k.bcap qs' z m' k.C i i.state) (hm : Moved (fpR qs s k.xp) w (fpR qs' z k.xp) w1) : Work B w0 w1 k xs qs' z m' i :=
  ⟨h.p.beside hm h.spN (fun i hi hs => h.apart i hi hs) h.apA, h1, fun i hi hq => by
    rcases hm.new i hq with h2 | h2
    · exact h.apart i hi h2
    · have := h.p.fpLt hi; omega, h.apA.moved h.p.nums h.p.ok.ne hm, h.apB, h.bP, fun i hi => by
    rcases hm.new i hi with h2 | h2
    · exact h.bR i h2
    · exact Nat.le_trans (Nat.le_trans h.size h.bel.size) h2, h.bsp, h.bel.trans (hm.below (Nat.le_trans h.size h.bel.size) h.bR), h.size⟩

def Worked (B : Nat) (w0 : World) (k : Wk) (m : Nat) (w : World) : Prop := ∃ xs qs s j, Work B w0 w k xs qs s m j

theorem work_step {B m m' : Nat} {w0 w : World} {k : Wk} {xs : Nat → Ih} {qs : Nat → Qh} {s z : SV} {i j : JV} {fp fr : Nat} {ap ar : Array Value} {ep er : Ending} (h : Work B w0 w k xs qs s m j) (x : ActV)
    (HP : ∀ W : World, PJ W k.sp k.jp k.lp k.bp k.a k.cap xs s m k.C j → Below B w0 W → Calls Tryz.prog fp ap W fun e w' => e = ep ∧ PDid k.sp k.jp k.lp k.bp k.a k.cap xs s z m' k.C i W w')
    (HR : ∀ W : World, RJ W k.mp k.xp k.b k.bcap qs s m k.C j j.state → Calls Tryz.prog fr ar W fun e w' => e = er ∧ DDid k.mp k.xp k.b k.bcap qs s z m' k.C i W w') :
    ∀ W' : World, Below (w.alloc (actBox x)).heap.size (w.alloc (actBox x)) W' → Calls Tryz.prog fp ap W' fun e w1 => e = ep ∧ ActAt w1 w.heap.size x ∧
      ∀ W'' : World, Below w1.heap.size w1 W'' → Calls Tryz.prog fr ar W'' fun e w2 => e = er ∧ ActAt w2 w.heap.size x ∧
        ∀ W3 : World, Below w2.heap.size w2 W3 → ∃ xs' qs', Work B w0 W3 k xs' qs' z m' i := by
  intro W' hS
  have hba : Below w.heap.size w (w.alloc (actBox x)) := (Below.refl _ _).alloc (Nat.le_refl _) _
  have hbw : Below w.heap.size w W' := hba.trans (hS.mono hba.size)
  have p1 := h.below hbw
  have hlt : w.heap.size < (w.alloc (actBox x)).heap.size := by simp
  have hblk : W'.heap[w.heap.size]? = some (actBox x) := by rw [hS.block _ hlt]; exact heap_alloc_new w _
  have hlt1 : w.heap.size < W'.heap.size := Nat.lt_of_lt_of_le hlt hS.size
  refine (HP W' p1.p p1.bel).mono ?_
  rintro e w1 ⟨rfl, xs', hi1, hm1⟩
  have hnP : ¬ fpP xs s k.jp k.lp k.bp w.heap.size := fun hf => absurd (h.p.fpLt hf) (Nat.lt_irrefl _)
  have hnR : ¬ fpR qs s k.xp w.heap.size := fun hf => absurd (h.r.fpLt hf) (Nat.lt_irrefl _)
  have a1 : ActAt w1 w.heap.size x := ⟨by rw [hm1.block hlt1 hnP]; exact hblk⟩
  refine ⟨rfl, a1, fun W'' hS2 => ?_⟩
  have hmid := (p1.prog_acts hi1 hm1).below hS2
  have hlt2 : w.heap.size < W''.heap.size := Nat.lt_of_lt_of_le hlt1 (Nat.le_trans hm1.size hS2.size)
  refine (HR W'' hmid.r).mono ?_
  rintro e w2 ⟨rfl, qs', hr2, hm2⟩
  have hblk2 : W''.heap[w.heap.size]? = some (actBox x) := by rw [hS2.block _ (Nat.lt_of_lt_of_le hlt1 hm1.size)]; exact a1.blk
  exact ⟨rfl, ⟨by rw [hm2.block hlt2 hnR]; exact hblk2⟩, fun W3 hS3 => ⟨xs', qs', (hmid.ref_acts hr2 hm2).below hS3⟩⟩
end Go.Proofs.YtjegaljdindfaabGreatDoor

namespace Go.Proofs.YtjegaljdindfaabGreatDoor
open Go.RowKit Go.Maps
attribute [local go_sem ↓] Go.wp_at_zero Go.wp_at_succ

theorem SV.walkGo_bad {s : SV} {rc : Int} : ∀ (k : Nat) (l : List Int) (n : Int), (s.walkGo rc k l n).2 ≠ 0 → (s.walkGo rc k l n).1 = [] := by
  intro k
  induction k with
  | zero => intro l n _; rfl
  | succ k ih =>
    intro l n h
    by_cases hn : n = -1
    · subst hn; rw [SV.walk_end] at h; exact absurd rfl h
    · cases hf : s.file n with
      | none => rw [SV.walk_none hn hf]
      | some v =>
        by_cases h5 : l.length = 5
        · rw [SV.walk_long hn hf h5]
        · by_cases hc : v.h.c = rc
          · rw [SV.walk_on hn hf h5 hc] at h ⊢; exact ih _ _ h
          · rw [SV.walk_other hn hf h5 hc]

/- How far the files are flushed. -/
structure Fl (w : World) (sp jp lp bp : Nat) (a : Option Addr) (cap : Nat) (xs : Nat → Ih) (s : SV) (m C : Nat) (j : JV) (b : Option Addr) (l : List Int) (z : SV) (wr : World) (ys : Nat → Ih) : Prop where
  p : PJ wr sp jp lp bp a cap ys z m C j
  m : Moved (fpP xs s jp lp bp) w (fpP ys z jp lp bp) wr
  n : Nums wr b l
  ap : Apart b (fpP ys z jp lp bp)

theorem take_next {l : List Int} {k : Nat} (h : k < l.length) : l.take (k + 1) = l.take k ++ [l.getD k 0] := by
  rw [List.take_add_one, List.getElem?_eq_getElem h, List.getD_eq_getElem?_getD, List.getElem?_eq_getElem h]; rfl

/- The shelf, with the first so many files of a list flushed. -/
structure Fls (s : SV) (l : List Int) (F : Nat → SV) : Prop where
  zero : F 0 = s
  next : ∀ k, k < l.length → F (k + 1) = (F k).flush1 (l.getD k 0)
  all : F l.length = s.flushL l
  alike : ∀ k, s.alike (F k)
theorem fls (s : SV) (l : List Int) : ∃ F, Fls s l F :=
  ⟨fun k => s.flushL (l.take k), rfl, fun k hk => by show s.flushL (l.take (k + 1)) = _; rw [take_next hk, SV.flushL_snoc], by show s.flushL (l.take l.length) = _; rw [List.take_length], fun k => SV.alike.flushL _ s⟩

set_option maxRecDepth 100000 in
set_option maxHeartbeats 2000000 in
theorem jflush_any {sp jp lp bp cap m C : Nat} {a : Option Addr} {xs : Nat → Ih} {s : SV} {j : JV} (w : World) (h : PJ w sp jp lp bp a cap xs s m C j) :
    Calls Tryz.prog 127 #[.pointer (some ⟨jp, 0, none⟩)] w fun e w' => e = .returned (erV (s.walk j.file).2) ∧ PDid sp jp lp bp a cap xs s (s.flushL (s.walk j.file).1) m C j w w' := by
  have HP := toHid h
  obtain ⟨c0, c1, c2, c3, _⟩ := h.job.cells
  have d0 : w.drew.cell? ⟨jp, 0, none⟩ = some (.pointer (some ⟨sp, 0, none⟩)) := c0
  have d3 : w.drew.cell? ⟨jp, 3, none⟩ = some (.int .i64 j.file) := c3
  have HBD : Hid (Below w.heap.size w w.drew) := (Below.refl _ _).drew
  have HC : Hid (∀ W : World, Below w.heap.size w W → W.cell? ⟨jp, 0, none⟩ = some (.pointer (some ⟨sp, 0, none⟩)) ∧ W.cell? ⟨jp, 3, none⟩ = some (.int .i64 j.file)) := fun W hb => by
    obtain ⟨c0, c1, c2, c3, _⟩ := (h.below hb).job.cells
    exact ⟨c0, c3⟩
  have HWK := toHid (cwalk_any j.file w.drew (h.shelf.below HBD.out))
  obtain ⟨hg, hl5, hf0, _⟩ := s.walk_good j.file
  have HG := toHid hg
  have HBAD : Hid ((s.walk j.file).2 ≠ 0 → (s.walk j.file).1 = []) := SV.walkGo_bad _ _ _
  generalize s.rootC j.file = rc at HG
  generalize s.walk j.file = R at HWK HG HBAD hl5 hf0 ⊢
  obtain ⟨l, f⟩ := R
  simp only at HWK HG HBAD hl5 hf0 ⊢
  obtain ⟨F, hF⟩ := fls s l
  have HFS := toHid hF
  have HFN : Hid (f ≠ 0 → s.flushL l = s) := fun e => by rw [HBAD.out e]; rfl
  rw [← hF.all] at HFN ⊢
  clear hF
  generalize j.file = fl at c3 d3 HC HWK
  clear h hg c1 c2
  by_cases hf : f = 0
  · subst hf
    rw [erV_0] at HWK ⊢
    generalize hln : l.length = ln at HWK hl5 ⊢
    clear HBAD HFN hf0
    go_enter Tryz.func127, Tryz.ntmps127
    go_wp2
    go_region_held3 (fun W => W.cell? ⟨jp, 0, none⟩ = some (.pointer (some ⟨sp, 0, none⟩)) ∧ W.cell? ⟨jp, 3, none⟩ = some (.int .i64 fl))
      (first | (exact ⟨d0, d3⟩) | assumption)
      (first
        | (go_at_call 9; refine HWK.out.mono ?_; rintro e w1 ⟨b, bc, rfl, hn1, ha1, hb1⟩; have HB1 := toHid (HBD.out.trans (hb1.mono HBD.out.size)); have hS1 := HC.out _ HB1.out))
    have HF0 : Hid (Fl w sp jp lp bp a cap xs s m C j b l (F 0) w1 xs) := by
      unfold Hid
      rw [HFS.out.zero]
      exact ⟨HP.out.below HB1.out, Moved.of_below HB1.out, hn1, fun g o e hf => by
        have h1 := HP.out.fpLt hf
        have h2 := (ha1 g o e).1
        have h3 : w.heap.size ≤ g := h2
        omega⟩
    clear hn1 ha1 hb1 hS1 HWK d0 d3 HP HC HB1 HBD c0 c3
    go_wp2
    go_loopw [24] (fun i wr => ∃ (k : Nat) (ys : Nat → Ih), k ≤ ln ∧ i = .int .i64 (k : Int) ∧ Fl w sp jp lp bp a cap xs s m C j b l (F k) wr ys) (fun i _ => ln - (intOf i).toNat)
    case atStart => exact ⟨0, xs, Nat.zero_le _, rfl, HF0.out⟩
    case round =>
      clear HF0
      obtain ⟨k, ys, hk, rfl, hF⟩ := hrel
      have HF := toHid hF
      by_cases hlt : k < ln
      · have hkl : k < l.length := by omega
        obtain ⟨g, o, hb, hcn⟩ := hF.n k hkl
        subst hb
        obtain ⟨v0, hv0, _⟩ := HG.out (l.getD k 0) (by rw [List.getD_eq_getElem?_getD, List.getElem?_eq_getElem hkl]; exact List.getElem_mem hkl)
        obtain ⟨v, hv, _⟩ := (HFS.out.alike k).head _ _ hv0
        have hcell := hF.p.shelf.cellF hv
        obtain ⟨n0, n5, _⟩ := SV.file_of hv
        have HFL := toHid (flush_s wr hF.p.shelf hv)
        have HNX : Hid (F (k + 1) = (F k).flush1 (l.getD k 0)) := HFS.out.next k hkl
        obtain ⟨e0, _⟩ := hF.p.job.cells
        have HAL : Hid ((F k).alike ((F k).flush1 (l.getD k 0))) := SV.alike.flush1 _ _
        generalize l.getD k 0 = n at hcn hcell HFL HNX n0 n5 HAL
        obtain ⟨nk, rfl⟩ : ∃ nk : Nat, n = (nk : Int) := ⟨n.toNat, by omega⟩
        have hnk : ((nk : Int)).toNat = nk := by omega
        rw [hnk] at hcell HFL
        generalize (ys nk).p = xp at hcell HFL
        have k0 : (0 : Int) ≤ (k : Int) := by omega
        have k1 : (k : Int) < (ln : Int) := by omega
        have k2 : decide ((k : Int) < (ln : Int)) = true := decide_eq_true k1
        have k3 : (nk : Int) < 5 := by omega
        clear hF hv hv0 hkl
        go_wp2_with fail
        refine HFL.out.mono ?_
        rintro e w2 ⟨rfl, zs, h1, h2⟩
        have HN2 : Hid (Fl w sp jp lp bp a cap xs s m C j (some ⟨g, o, none⟩) l (F (k + 1)) w2 zs) := by
          obtain ⟨h3, h4⟩ := HF.out.p.acted h1 h2 HAL.out
          have hne : l ≠ [] := by intro e; subst e; simp at hln; omega
          refine ⟨by rw [HNX.out]; exact h3, by rw [HNX.out]; exact HF.out.m.trans h4, HF.out.n.moved h4 HF.out.ap, by rw [HNX.out]; exact HF.out.ap.moved HF.out.n hne h4⟩
        clear h1 h2 HFL HNX HAL HF
        go_wp2
        go_roundw
        case rel =>
          have fin : ∃ (k1 : Nat) (ys : Nat → Ih), k1 ≤ ln ∧ Value.int .i64 ((k : Int) + 1) = .int .i64 (k1 : Int) ∧ Fl w sp jp lp bp a cap xs s m C j (some ⟨g, o, none⟩) l (F k1) w2 ys := ⟨k + 1, zs, by omega, by go_num, HN2.out⟩
          first | exact fin | ((repeat apply Exists.intro); exact ⟨fin, rfl⟩)
        case measure => simp [intOf]; omega
      · have hke : k = l.length := by omega
        have HD : Hid (PDid sp jp lp bp a cap xs s (F ln) m C j w wr) := by
          have h1 := hF.p
          have h2 := hF.m
          rw [hke, hln] at h1 h2
          exact ⟨ys, h1, h2⟩
        have k2 : decide ((k : Int) < (ln : Int)) = false := decide_eq_false (by omega)
        clear hF HF
        go_wp2
        go_ret
        exact ⟨rfl, HD.out⟩
  · have HD0 : Hid (∀ W : World, Below w.heap.size w W → PDid sp jp lp bp a cap xs s (F l.length) m C j w W) := fun W hb => by
      rw [HFN.out hf]
      exact PDid.below HP.out hb
    rw [erV_some hf] at HWK ⊢
    generalize F l.length = z at HD0 ⊢
    generalize l.length = ln at HWK
    clear HP HFS HG HBAD HFN hl5
    go_enter Tryz.func127, Tryz.ntmps127
    go_wp2
    go_region_held3 (fun W => W.cell? ⟨jp, 0, none⟩ = some (.pointer (some ⟨sp, 0, none⟩)) ∧ W.cell? ⟨jp, 3, none⟩ = some (.int .i64 fl))
      (first | (exact ⟨d0, d3⟩) | assumption)
      (first
        | (go_at_call 9; refine HWK.out.mono ?_; rintro e w1 ⟨b, bc, rfl, hn1, ha1, hb1⟩; have HB1 := toHid (HBD.out.trans (hb1.mono HBD.out.size)); have hS1 := HC.out _ HB1.out))
    have HD := toHid (HD0.out _ HB1.out)
    clear hn1 ha1 hb1 hS1 HWK
    go_wp2
    go_ret
    exact ⟨rfl, HD.out⟩

end Go.Proofs.YtjegaljdindfaabGreatDoor

namespace Go.Proofs.YtjegaljdindfaabGreatDoor
open Go.RowKit Go.Maps
attribute [local go_sem ↓] Go.wp_at_zero Go.wp_at_succ

set_option maxRecDepth 100000 in
set_option maxHeartbeats 2000000 in
theorem jsettle_any {sp jp lp bp cap m C : Nat} {a : Option Addr} {xs : Nat → Ih} {s : SV} {j : JV} (w : World) (h : PJ w sp jp lp bp a cap xs s m C j) (hm : m + 10 < 1000000000) :
    Calls Tryz.prog 59 #[.pointer (some ⟨jp, 0, none⟩)] w fun e w' => e = .returned (erV (settleF s j)) ∧ PDid sp jp lp bp a cap xs s (settleS s j) (m + 10) C (settleJ s j) w w' := by
  have HST := toHid (state_any w h.job h.ok.set)
  have HFL := toHid (jflush_any w h)
  have HLK := toHid (jlink_any w h hm)
  have HEN : Hid (∀ (W : World) (z : SV), PDid sp jp lp bp a cap xs s z (m + 10) C j w W → Calls Tryz.prog 61 #[.pointer (some ⟨jp, 0, none⟩), .bool false] W fun e w' => e = .returned (.tuple #[]) ∧ PDid sp jp lp bp a cap xs s z (m + 10) C (j.at 5) w w') := fun W z ⟨ys, h1, h2⟩ => (end_any false W h1).mono fun e w' ⟨h3, h4⟩ => ⟨h3, PDid.after h2 h4⟩
  have HD0 : Hid (PDid sp jp lp bp a cap xs s s (m + 10) C j w w) := (PDid.refl h).more (by omega)
  obtain ⟨c0, c1, c2, c3, _⟩ := h.job.cells
  have hP := h
  clear h
  unfold settleF settleS settleJ
  by_cases h3 : j.state = 3
  · rw [h3] at HST
    by_cases h2 : j.kind = 2
    · have g2 : (j.kind != 2) = false := by simpa using h2
      rw [if_pos h3, if_pos h3, if_pos h2, if_pos h2]
      generalize hR : linkS s (j.l.headD 0) j.file = R at HLK ⊢
      by_cases hf : R.2 = 0
      · rw [if_neg (fun e => e.2.2 hf)]
        rw [hf, erV_0] at HLK
        rw [hf, erV_0]
        clear HFL HEN h3 h2 hP hR
        go_enter Tryz.func59, Tryz.ntmps59
        go_wp2_with fail
        refine HST.out.mono ?_
        rintro e w' ⟨rfl, hw⟩
        have hw' := hw.symm
        subst hw'
        clear hw
        go_wp2_with fail
        refine HLK.out.mono ?_
        rintro e w1 ⟨rfl, hd⟩
        have HD := toHid hd
        clear hd HLK
        go_wp2
        go_ret
        exact ⟨rfl, HD.out⟩
      · rw [if_pos ⟨h3, h2, hf⟩]
        rw [erV_some hf] at HLK ⊢
        clear HFL h3 h2 hP hR
        go_enter Tryz.func59, Tryz.ntmps59
        go_wp2_with fail
        refine HST.out.mono ?_
        rintro e w' ⟨rfl, hw⟩
        have hw' := hw.symm
        subst hw'
        clear hw
        go_wp2_with fail
        refine HLK.out.mono ?_
        rintro e w1 ⟨rfl, hd⟩
        have HE := toHid (HEN.out _ _ hd)
        clear hd HLK HEN
        go_wp2_with fail
        refine HE.out.mono ?_
        rintro e w2 ⟨rfl, hd⟩
        have HD := toHid hd
        clear hd HE
        go_wp2
        go_ret
        exact ⟨rfl, HD.out⟩
    · have g2 : (j.kind != 2) = true := by simpa using h2
      rw [if_pos h3, if_pos h3, if_neg h2, if_neg h2, if_neg (fun e => h2 e.2.1)]
      generalize s.walk j.file = R at HFL ⊢
      clear HLK HEN h3 h2 hP
      go_enter Tryz.func59, Tryz.ntmps59
      go_wp2_with fail
      refine HST.out.mono ?_
      rintro e w' ⟨rfl, hw⟩
      have hw' := hw.symm
      subst hw'
      clear hw
      go_wp2_with fail
      refine HFL.out.mono ?_
      rintro e w1 ⟨rfl, hd⟩
      have HD := toHid (hd.more (show m ≤ m + 10 by omega))
      clear hd HFL
      go_wp2
      go_ret
      exact ⟨rfl, HD.out⟩
  · have g3 : (j.state != 3) = true := by simpa using h3
    rw [if_neg h3, if_neg h3, if_neg (fun e => h3 e.1), erV_some (by decide)]
    clear HFL HLK HEN h3 hP
    generalize j.state = st at HST g3
    go_enter Tryz.func59, Tryz.ntmps59
    go_wp2_with fail
    refine HST.out.mono ?_
    rintro e w' ⟨rfl, hw⟩
    have hw' := hw.symm
    subst hw'
    clear hw
    go_wp2
    go_ret
    exact ⟨rfl, HD0.out⟩
end Go.Proofs.YtjegaljdindfaabGreatDoor
