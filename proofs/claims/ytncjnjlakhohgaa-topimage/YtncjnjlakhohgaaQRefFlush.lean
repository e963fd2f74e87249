/-
Flush, Crash and NewDev of the document's own device.
-/
import Derived.Test.YtncjnjlakhohgaaQRefWrite
namespace Go.Proofs.Ytncjnjlakhohgaa
open Go.RowKit
attribute [local go_sem ↓] Go.wp_at_zero Go.wp_at_succ

/- All pending writes over what is flushed, the first k of them. -/
def setTo (pend : List (Nat × List UInt8)) (l : List (List UInt8)) : Nat → List (List UInt8)
  | 0 => l
  | k + 1 => (setTo pend l k).set (pend.getD k (0, [])).1 (pend.getD k (0, [])).2

theorem setTo_len (pend : List (Nat × List UInt8)) (l : List (List UInt8)) (k : Nat) : (setTo pend l k).length = l.length := by
  induction k with
  | zero => rfl
  | succ k ih => simp [setTo, ih]

def DV.sn (d : DV) : Prop := d.seen = setTo d.pend d.fl d.pend.length

theorem flS_set (l : List (List UInt8)) (i : Nat) (s : List UInt8) : flS (l.set i s) = (flS l).set i (.string (bytesOf s)) := by
  simp [flS, List.map_set]

/- One sector of what is flushed is set. -/
theorem RefIn.setF {B : Nat} {w : World} {q : Rh} {fl : List (List UInt8)} {n1 n2 : Nat} {l1 l2 : List Value} {fail wr : Int} (h : RefIn B w q fl n1 l1 n2 l2 fail wr) (i : Nat) (s : List UInt8) :
    RefIn B (w.setCell ⟨q.bf, i, none⟩ (.string (bytesOf s))) q (fl.set i s) n1 l1 n2 l2 fail wr := by
  obtain ⟨a1, a2, a3, a4, a5, hpl, hfl⟩ := h.apart
  refine ⟨h.pB, ?_, ?_, ?_, ?_, h.ne⟩
  · rw [heap_setCell_other _ _ _ _ (Ne.symm a1), List.length_set]; exact h.blk
  · rw [List.length_set, flS_set]; exact (h.of.stored i _).1
  · exact ownsRow_keep h.o1 (fun k e => heap_setCell_other _ _ _ _ (fun e2 => a4 (by rw [e]; exact congrArg some e2)))
  · exact ownsRow_keep h.o2 (fun k e => heap_setCell_other _ _ _ _ (fun e2 => h.ne (by rw [e]; exact congrArg some e2)))

theorem RefIn.drew {B : Nat} {w : World} {q : Rh} {fl : List (List UInt8)} {n1 n2 : Nat} {l1 l2 : List Value} {fail wr : Int} (h : RefIn B w q fl n1 l1 n2 l2 fail wr) : RefIn B w.drew q fl n1 l1 n2 l2 fail wr :=
  ⟨h.pB, h.blk, h.of, h.o1, h.o2, h.ne⟩

theorem RefIn.cell0 {B : Nat} {w : World} {q : Rh} {fl : List (List UInt8)} {n1 n2 : Nat} {l1 l2 : List Value} {fail wr : Int} (h : RefIn B w q fl n1 l1 n2 l2 fail wr) : w.cell? ⟨q.p, 0, none⟩ = some (.slice (some ⟨q.bf, 0, none⟩) fl.length q.cf) := by
  rw [cell_of_row w q.p _ _ _ _ h.blk]; rfl

theorem RefIn.emptied {B : Nat} {w : World} {q : Rh} {d : DV} (hs : d.sn) (h : RefIn B w q (setTo d.pend d.fl d.pend.length) d.pend.length (atS d.pend) d.pend.length (whS d.pend) d.fail (d.wr : Int)) :
    IsRef B ((w.setCell ⟨q.p, 1, none⟩ (.slice none 0 0)).setCell ⟨q.p, 2, none⟩ (.slice none 0 0)) { q with v1 := .slice none 0 0, v2 := .slice none 0 0 } d.flushed := by
  obtain ⟨a1, a2, a3, a4, a5, hpl, hfl⟩ := h.apart
  have hb1 := heap_setCell_same w q.p 1 _ _ (.slice none 0 0) h.blk
  refine ⟨h.pB, ?_, ?_, World.ownsRow_nil _ _ _ _, World.ownsRow_nil _ _ _ _, fun e => by cases e⟩
  · show ((w.setCell ⟨q.p, 1, none⟩ (.slice none 0 0)).setCell ⟨q.p, 2, none⟩ (.slice none 0 0)).heap[q.p]? = some (.cells #[.slice (some ⟨q.bf, 0, none⟩) d.seen.length q.cf, .slice none 0 0, .slice none 0 0, .int .i64 d.fail, .int .i64 (d.wr : Int)] 55 (0, 0))
    rw [heap_setCell_same _ q.p 2 _ _ _ hb1, hs]; rfl
  · show World.ownsRow _ B 9 1 (.slice (some ⟨q.bf, 0, none⟩) d.seen.length q.cf) d.seen.length (flS d.seen)
    rw [hs]
    exact ownsRow_keep h.of (fun k e => by
      have : q.bf = k := by simpa [Value.ownBlock] using e
      subst this
      rw [heap_setCell_other _ _ _ _ a1, heap_setCell_other _ _ _ _ a1])

set_option maxRecDepth 100000 in
set_option maxHeartbeats 1000000 in
theorem refFlush_any {B : Nat} {q : Rh} {d : DV} (w : World) (hd : IsRef B w q d) (hok : d.ok) (hs : d.sn) :
    Calls Try.prog 30 #[.pointer (some ⟨q.p, 0, none⟩)] w fun e w' => e = .returned (.tuple #[]) ∧ IsRef B w' { q with v1 := .slice none 0 0, v2 := .slice none 0 0 } d.flushed ∧ Kept q.fp w w' := by
  obtain ⟨a1, k1, e1⟩ := ownsRow_shape hd.o1
  obtain ⟨a2, k2, e2⟩ := ownsRow_shape hd.o2
  have HE1 : Hid (q.v1 = .slice a1 d.pend.length k1) := e1
  have HE2 : Hid (q.v2 = .slice a2 d.pend.length k2) := e2
  have HR : Hid (RefIn B w q d.fl d.pend.length (atS d.pend) d.pend.length (whS d.pend) d.fail (d.wr : Int)) := hd.inn
  have h200 := hok.n2
  have hpw := hok.few
  have hpw2 := hok.few2
  have HL : Hid (∀ x ∈ d.pend, x.1 < d.fl.length ∧ x.2.length = 16) := hok.l3
  have HS : Hid d.sn := hs
  clear hd hok hs e1 e2
  go_enter Try.func30, Try.ntmps30
  go_wp2
  go_loopw [2] (fun i wr => ∃ k : Nat, k ≤ d.pend.length ∧ i = .int .i64 k ∧ RefIn B wr q (setTo d.pend d.fl k) d.pend.length (atS d.pend) d.pend.length (whS d.pend) d.fail (d.wr : Int) ∧ Kept q.fp w wr) (fun i _ => d.pend.length - (intOf i).toNat)
  case atStart => exact ⟨0, Nat.zero_le _, rfl, HR.out, Kept.refl _ _⟩
  case round =>
    obtain ⟨k, hk, rfl, hr, hkp⟩ := hrel
    obtain ⟨c1, c2, c4, fz⟩ := hr.cells
    have c0 := hr.cell0
    rw [setTo_len] at c0
    rw [HE1.out] at c1
    rw [HE2.out] at c2
    have HRk : Hid (RefIn B wr q (setTo d.pend d.fl k) d.pend.length (atS d.pend) d.pend.length (whS d.pend) d.fail (d.wr : Int)) := hr
    have HKk : Hid (Kept q.fp w wr) := hkp
    by_cases hlt : k < d.pend.length
    · obtain ⟨g1, z1, f1, q1, _⟩ := ownsRow_cell hr.o1 k hlt
      obtain ⟨g2, z2, f2, q2, _⟩ := ownsRow_cell hr.o2 k hlt
      rw [HE1.out] at f1
      rw [HE2.out] at f2
      cases f1
      cases f2
      rw [atS_at _ _ hlt] at q1
      rw [whS_at _ _ hlt] at q2
      have hxm : d.pend.getD k (0, []) ∈ d.pend := by
        rw [List.getD_eq_getElem?_getD, List.getElem?_eq_getElem hlt]; exact List.getElem_mem _
      have hx1 := (HL.out _ hxm).1
      have HX : Hid (setTo d.pend d.fl (k + 1) = (setTo d.pend d.fl k).set (d.pend.getD k (0, [])).1 (d.pend.getD k (0, [])).2) := rfl
      have cf := hr.of.cellAt (d.pend.getD k (0, [])).1 (by rw [setTo_len]; omega)
      rw [flS_at _ _ (by rw [setTo_len]; exact hx1)] at cf
      have ff := hr.of.frozenAt (d.pend.getD k (0, [])).1
      clear hxm hr hkp c4 fz
      generalize d.pend.getD k (0, []) = x at q1 q2 hx1 HX cf ff
      have hxi0 : (0 : Int) ≤ (x.1 : Int) := by omega
      have hxi1 : (x.1 : Int) < (d.fl.length : Int) := by omega
      have hki0 : (0 : Int) ≤ (k : Int) := by omega
      have hki1 : (k : Int) < (d.pend.length : Int) := by omega
      go_wp2
      go_region
      go_wp2
      go_roundw
      case rel =>
        have fin : ∃ k' : Nat, k' ≤ d.pend.length ∧ Value.int .i64 ((k : Int) + 1) = .int .i64 k' ∧ RefIn B ((wr.setCell ⟨q.bf, x.1, none⟩ (.string (bytesOf x.2))).drew) q (setTo d.pend d.fl k') d.pend.length (atS d.pend) d.pend.length (whS d.pend) d.fail (d.wr : Int) ∧ Kept q.fp w ((wr.setCell ⟨q.bf, x.1, none⟩ (.string (bytesOf x.2))).drew) :=
          ⟨k + 1, by omega, by go_num, by rw [HX.out]; exact (HRk.out.setF x.1 x.2).drew, (HKk.out.setCell (.inl (.inr (.inl rfl))) _).drew⟩
        first | exact fin | ((repeat apply Exists.intro); exact ⟨fin, rfl⟩)
      case measure => simp [intOf]; omega
    · have hkn : k = d.pend.length := by omega
      subst hkn
      have f1 := fz 1
      have f2 := fz 2
      clear hr hkp fz
      go_wp2
      go_end0
      exact ⟨rfl, HRk.out.emptied HS.out, (HKk.out.setCell (.inl (.inl rfl)) _).setCell (.inl (.inl rfl)) _⟩
end Go.Proofs.Ytncjnjlakhohgaa
