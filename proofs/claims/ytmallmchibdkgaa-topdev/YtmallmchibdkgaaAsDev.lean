/-
asDev: a device and the document's own one, held against each other; same: an error, told by its number.
-/
import Derived.Test.YtmallmchibdkgaaRefNew
namespace Go.Proofs.Ytmallmchibdkgaa
open Go.RowKit
attribute [local go_sem ↓] Go.wp_at_zero Go.wp_at_succ

theorem setTo_last (d : DV) (i : Nat) (hi : i < d.fl.length) (k : Nat) (hk : k ≤ d.pend.length) : (setTo d.pend d.fl k).getD i [] = lastTo d i k := by
  induction k with
  | zero => rfl
  | succ k ih =>
    have h2 := ih (by omega)
    by_cases e : (d.pend.getD k (0, [])).1 = i
    · rw [lastTo_yes e]
      show ((setTo d.pend d.fl k).set (d.pend.getD k (0, [])).1 (d.pend.getD k (0, [])).2).getD i [] = _
      rw [e, List.getD_eq_getElem?_getD, List.getElem?_set_self (by rw [setTo_len]; exact hi)]; rfl
    · rw [lastTo_no e, ← h2]
      show ((setTo d.pend d.fl k).set (d.pend.getD k (0, [])).1 (d.pend.getD k (0, [])).2).getD i [] = _
      rw [List.getD_eq_getElem?_getD, List.getElem?_set_ne e, ← List.getD_eq_getElem?_getD]

theorem seen_last {d : DV} (hs : d.sn) (i : Nat) (hi : i < d.fl.length) : d.seen.getD i [] = lastTo d i d.pend.length := by
  rw [hs]; exact setTo_last d i hi _ (Nat.le_refl _)

set_option maxRecDepth 100000 in
set_option maxHeartbeats 400000 in
theorem same_nil (f : Int) (w : World) : Calls Try.prog 19 #[.nilIface, .int .i64 f] w fun e w' => e = .returned (.bool (f == 0)) ∧ w' = w := by
  go_enter Try.func19, Try.ntmps19
  go_wp2
  go_ret
  exact ⟨rfl, rfl⟩

set_option maxRecDepth 100000 in
set_option maxHeartbeats 400000 in
theorem same_err (n : Int) (w : World) (h0 : 0 < n) : Calls Try.prog 19 #[.iface 102 (.int .i64 n), .int .i64 n] w fun e w' => e = .returned (.bool true) ∧ w' = w := by
  have hta : ∀ w : World, (Instr.typeAssert (.iface 102 (.int .i64 n)) 36 102 true).run Try.prog w = .ok (.tuple #[.int .i64 n, .bool true]) w := fun _ => by kernel_rfl
  go_enter Try.func19, Try.ntmps19
  go_wp2
  go_ret
  exact ⟨rfl, rfl⟩

set_option maxRecDepth 100000 in
set_option maxHeartbeats 1000000 in
theorem asDev_any {B B' : Nat} {h : Hd} {q : Rh} {d : DV} (w : World) (hd : IsDev B w h d) (hr : IsRef B' w q d) (hs : d.sn) :
    Calls Try.prog 32 #[.pointer (some ⟨h.p, 0, none⟩), .pointer (some ⟨q.p, 0, none⟩)] w fun e w' => e = .returned (.bool true) ∧ Below w.heap.size w w' := by
  obtain ⟨c0, c1, c2, c3, c4, fz⟩ := hr.cells
  obtain ⟨a1, k1, e1⟩ := ownsRow_shape hr.o1
  rw [e1] at c1
  have hpl : q.p < w.heap.size := (hr.lt q.p (.inl rfl)).2
  have HKD : Hid (∀ W : World, Below w.heap.size w W → IsDev B W h d) := fun W hb => hd.keep fun k hk => hb.block k (hd.lt k hk).2
  have HKR : Hid (∀ W : World, Below w.heap.size w W → IsRef B' W q d) := fun W hb => hr.keep fun k hk => hb.block k (hr.lt k hk).2
  have HS : Hid d.sn := hs
  have h200 := hd.ok.n2
  have HOK : Hid d.ok := hd.ok
  clear hd hr hs fz c2 c3 e1
  go_enter Try.func32, Try.ntmps32
  go_wp2
  go_region_held3 (fun w' => Below w.heap.size w w' ∧ w'.cell? ⟨q.p, 0, none⟩ = some (.slice (some ⟨q.bf, 0, none⟩) d.fl.length q.cf) ∧ w'.cell? ⟨q.p, 1, none⟩ = some (.slice a1 d.pend.length k1) ∧ w'.cell? ⟨q.p, 4, none⟩ = some (.int .i64 (d.wr : Int)))
    (first | (exact ⟨Below.drew (Below.refl _ _), c0, c1, c4⟩) | assumption | (exact ⟨by assumption, (Below.cell (by assumption) hpl).trans c0, (Below.cell (by assumption) hpl).trans c1, (Below.cell (by assumption) hpl).trans c4⟩))
    (first
      | (go_at_call 21; refine (size_any _ (HKD.out _ ?_)).mono ?_; (· exact (by assumption : Below w.heap.size w _ ∧ _).1); rintro e w' ⟨rfl, rfl⟩)
      | (go_at_call 57; refine (pending_any _ (HKD.out _ ?_)).mono ?_; (· exact (by assumption : Below w.heap.size w _ ∧ _).1); rintro e w' ⟨rfl, rfl⟩)
      | (go_at_call 62; refine (writes_any _ (HKD.out _ ?_)).mono ?_; (· exact (by assumption : Below w.heap.size w _ ∧ _).1); rintro e w' ⟨rfl, rfl⟩)
      | (go_at_call 20; refine (bytes_dev _ (HKD.out _ ?_)).mono ?_; (· exact (by assumption : Below w.heap.size w _ ∧ _).1); rintro e w' ⟨rfl, hb'⟩; have hB' := Below.trans (by assumption : Below w.heap.size w _ ∧ _).1 (hb'.mono (by assumption : Below w.heap.size w _ ∧ _).1.size))
      | (go_at_call 63; refine (refBytes_any _ (HKR.out _ ?_) h200 HOK.out.l1).mono ?_; (· exact (by assumption : Below w.heap.size w _ ∧ _).1); rintro e w' ⟨rfl, rfl⟩))
  have hst := (by assumption : Below w.heap.size w _ ∧ _).1
  go_wp2
  go_loopw [5] (fun i wr => ∃ k : Nat, k ≤ d.fl.length ∧ i = .int .i64 k ∧ Below w.heap.size w wr) (fun i _ => d.fl.length - (intOf i).toNat)
  case atStart => exact ⟨0, Nat.zero_le _, rfl, hst⟩
  case round =>
    obtain ⟨k, hk, rfl, hbel⟩ := hrel
    have c0' : wr.cell? ⟨q.p, 0, none⟩ = some (.slice (some ⟨q.bf, 0, none⟩) d.fl.length q.cf) := (hbel.cell hpl).trans c0
    by_cases hlt : k < d.fl.length
    · have hrd := read_yes k wr (HKD.out wr hbel) hlt
      rw [seen_last HS.out k hlt] at hrd
      have HRD : Hid (Calls Try.prog 26 #[.pointer (some ⟨h.p, 0, none⟩), .int .i64 (k : Int)] wr fun e w' => e = .returned (.tuple #[.string (bytesOf (lastTo d k d.pend.length)), .nilIface]) ∧ w' = wr) := hrd
      have HSE : Hid (Calls Try.prog 27 #[.pointer (some ⟨q.p, 0, none⟩), .int .i64 (k : Int)] wr fun e w' => e = .returned (.string (bytesOf (lastTo d k d.pend.length))) ∧ w' = wr) := seen_any k wr (HKR.out wr hbel) hlt (by have := HOK.out.few; have := HOK.out.few2; omega)
      have HBL : Hid (Below w.heap.size w wr) := hbel
      clear hrd hbel
      generalize bytesOf (lastTo d k d.pend.length) = x at HRD HSE
      go_wp2_with fail
      refine HRD.out.mono ?_
      rintro e w' ⟨rfl, hw⟩
      have hw' := hw.symm
      subst hw'
      clear hw
      go_wp2_with fail
      refine HSE.out.mono ?_
      rintro e w' ⟨rfl, hw⟩
      have hw' := hw.symm
      subst hw'
      clear hw
      go_wp2
      go_roundw
      case rel =>
        have fin : ∃ k' : Nat, k' ≤ d.fl.length ∧ Value.int .i64 ((k : Int) + 1) = .int .i64 k' ∧ Below w.heap.size w wr := ⟨k + 1, by omega, by go_num, HBL.out⟩
        first | exact fin | ((repeat apply Exists.intro); exact ⟨fin, rfl⟩)
      case measure => simp [intOf]; omega
    · go_wp2
      go_ret
      exact ⟨rfl, hbel⟩
end Go.Proofs.Ytmallmchibdkgaa
