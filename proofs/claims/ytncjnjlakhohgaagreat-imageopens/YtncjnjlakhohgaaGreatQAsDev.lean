/-
The document's own image: Write, Clear, Fill.
asDev: a device and the document's own one, held against each other; same: an error, told by its number.
-/
import Derived.Test.YtncjnjlakhohgaaGreatQRimSet
import Derived.Test.YtncjnjlakhohgaaGreatQRefNew
namespace Go.Proofs.YtncjnjlakhohgaaGreat
open Go.RowKit Go.Maps
attribute [local go_sem ↓] Go.wp_at_zero Go.wp_at_succ

theorem didR_same {B : Nat} {w w' : World} {q : Qh} {v : IV} {f : Int} (h : IsRim B w q v) (hb : Below w.heap.size w w') : DidR B w q v f (.returned (.int .i64 f)) w' := ⟨q, rfl, Led.below h hb⟩

set_option maxRecDepth 100000 in
set_option maxHeartbeats 1000000 in
theorem write_rim {B m : Nat} {q : Qh} {v : IV} (c fr : Int) (s : ByteArray) (w : World) (h : IsRim B w q v) (hok : v.ok m) (hm : m + 10 < 1000000000) (hB : B ≤ w.heap.size) (hs : s.size ≤ 1000) (hf : -9223372036854775808 ≤ fr ∧ fr ≤ 9223372036854775807) :
    Calls Tryz.prog 48 #[.pointer (some ⟨q.p, 0, none⟩), .int .i64 c, .int .i64 fr, .string s] w (DidR B w q (v.write c fr s) (v.writeF c fr s)) := by
  have HTH := toHid (there_rim c w h hok.len)
  have HI := toHid h
  cases hw : wrOk v c fr s with
  | false =>
    have e1 : v.write c fr s = v := by unfold IV.write; rw [hw, if_neg (fun h => by cases h.1)]
    have e2 : v.writeF c fr s = 1 := by unfold IV.writeF; rw [hw]; rfl
    rw [e1, e2]
    have HD : Hid (DidR B w q v 1 (.returned (.int .i64 1)) w) := didR_same h (Below.refl _ _)
    clear h hok e1 e2
    cases hc : v.there c with
    | false =>
      rw [hc] at HTH
      clear hc hw
      go_enter Tryz.func48, Tryz.ntmps48
      go_wp2_with (go_at_call 63; refine HTH.out.mono ?_; rintro e w' ⟨rfl, hw⟩; have hw' := hw.symm; subst hw'; clear hw)
      go_ret
      exact HD.out
    | true =>
      have hd : ¬ (0 ≤ fr ∧ fr ≤ 4 ∧ s.size % 16 = 0 ∧ (s.size : Int) ≤ 16 * (4 - fr)) := by
        unfold wrOk at hw
        rw [hc, Bool.true_and] at hw
        exact of_decide_eq_false hw
      rw [hc] at HTH
      clear hc hw
      by_cases h1 : fr < 0
      · have g1 : decide (fr < 0) = true := decide_eq_true h1
        go_enter Tryz.func48, Tryz.ntmps48
        go_wp2_with (go_at_call 63; refine HTH.out.mono ?_; rintro e w' ⟨rfl, hw⟩; have hw' := hw.symm; subst hw'; clear hw)
        go_ret
        exact HD.out
      · have g1 : decide (fr < 0) = false := decide_eq_false h1
        by_cases h2 : 4 < fr
        · have g2 : decide (4 < fr) = true := decide_eq_true h2
          go_enter Tryz.func48, Tryz.ntmps48
          go_wp2_with (go_at_call 63; refine HTH.out.mono ?_; rintro e w' ⟨rfl, hw⟩; have hw' := hw.symm; subst hw'; clear hw)
          go_ret
          exact HD.out
        · have g2 : decide (4 < fr) = false := decide_eq_false h2
          by_cases h3 : s.size % 16 = 0
          · have g3 : decide (0 < (s.size : Int) % 16) = false := by simp; omega
            have g4 : decide (16 * (4 - fr) < (s.size : Int)) = true := by simp; omega
            go_enter Tryz.func48, Tryz.ntmps48
            go_wp2_with (go_at_call 63; refine HTH.out.mono ?_; rintro e w' ⟨rfl, hw⟩; have hw' := hw.symm; subst hw'; clear hw)
            go_ret
            exact HD.out
          · have g3 : decide (0 < (s.size : Int) % 16) = true := by simp; omega
            go_enter Tryz.func48, Tryz.ntmps48
            go_wp2_with (go_at_call 63; refine HTH.out.mono ?_; rintro e w' ⟨rfl, hw⟩; have hw' := hw.symm; subst hw'; clear hw)
            go_ret
            exact HD.out
  | true =>
    obtain ⟨h1, h2, h3, h4, h5⟩ := wrOk_of hw
    obtain ⟨t0', t1'⟩ := IV.there_of h1
    rw [h1] at HTH
    have g1 : decide (fr < 0) = false := decide_eq_false (by omega)
    have g2 : decide (4 < fr) = false := decide_eq_false (by omega)
    have g3 : decide (0 < (s.size : Int) % 16) = false := by simp; omega
    have g4 : decide (16 * (4 - fr) < (s.size : Int)) = false := by simp; omega
    obtain ⟨cn, rfl⟩ : ∃ cn : Nat, c = (cn : Int) := ⟨c.toNat, by omega⟩
    obtain ⟨g, cap, hv, _, t0, t1⟩ := h.entAt (c := cn) (by omega)
    have c4 := h.cells.2.2.2.2.1
    rw [hv] at c4
    have HEN : Hid (v.ent (cn : Int) = v.t.getD cn (0, 0)) := rfl
    by_cases hk : (v.ent (cn : Int)).1 = 2
    · obtain ⟨p0, p1, p2⟩ := hok.place h1 hk
      have hbo := HV.of_ok hok.h
      have HV : Hid (v.write (cn : Int) fr s = { v with d := (v.writeD (cn : Int) fr s).1 }) := by unfold Hid IV.write; rw [if_pos ⟨hw, hk⟩]
      have HF : Hid (v.writeF (cn : Int) fr s = (v.writeD (cn : Int) fr s).2) := by unfold Hid IV.writeF; rw [hw, if_pos rfl, if_pos hk]
      have HFI : Hid (Calls Tryz.prog 81 #[.pointer (some ⟨q.p, 0, none⟩), .int .i64 (v.ent (cn : Int)).2] w fun e w' => e = .returned (.int .i64 (beginN v.h (v.ent (cn : Int)).2.toNat : Int)) ∧ w' = w) := by
        have := first_rim (v.ent (cn : Int)).2.toNat w h hok.h (by omega)
        rw [show (((v.ent (cn : Int)).2.toNat : Nat) : Int) = (v.ent (cn : Int)).2 by omega] at this; exact this
      have HSE : Hid (Calls Tryz.prog 80 #[.pointer (some ⟨q.p, 0, none⟩), .int .i64 ((beginN v.h (v.ent (cn : Int)).2.toNat : Int) + fr), .string s] w (DidR B w q (v.write (cn : Int) fr s) (v.writeF (cn : Int) fr s))) := by
        have := sectors_rim (beginN v.h (v.ent (cn : Int)).2.toNat + fr.toNat) (s.size / 16) s w h hok.d (by omega) hB (by omega) (by omega) (by omega)
        rw [show (((beginN v.h (v.ent (cn : Int)).2.toNat + fr.toNat : Nat) : Int)) = (beginN v.h (v.ent (cn : Int)).2.toNat : Int) + fr by omega] at this
        rw [HV.out, HF.out]
        exact this
      have hn2 := hok.d.ok.n2
      generalize v.write (cn : Int) fr s = V at HSE ⊢
      generalize v.writeF (cn : Int) fr s = f at HSE ⊢
      rw [← HEN.out, hk] at t0
      rw [← HEN.out] at t1
      generalize beginN v.h (v.ent (cn : Int)).2.toNat = bn at HFI HSE p2
      generalize (v.ent (cn : Int)).2 = y1 at t1 HFI
      clear h hok h1 h5 h4 hw p0 p1 hbo hk HV HF HEN hv
      have k0 : (0 : Int) ≤ (cn : Int) := by omega
      generalize v.t.length = n at c4 t1'
      go_enter Tryz.func48, Tryz.ntmps48
      go_wp2_with (first
        | (go_at_call 63; refine HTH.out.mono ?_; rintro e w' ⟨rfl, hw⟩; have hw' := hw.symm; subst hw'; clear hw)
        | (go_at_call 81; refine HFI.out.mono ?_; rintro e w' ⟨rfl, hw⟩; have hw' := hw.symm; subst hw'; clear hw))
      refine HSE.out.mono ?_
      rintro e w2 ⟨q2, rfl, hl⟩
      have HD : Hid (DidR B w q V f (.returned (.int .i64 f)) w2) := ⟨q2, rfl, hl⟩
      clear hl
      go_wp2
      go_ret
      exact HD.out
    · have e3 : v.write (cn : Int) fr s = v := by unfold IV.write; rw [if_neg (fun h => hk h.2)]
      have e4 : v.writeF (cn : Int) fr s = 4 := by unfold IV.writeF; rw [hw, if_pos rfl, if_neg hk]
      rw [e3, e4]
      have HD : Hid (DidR B w q v 4 (.returned (.int .i64 4)) w) := didR_same h (Below.refl _ _)
      rw [← HEN.out] at t0
      generalize (v.ent (cn : Int)).1 = y0 at t0 hk
      have g5 : (y0 != 2) = true := by simpa using hk
      have k0 : (0 : Int) ≤ (cn : Int) := by omega
      clear h hok h1 h5 h4 hw e3 e4 hk HEN hv t1
      generalize v.t.length = n at c4 t1'
      go_enter Tryz.func48, Tryz.ntmps48
      go_wp2_with (go_at_call 63; refine HTH.out.mono ?_; rintro e w' ⟨rfl, hw⟩; have hw' := hw.symm; subst hw'; clear hw)
      go_ret
      exact HD.out

set_option maxRecDepth 100000 in
set_option maxHeartbeats 1000000 in
theorem clear_rim {B m : Nat} {q : Qh} {v : IV} (c : Int) (w : World) (h : IsRim B w q v) (hok : v.ok m) (hm : m + 10 < 1000000000) (hB : B ≤ w.heap.size) :
    Calls Tryz.prog 51 #[.pointer (some ⟨q.p, 0, none⟩), .int .i64 c] w (DidR B w q (v.clear c) (v.clearF c)) := by
  have HTH := toHid (there_rim c w h hok.len)
  cases hc : v.there c with
  | false =>
    have e3 : v.clear c = v := by unfold IV.clear; rw [hc, if_neg (fun h => by cases h.1)]
    have e4 : v.clearF c = 1 := by unfold IV.clearF; rw [hc]; rfl
    rw [hc] at HTH
    rw [e3, e4]
    have HD : Hid (DidR B w q v 1 (.returned (.int .i64 1)) w) := didR_same h (Below.refl _ _)
    clear h hok hc e3 e4
    go_enter Tryz.func51, Tryz.ntmps51
    go_wp2_with (go_at_call 63; refine HTH.out.mono ?_; rintro e w' ⟨rfl, hw⟩; have hw' := hw.symm; subst hw'; clear hw)
    go_ret
    exact HD.out
  | true =>
    rw [hc] at HTH
    obtain ⟨t0', t1'⟩ := IV.there_of hc
    obtain ⟨cn, rfl⟩ : ∃ cn : Nat, c = (cn : Int) := ⟨c.toNat, by omega⟩
    obtain ⟨g, cap, hv, _, t0, t1⟩ := h.entAt (c := cn) (by omega)
    have c4 := h.cells.2.2.2.2.1
    rw [hv] at c4
    have HEN : Hid (v.ent (cn : Int) = v.t.getD cn (0, 0)) := rfl
    rw [← HEN.out] at t0
    have k0 : (0 : Int) ≤ (cn : Int) := by omega
    by_cases h1 : (v.ent (cn : Int)).1 = 1
    · have e3 : v.clear (cn : Int) = v := by unfold IV.clear; rw [if_neg (fun h => h.2 h1)]
      have e4 : v.clearF (cn : Int) = 0 := by unfold IV.clearF; rw [hc, if_pos rfl, if_pos h1]
      rw [e3, e4]
      rw [h1] at t0
      have HD : Hid (DidR B w q v 0 (.returned (.int .i64 0)) w) := didR_same h (Below.refl _ _)
      clear h hok hc e3 e4 h1 hv t1 HEN
      generalize v.t.length = n at c4 t1'
      go_enter Tryz.func51, Tryz.ntmps51
      go_wp2_with (go_at_call 63; refine HTH.out.mono ?_; rintro e w' ⟨rfl, hw⟩; have hw' := hw.symm; subst hw'; clear hw)
      go_ret
      exact HD.out
    · have HST : Hid (Calls Tryz.prog 83 #[.pointer (some ⟨q.p, 0, none⟩), .int .i64 (cn : Int), .agg #[.int .i64 1, .int .i64 0]] w (DidR B w q (v.clear (cn : Int)) (v.clearF (cn : Int)))) := by
        have := set_rim cn 1 0 w h hok (by omega) hB (by omega) (entB_yes (.inr ⟨.inr rfl, rfl⟩))
        have e3 : v.clear (cn : Int) = v.set cn (1, 0) := by unfold IV.clear; rw [if_pos ⟨hc, h1⟩]; rfl
        have e4 : v.clearF (cn : Int) = v.d.putF := by unfold IV.clearF; rw [hc, if_pos rfl, if_neg h1]
        rw [e3, e4]
        exact this
      generalize v.clear (cn : Int) = V at HST ⊢
      generalize v.clearF (cn : Int) = f at HST ⊢
      clear h hok hc hv t1 HEN
      generalize (v.ent (cn : Int)).1 = y0 at t0 h1
      have g1 : (y0 == 1) = false := by simpa using h1
      clear h1
      generalize v.t.length = n at c4 t1'
      go_enter Tryz.func51, Tryz.ntmps51
      go_wp2_with (go_at_call 63; refine HTH.out.mono ?_; rintro e w' ⟨rfl, hw⟩; have hw' := hw.symm; subst hw'; clear hw)
      refine HST.out.mono ?_
      rintro e w2 ⟨q2, rfl, hl⟩
      have HD : Hid (DidR B w q V f (.returned (.int .i64 f)) w2) := ⟨q2, rfl, hl⟩
      clear hl
      go_wp2
      go_ret
      exact HD.out
end Go.Proofs.YtncjnjlakhohgaaGreat

namespace Go.Proofs.YtncjnjlakhohgaaGreat
open Go.RowKit
attribute [local go_sem ↓] Go.wp_at_zero Go.wp_at_succ

theorem setTo_last (d : DV) (i : Nat) (hi : i < d.fl.length) (k : Nat) (hk : k ≤ d.pend.length) : (setTo d.pend d.fl k).getD i [] = lastTo d i k := by
  induction k with
  | zero => rfl
  | succ k ih =>
    have h2 := ih (by omega)
    by_cases e : (d.pend.getD k (0, [])).1 = i
    · rw [lastTo_yes e]
      show ((setTo d.pend d.fl k).set (d.pend.getD k (0, [])).1 (d.pend.getD k (0, [])).2).getD i [] = _
      rw [e, List.getD_eq_getElem?_getD, List.getElem?_set_self (by rw [setTo_len]; exact hi)]; rfl
    · rw [lastTo_no e, ← h2]
      show ((setTo d.pend d.fl k).set (d.pend.getD k (0, [])).1 (d.pend.getD k (0, [])).2).getD i [] = _
      rw [List.getD_eq_getElem?_getD, List.getElem?_set_ne e, ← List.getD_eq_getElem?_getD]

theorem seen_last {d : DV} (hs : d.sn) (i : Nat) (hi : i < d.fl.length) : d.seen.getD i [] = lastTo d i d.pend.length := by
  rw [hs]; exact setTo_last d i hi _ (Nat.le_refl _)

set_option maxRecDepth 100000 in
set_option maxHeartbeats 400000 in
theorem same_nil (f : Int) (w : World) : Calls Tryz.prog 11 #[.nilIface, .int .i64 f] w fun e w' => e = .returned (.bool (f == 0)) ∧ w' = w := by
  go_enter Tryz.func11, Tryz.ntmps11
  go_wp2
  go_ret
  exact ⟨rfl, rfl⟩

set_option maxRecDepth 100000 in
set_option maxHeartbeats 400000 in
theorem same_err (n : Int) (w : World) (h0 : 0 < n) : Calls Tryz.prog 11 #[.iface 63 (.int .i64 n), .int .i64 n] w fun e w' => e = .returned (.bool true) ∧ w' = w := by
  have hta : ∀ w : World, (Instr.typeAssert (.iface 63 (.int .i64 n)) 29 63 true).run Tryz.prog w = .ok (.tuple #[.int .i64 n, .bool true]) w := fun _ => by kernel_rfl
  go_enter Tryz.func11, Tryz.ntmps11
  go_wp2
  go_ret
  exact ⟨rfl, rfl⟩

set_option maxRecDepth 100000 in
set_option maxHeartbeats 1000000 in
theorem asDev_any {B B' : Nat} {h : Hd} {q : Rh} {d : DV} (w : World) (hd : IsDev B w h d) (hr : IsRef B' w q d) (hs : d.sn) :
    Calls Tryz.prog 60 #[.pointer (some ⟨h.p, 0, none⟩), .pointer (some ⟨q.p, 0, none⟩)] w fun e w' => e = .returned (.bool true) ∧ Below w.heap.size w w' := by
  obtain ⟨c0, c1, c2, c3, c4, fz⟩ := hr.cells
  obtain ⟨a1, k1, e1⟩ := ownsRow_shape hr.o1
  rw [e1] at c1
  have hpl : q.p < w.heap.size := (hr.lt q.p (.inl rfl)).2
  have HKD : Hid (∀ W : World, Below w.heap.size w W → IsDev B W h d) := fun W hb => hd.keep fun k hk => hb.block k (hd.lt k hk).2
  have HKR : Hid (∀ W : World, Below w.heap.size w W → IsRef B' W q d) := fun W hb => hr.keep fun k hk => hb.block k (hr.lt k hk).2
  have HS : Hid d.sn := hs
  have h200 := hd.ok.n2
  have HOK : Hid d.ok := hd.ok
  clear hd hr hs fz c2 c3 e1
  go_enter Tryz.func60, Tryz.ntmps60
  go_wp2
  go_region_held3 (fun w' => Below w.heap.size w w' ∧ w'.cell? ⟨q.p, 0, none⟩ = some (.slice (some ⟨q.bf, 0, none⟩) d.fl.length q.cf) ∧ w'.cell? ⟨q.p, 1, none⟩ = some (.slice a1 d.pend.length k1) ∧ w'.cell? ⟨q.p, 4, none⟩ = some (.int .i64 (d.wr : Int)))
    (first | (exact ⟨Below.drew (Below.refl _ _), c0, c1, c4⟩) | assumption | (exact ⟨by assumption, (Below.cell (by assumption) hpl).trans c0, (Below.cell (by assumption) hpl).trans c1, (Below.cell (by assumption) hpl).trans c4⟩))
    (first
      | (go_at_call 21; refine (size_any _ (HKD.out _ ?_)).mono ?_; (· exact (by assumption : Below w.heap.size w _ ∧ _).1); rintro e w' ⟨rfl, rfl⟩)
      | (go_at_call 22; refine (pending_any _ (HKD.out _ ?_)).mono ?_; (· exact (by assumption : Below w.heap.size w _ ∧ _).1); rintro e w' ⟨rfl, rfl⟩)
      | (go_at_call 85; refine (writes_any _ (HKD.out _ ?_)).mono ?_; (· exact (by assumption : Below w.heap.size w _ ∧ _).1); rintro e w' ⟨rfl, rfl⟩)
      | (go_at_call 86; refine (bytes_dev _ (HKD.out _ ?_)).mono ?_; (· exact (by assumption : Below w.heap.size w _ ∧ _).1); rintro e w' ⟨rfl, hb'⟩; have hB' := Below.trans (by assumption : Below w.heap.size w _ ∧ _).1 (hb'.mono (by assumption : Below w.heap.size w _ ∧ _).1.size))
      | (go_at_call 87; refine (refBytes_any _ (HKR.out _ ?_) h200 HOK.out.l1).mono ?_; (· exact (by assumption : Below w.heap.size w _ ∧ _).1); rintro e w' ⟨rfl, rfl⟩))
  have hst := (by assumption : Below w.heap.size w _ ∧ _).1
  go_wp2
  go_loopw [5] (fun i wr => ∃ k : Nat, k ≤ d.fl.length ∧ i = .int .i64 k ∧ Below w.heap.size w wr) (fun i _ => d.fl.length - (intOf i).toNat)
  case atStart => exact ⟨0, Nat.zero_le _, rfl, hst⟩
  case round =>
    obtain ⟨k, hk, rfl, hbel⟩ := hrel
    have c0' : wr.cell? ⟨q.p, 0, none⟩ = some (.slice (some ⟨q.bf, 0, none⟩) d.fl.length q.cf) := (hbel.cell hpl).trans c0
    by_cases hlt : k < d.fl.length
    · have hrd := read_yes k wr (HKD.out wr hbel) hlt
      rw [seen_last HS.out k hlt] at hrd
      have HRD : Hid (Calls Tryz.prog 41 #[.pointer (some ⟨h.p, 0, none⟩), .int .i64 (k : Int)] wr fun e w' => e = .returned (.tuple #[.string (bytesOf (lastTo d k d.pend.length)), .nilIface]) ∧ w' = wr) := hrd
      have HSE : Hid (Calls Tryz.prog 45 #[.pointer (some ⟨q.p, 0, none⟩), .int .i64 (k : Int)] wr fun e w' => e = .returned (.string (bytesOf (lastTo d k d.pend.length))) ∧ w' = wr) := seen_any k wr (HKR.out wr hbel) hlt (by have := HOK.out.few; have := HOK.out.few2; omega)
      have HBL : Hid (Below w.heap.size w wr) := hbel
      clear hrd hbel
      generalize bytesOf (lastTo d k d.pend.length) = x at HRD HSE
      go_wp2_with fail
      refine HRD.out.mono ?_
      rintro e w' ⟨rfl, hw⟩
      have hw' := hw.symm
      subst hw'
      clear hw
      go_wp2_with fail
      refine HSE.out.mono ?_
      rintro e w' ⟨rfl, hw⟩
      have hw' := hw.symm
      subst hw'
      clear hw
      go_wp2
      go_roundw
      case rel =>
        have fin : ∃ k' : Nat, k' ≤ d.fl.length ∧ Value.int .i64 ((k : Int) + 1) = .int .i64 k' ∧ Below w.heap.size w wr := ⟨k + 1, by omega, by go_num, HBL.out⟩
        first | exact fin | ((repeat apply Exists.intro); exact ⟨fin, rfl⟩)
      case measure => simp [intOf]; omega
    · go_wp2
      go_ret
      exact ⟨rfl, hbel⟩
end Go.Proofs.YtncjnjlakhohgaaGreat
