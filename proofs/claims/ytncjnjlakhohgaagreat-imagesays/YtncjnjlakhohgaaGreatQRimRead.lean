/-
The document's own image: Write, Clear, Fill.
The document's own image: what is read of it.
-/
import Derived.Test.YtncjnjlakhohgaaGreatQRimSet
import Derived.Test.YtncjnjlakhohgaaGreatQCrashA
namespace Go.Proofs.YtncjnjlakhohgaaGreat
open Go.RowKit Go.Maps
attribute [local go_sem ↓] Go.wp_at_zero Go.wp_at_succ

theorem didR_same {B : Nat} {w w' : World} {q : Qh} {v : IV} {f : Int} (h : IsRim B w q v) (hb : Below w.heap.size w w') : DidR B w q v f (.returned (.int .i64 f)) w' := ⟨q, rfl, Led.below h hb⟩

set_option maxRecDepth 100000 in
set_option maxHeartbeats 1000000 in
theorem write_rim {B m : Nat} {q : Qh} {v : IV} (c fr : Int) (s : ByteArray) (w : World) (h : IsRim B w q v) (hok : v.ok m) (hm : m + 10 < 1000000000) (hB : B ≤ w.heap.size) (hs : s.size ≤ 1000) (hf : -9223372036854775808 ≤ fr ∧ fr ≤ 9223372036854775807) :
    Calls Tryz.prog 48 #[.pointer (some ⟨q.p, 0, none⟩), .int .i64 c, .int .i64 fr, .string s] w (DidR B w q (v.write c fr s) (v.writeF c fr s)) := by
  have HTH := toHid (there_rim c w h hok.len)
  have HI := toHid h
  cases hw : wrOk v c fr s with
  | false =>
    have e1 : v.write c fr s = v := by unfold IV.write; rw [hw, if_neg (fun h => by cases h.1)]
    have e2 : v.writeF c fr s = 1 := by unfold IV.writeF; rw [hw]; rfl
    rw [e1, e2]
    have HD : Hid (DidR B w q v 1 (.returned (.int .i64 1)) w) := didR_same h (Below.refl _ _)
    clear h hok e1 e2
    cases hc : v.there c with
    | false =>
      rw [hc] at HTH
      clear hc hw
      go_enter Tryz.func48, Tryz.ntmps48
      go_wp2_with (go_at_call 63; refine HTH.out.mono ?_; rintro e w' ⟨rfl, hw⟩; have hw' := hw.symm; subst hw'; clear hw)
      go_ret
      exact HD.out
    | true =>
      have hd : ¬ (0 ≤ fr ∧ fr ≤ 4 ∧ s.size % 16 = 0 ∧ (s.size : Int) ≤ 16 * (4 - fr)) := by
        unfold wrOk at hw
        rw [hc, Bool.true_and] at hw
        exact of_decide_eq_false hw
      rw [hc] at HTH
      clear hc hw
      by_cases h1 : fr < 0
      · have g1 : decide (fr < 0) = true := decide_eq_true h1
        go_enter Tryz.func48, Tryz.ntmps48
        go_wp2_with (go_at_call 63; refine HTH.out.mono ?_; rintro e w' ⟨rfl, hw⟩; have hw' := hw.symm; subst hw'; clear hw)
        go_ret
        exact HD.out
      · have g1 : decide (fr < 0) = false := decide_eq_false h1
        by_cases h2 : 4 < fr
        · have g2 : decide (4 < fr) = true := decide_eq_true h2
          go_enter Tryz.func48, Tryz.ntmps48
          go_wp2_with (go_at_call 63; refine HTH.out.mono ?_; rintro e w' ⟨rfl, hw⟩; have hw' := hw.symm; subst hw'; clear hw)
          go_ret
          exact HD.out
        · have g2 : decide (4 < fr) = false := decide_eq_false h2
          by_cases h3 : s.size % 16 = 0
          · have g3 : decide (0 < (s.size : Int) % 16) = false := by simp; omega
            have g4 : decide (16 * (4 - fr) < (s.size : Int)) = true := by simp; omega
            go_enter Tryz.func48, Tryz.ntmps48
            go_wp2_with (go_at_call 63; refine HTH.out.mono ?_; rintro e w' ⟨rfl, hw⟩; have hw' := hw.symm; subst hw'; clear hw)
            go_ret
            exact HD.out
          · have g3 : decide (0 < (s.size : Int) % 16) = true := by simp; omega
            go_enter Tryz.func48, Tryz.ntmps48
            go_wp2_with (go_at_call 63; refine HTH.out.mono ?_; rintro e w' ⟨rfl, hw⟩; have hw' := hw.symm; subst hw'; clear hw)
            go_ret
            exact HD.out
  | true =>
    obtain ⟨h1, h2, h3, h4, h5⟩ := wrOk_of hw
    obtain ⟨t0', t1'⟩ := IV.there_of h1
    rw [h1] at HTH
    have g1 : decide (fr < 0) = false := decide_eq_false (by omega)
    have g2 : decide (4 < fr) = false := decide_eq_false (by omega)
    have g3 : decide (0 < (s.size : Int) % 16) = false := by simp; omega
    have g4 : decide (16 * (4 - fr) < (s.size : Int)) = false := by simp; omega
    obtain ⟨cn, rfl⟩ : ∃ cn : Nat, c = (cn : Int) := ⟨c.toNat, by omega⟩
    obtain ⟨g, cap, hv, _, t0, t1⟩ := h.entAt (c := cn) (by omega)
    have c4 := h.cells.2.2.2.2.1
    rw [hv] at c4
    have HEN : Hid (v.ent (cn : Int) = v.t.getD cn (0, 0)) := rfl
    by_cases hk : (v.ent (cn : Int)).1 = 2
    · obtain ⟨p0, p1, p2⟩ := hok.place h1 hk
      have hbo := HV.of_ok hok.h
      have HV : Hid (v.write (cn : Int) fr s = { v with d := (v.writeD (cn : Int) fr s).1 }) := by unfold Hid IV.write; rw [if_pos ⟨hw, hk⟩]
      have HF : Hid (v.writeF (cn : Int) fr s = (v.writeD (cn : Int) fr s).2) := by unfold Hid IV.writeF; rw [hw, if_pos rfl, if_pos hk]
      have HFI : Hid (Calls Tryz.prog 81 #[.pointer (some ⟨q.p, 0, none⟩), .int .i64 (v.ent (cn : Int)).2] w fun e w' => e = .returned (.int .i64 (beginN v.h (v.ent (cn : Int)).2.toNat : Int)) ∧ w' = w) := by
        have := first_rim (v.ent (cn : Int)).2.toNat w h hok.h (by omega)
        rw [show (((v.ent (cn : Int)).2.toNat : Nat) : Int) = (v.ent (cn : Int)).2 by omega] at this; exact this
      have HSE : Hid (Calls Tryz.prog 80 #[.pointer (some ⟨q.p, 0, none⟩), .int .i64 ((beginN v.h (v.ent (cn : Int)).2.toNat : Int) + fr), .string s] w (DidR B w q (v.write (cn : Int) fr s) (v.writeF (cn : Int) fr s))) := by
        have := sectors_rim (beginN v.h (v.ent (cn : Int)).2.toNat + fr.toNat) (s.size / 16) s w h hok.d (by omega) hB (by omega) (by omega) (by omega)
        rw [show (((beginN v.h (v.ent (cn : Int)).2.toNat + fr.toNat : Nat) : Int)) = (beginN v.h (v.ent (cn : Int)).2.toNat : Int) + fr by omega] at this
        rw [HV.out, HF.out]
        exact this
      have hn2 := hok.d.ok.n2
      generalize v.write (cn : Int) fr s = V at HSE ⊢
      generalize v.writeF (cn : Int) fr s = f at HSE ⊢
      rw [← HEN.out, hk] at t0
      rw [← HEN.out] at t1
      generalize beginN v.h (v.ent (cn : Int)).2.toNat = bn at HFI HSE p2
      generalize (v.ent (cn : Int)).2 = y1 at t1 HFI
      clear h hok h1 h5 h4 hw p0 p1 hbo hk HV HF HEN hv
      have k0 : (0 : Int) ≤ (cn : Int) := by omega
      generalize v.t.length = n at c4 t1'
      go_enter Tryz.func48, Tryz.ntmps48
      go_wp2_with (first
        | (go_at_call 63; refine HTH.out.mono ?_; rintro e w' ⟨rfl, hw⟩; have hw' := hw.symm; subst hw'; clear hw)
        | (go_at_call 81; refine HFI.out.mono ?_; rintro e w' ⟨rfl, hw⟩; have hw' := hw.symm; subst hw'; clear hw))
      refine HSE.out.mono ?_
      rintro e w2 ⟨q2, rfl, hl⟩
      have HD : Hid (DidR B w q V f (.returned (.int .i64 f)) w2) := ⟨q2, rfl, hl⟩
      clear hl
      go_wp2
      go_ret
      exact HD.out
    · have e3 : v.write (cn : Int) fr s = v := by unfold IV.write; rw [if_neg (fun h => hk h.2)]
      have e4 : v.writeF (cn : Int) fr s = 4 := by unfold IV.writeF; rw [hw, if_pos rfl, if_neg hk]
      rw [e3, e4]
      have HD : Hid (DidR B w q v 4 (.returned (.int .i64 4)) w) := didR_same h (Below.refl _ _)
      rw [← HEN.out] at t0
      generalize (v.ent (cn : Int)).1 = y0 at t0 hk
      have g5 : (y0 != 2) = true := by simpa using hk
      have k0 : (0 : Int) ≤ (cn : Int) := by omega
      clear h hok h1 h5 h4 hw e3 e4 hk HEN hv t1
      generalize v.t.length = n at c4 t1'
      go_enter Tryz.func48, Tryz.ntmps48
      go_wp2_with (go_at_call 63; refine HTH.out.mono ?_; rintro e w' ⟨rfl, hw⟩; have hw' := hw.symm; subst hw'; clear hw)
      go_ret
      exact HD.out

set_option maxRecDepth 100000 in
set_option maxHeartbeats 1000000 in
theorem clear_rim {B m : Nat} {q : Qh} {v : IV} (c : Int) (w : World) (h : IsRim B w q v) (hok : v.ok m) (hm : m + 10 < 1000000000) (hB : B ≤ w.heap.size) :
    Calls Tryz.prog 51 #[.pointer (some ⟨q.p, 0, none⟩), .int .i64 c] w (DidR B w q (v.clear c) (v.clearF c)) := by
  have HTH := toHid (there_rim c w h hok.len)
  cases hc : v.there c with
  | false =>
    have e3 : v.clear c = v := by unfold IV.clear; rw [hc, if_neg (fun h => by cases h.1)]
    have e4 : v.clearF c = 1 := by unfold IV.clearF; rw [hc]; rfl
    rw [hc] at HTH
    rw [e3, e4]
    have HD : Hid (DidR B w q v 1 (.returned (.int .i64 1)) w) := didR_same h (Below.refl _ _)
    clear h hok hc e3 e4
    go_enter Tryz.func51, Tryz.ntmps51
    go_wp2_with (go_at_call 63; refine HTH.out.mono ?_; rintro e w' ⟨rfl, hw⟩; have hw' := hw.symm; subst hw'; clear hw)
    go_ret
    exact HD.out
  | true =>
    rw [hc] at HTH
    obtain ⟨t0', t1'⟩ := IV.there_of hc
    obtain ⟨cn, rfl⟩ : ∃ cn : Nat, c = (cn : Int) := ⟨c.toNat, by omega⟩
    obtain ⟨g, cap, hv, _, t0, t1⟩ := h.entAt (c := cn) (by omega)
    have c4 := h.cells.2.2.2.2.1
    rw [hv] at c4
    have HEN : Hid (v.ent (cn : Int) = v.t.getD cn (0, 0)) := rfl
    rw [← HEN.out] at t0
    have k0 : (0 : Int) ≤ (cn : Int) := by omega
    by_cases h1 : (v.ent (cn : Int)).1 = 1
    · have e3 : v.clear (cn : Int) = v := by unfold IV.clear; rw [if_neg (fun h => h.2 h1)]
      have e4 : v.clearF (cn : Int) = 0 := by unfold IV.clearF; rw [hc, if_pos rfl, if_pos h1]
      rw [e3, e4]
      rw [h1] at t0
      have HD : Hid (DidR B w q v 0 (.returned (.int .i64 0)) w) := didR_same h (Below.refl _ _)
      clear h hok hc e3 e4 h1 hv t1 HEN
      generalize v.t.length = n at c4 t1'
      go_enter Tryz.func51, Tryz.ntmps51
      go_wp2_with (go_at_call 63; refine HTH.out.mono ?_; rintro e w' ⟨rfl, hw⟩; have hw' := hw.symm; subst hw'; clear hw)
      go_ret
      exact HD.out
    · have HST : Hid (Calls Tryz.prog 83 #[.pointer (some ⟨q.p, 0, none⟩), .int .i64 (cn : Int), .agg #[.int .i64 1, .int .i64 0]] w (DidR B w q (v.clear (cn : Int)) (v.clearF (cn : Int)))) := by
        have := set_rim cn 1 0 w h hok (by omega) hB (by omega) (entB_yes (.inr ⟨.inr rfl, rfl⟩))
        have e3 : v.clear (cn : Int) = v.set cn (1, 0) := by unfold IV.clear; rw [if_pos ⟨hc, h1⟩]; rfl
        have e4 : v.clearF (cn : Int) = v.d.putF := by unfold IV.clearF; rw [hc, if_pos rfl, if_neg h1]
        rw [e3, e4]
        exact this
      generalize v.clear (cn : Int) = V at HST ⊢
      generalize v.clearF (cn : Int) = f at HST ⊢
      clear h hok hc hv t1 HEN
      generalize (v.ent (cn : Int)).1 = y0 at t0 h1
      have g1 : (y0 == 1) = false := by simpa using h1
      clear h1
      generalize v.t.length = n at c4 t1'
      go_enter Tryz.func51, Tryz.ntmps51
      go_wp2_with (go_at_call 63; refine HTH.out.mono ?_; rintro e w' ⟨rfl, hw⟩; have hw' := hw.symm; subst hw'; clear hw)
      refine HST.out.mono ?_
      rintro e w2 ⟨q2, rfl, hl⟩
      have HD : Hid (DidR B w q V f (.returned (.int .i64 f)) w2) := ⟨q2, rfl, hl⟩
      clear hl
      go_wp2
      go_ret
      exact HD.out
end Go.Proofs.YtncjnjlakhohgaaGreat

namespace Go.Proofs.YtncjnjlakhohgaaGreat
open Go.RowKit Go.Maps
attribute [local go_sem ↓] Go.wp_at_zero Go.wp_at_succ

theorem place_append (d : DV) (a k : Nat) : bytesOf (placeL d a k) ++ bytesOf (d.seen.getD (a + k) []) = bytesOf (placeL d a (k + 1)) := bytesOf_append _ _

set_option maxRecDepth 100000 in
set_option maxHeartbeats 2000000 in
theorem read_rim {B m : Nat} {q : Qh} {v : IV} (c : Int) (w : World) (h : IsRim B w q v) (hok : v.ok m) :
    Calls Tryz.prog 62 #[.pointer (some ⟨q.p, 0, none⟩), .int .i64 c] w fun e w' =>
      e = .returned (.tuple #[.string (bytesOf (v.readS c)), .int .i64 (v.readF c)]) ∧ Below w.heap.size w w' := by
  have HTH := toHid (there_rim c w h hok.len)
  cases hc : v.there c with
  | false =>
    have HS : Hid (v.readS c = []) := by unfold Hid IV.readS; rw [hc]; rfl
    have HF : Hid (v.readF c = 1) := by unfold Hid IV.readF; rw [hc]; rfl
    rw [hc] at HTH
    clear h hok hc
    go_enter Tryz.func62, Tryz.ntmps62
    go_wp2_with (go_at_call 63; refine HTH.out.mono ?_; rintro e w' ⟨rfl, hw⟩; have hw' := hw.symm; subst hw'; clear hw)
    go_ret2
    exact ⟨by rw [HS.out, HF.out]; rfl, Below.refl _ _⟩
  | true =>
    rw [hc] at HTH
    obtain ⟨t0', t1'⟩ := IV.there_of hc
    obtain ⟨cn, rfl⟩ : ∃ cn : Nat, c = (cn : Int) := ⟨c.toNat, by omega⟩
    obtain ⟨g, cap, hv, hgl, t0, t1⟩ := h.entAt (c := cn) (by omega)
    obtain ⟨c0, _, _, _, c4, _, _⟩ := h.cells
    rw [hv] at c4
    have HEN : Hid (v.ent (cn : Int) = v.t.getD cn (0, 0)) := rfl
    rw [← HEN.out] at t0 t1
    have k0 : (0 : Int) ≤ (cn : Int) := by omega
    have hent := entB_of (hok.ent hc)
    by_cases hz : (v.ent (cn : Int)).1 = 0
    · have HS : Hid (v.readS (cn : Int) = []) := by unfold Hid IV.readS; rw [hc, if_pos rfl, if_neg (by omega), if_neg (by omega)]
      have HF : Hid (v.readF (cn : Int) = 4) := by unfold Hid IV.readF; rw [hc, if_pos rfl, if_pos hz]
      rw [hz] at t0
      clear h hok hc hz hent HEN hv t1 c0
      generalize v.t.length = n at c4 t1'
      go_enter Tryz.func62, Tryz.ntmps62
      go_wp2_with (go_at_call 63; refine HTH.out.mono ?_; rintro e w' ⟨rfl, hw⟩; have hw' := hw.symm; subst hw'; clear hw)
      go_ret2
      exact ⟨by rw [HS.out, HF.out]; rfl, Below.refl _ _⟩
    · have HF : Hid (v.readF (cn : Int) = 0) := by unfold Hid IV.readF; rw [hc, if_pos rfl, if_neg hz]
      by_cases h1 : (v.ent (cn : Int)).1 = 1
      · have HS : Hid (bytesOf (v.readS (cn : Int)) = bytesOf (List.replicate 64 0)) := by unfold Hid IV.readS; rw [hc, if_pos rfl, if_neg (by omega), if_pos h1]; rfl
        have HNO : Hid (∀ W : World, Calls Tryz.prog 24 #[.int .i64 64] W fun e w' => e = .returned (.string (bytesOf (List.replicate 64 0))) ∧ Below W.heap.size W w') := fun W => noughtsN_any 64 W (by omega)
        rw [h1] at t0
        clear h hok hc hz h1 hent HEN hv t1 c0
        generalize bytesOf (List.replicate 64 0) = S at HS HNO
        generalize v.t.length = n at c4 t1'
        go_enter Tryz.func62, Tryz.ntmps62
        go_wp2_with (go_at_call 63; refine HTH.out.mono ?_; rintro e w' ⟨rfl, hw⟩; have hw' := hw.symm; subst hw'; clear hw)
        refine (HNO.out _).mono ?_
        rintro e w1 ⟨rfl, hb1⟩
        go_wp2
        go_ret2
        exact ⟨by rw [HS.out, HF.out]; rfl, hb1⟩
      · have h2 : (v.ent (cn : Int)).1 = 2 := by omega
        obtain ⟨p0, p1, p2⟩ := hok.place hc h2
        have hbo := HV.of_ok hok.h
        have hn2 := hok.d.ok.n2
        have hfw := hok.d.ok.few
        have hfw2 := hok.d.ok.few2
        have HS : Hid (bytesOf (v.readS (cn : Int)) = bytesOf (placeL v.d (beginN v.h (v.ent (cn : Int)).2.toNat) 4)) := by unfold Hid IV.readS; rw [hc, if_pos rfl, if_pos h2]
        have HFI : Hid (∀ W : World, W.heap = w.heap → Calls Tryz.prog 81 #[.pointer (some ⟨q.p, 0, none⟩), .int .i64 (v.ent (cn : Int)).2] W fun e w' => e = .returned (.int .i64 (beginN v.h (v.ent (cn : Int)).2.toNat : Int)) ∧ w' = W) := fun W hW => by
          have := first_rim (v.ent (cn : Int)).2.toNat W (h.keep (by rw [hW]) (fun _ _ => by rw [hW]) (fun _ _ => by rw [hW]) fun _ _ => by rw [hW]) hok.h (by omega)
          rw [show (((v.ent (cn : Int)).2.toNat : Nat) : Int) = (v.ent (cn : Int)).2 by omega] at this; exact this
        have HSE : Hid (∀ (k : Nat) (W : World), k < 4 → W.heap = w.heap → Calls Tryz.prog 45 #[.pointer (some ⟨q.d.p, 0, none⟩), .int .i64 ((beginN v.h (v.ent (cn : Int)).2.toNat : Int) + (k : Int))] W fun e w' => e = .returned (.string (bytesOf (v.d.seen.getD (beginN v.h (v.ent (cn : Int)).2.toNat + k) []))) ∧ w' = W) := fun k W hk hW => by
          have := seen_any (beginN v.h (v.ent (cn : Int)).2.toNat + k) W (h.dev.keep fun _ _ => by rw [hW]) (by omega) (by omega)
          rw [← seen_last hok.d.sn _ (by omega), show (((beginN v.h (v.ent (cn : Int)).2.toNat + k : Nat) : Int)) = (beginN v.h (v.ent (cn : Int)).2.toNat : Int) + (k : Int) by omega] at this; exact this
        generalize beginN v.h (v.ent (cn : Int)).2.toNat = bn at HS HFI HSE p2
        have HPA : Hid (∀ k, bytesOf (placeL v.d bn k) ++ bytesOf (v.d.seen.getD (bn + k) []) = bytesOf (placeL v.d bn (k + 1))) := fun k => place_append v.d bn k
        have HP0 : Hid (bytesOf (placeL v.d bn 0) = ⟨#[]⟩) := rfl
        have HPZ : Hid (∀ k, k ≤ 4 → (bytesOf (placeL v.d bn k)).size ≤ 64) := fun k hk4 => by
          have hl : ∀ j, j ≤ 4 → (placeL v.d bn j).length = 16 * j := fun j hj => by
            induction j with
            | zero => rfl
            | succ j ih =>
              show (placeL v.d bn j ++ v.d.seen.getD (bn + j) []).length = _
              rw [List.length_append, ih (by omega)]
              have hx : bn + j < v.d.seen.length := by have := hok.d.ok.same; omega
              have : (v.d.seen.getD (bn + j) []).length = 16 := by rw [List.getD_eq_getElem?_getD, List.getElem?_eq_getElem hx]; exact hok.d.ok.l2 _ (List.getElem_mem hx)
              omega
          show (placeL v.d bn k).toArray.size ≤ 64
          rw [List.size_toArray, hl k hk4]; omega
        have HSZ : Hid (∀ k, k < 4 → (bytesOf (v.d.seen.getD (bn + k) [])).size = 16) := fun k hk4 => by
          have hx : bn + k < v.d.seen.length := by have := hok.d.ok.same; omega
          have : (v.d.seen.getD (bn + k) []).length = 16 := by rw [List.getD_eq_getElem?_getD, List.getElem?_eq_getElem hx]; exact hok.d.ok.l2 _ (List.getElem_mem hx)
          show (v.d.seen.getD (bn + k) []).toArray.size = 16
          simpa using this
        obtain ⟨PS, hPS⟩ : ∃ PS : Nat → ByteArray, PS = fun k => bytesOf (placeL v.d bn k) := ⟨_, rfl⟩
        obtain ⟨SS, hSS⟩ : ∃ SS : Nat → ByteArray, SS = fun k => bytesOf (v.d.seen.getD (bn + k) []) := ⟨_, rfl⟩
        have HPA2 : Hid (∀ k, PS k ++ SS k = PS (k + 1)) := by rw [hPS, hSS]; exact HPA
        have HP02 : Hid (PS 0 = ⟨#[]⟩) := by rw [hPS]; exact HP0
        have HPZ2 : Hid (∀ k, k ≤ 4 → (PS k).size ≤ 64) := by rw [hPS]; exact HPZ
        have HSZ2 : Hid (∀ k, k < 4 → (SS k).size = 16) := by rw [hSS]; exact HSZ
        have HS2 : Hid (bytesOf (v.readS (cn : Int)) = PS 4) := by rw [hPS]; exact HS
        have HSE2 : Hid (∀ (k : Nat) (W : World), k < 4 → W.heap = w.heap → Calls Tryz.prog 45 #[.pointer (some ⟨q.d.p, 0, none⟩), .int .i64 ((bn : Int) + (k : Int))] W fun e w' => e = .returned (.string (SS k)) ∧ w' = W) := by rw [hSS]; exact HSE
        rw [h2] at t0
        clear h hok hc hz h1 h2 hent HEN hv hPS hSS HPA HP0 HPZ HSZ HS HSE p0 p1 hbo
        generalize (v.ent (cn : Int)).2 = y1 at t1 HFI
        generalize v.t.length = n at c4 t1'
        have k1 : (cn : Int) < (n : Int) := t1'
        have hbn : bn ≤ 196 := by omega
        go_enter Tryz.func62, Tryz.ntmps62
        go_wp2_with (go_at_call 63; refine HTH.out.mono ?_; rintro e w' ⟨rfl, hw⟩; have hw' := hw.symm; subst hw'; clear hw)
        go_loopw [6, 7] (fun u i wr => ∃ (k : Nat) (S0 : ByteArray), k ≤ 4 ∧ i = .int .i64 k ∧ u = .string S0 ∧ Hid (S0 = PS k) ∧ Below w.heap.size w wr ∧ wr.heap = w.heap) (fun _ i _ => 4 - (intOf i).toNat)
        case atStart => exact ⟨0, ⟨#[]⟩, Nat.zero_le _, rfl, rfl, HP02.out.symm, Below.refl _ _, rfl⟩
        case round =>
          obtain ⟨k, S0, hk4, rfl, rfl, HS0, hbel, hhp⟩ := hrel
          have d0 : wr.cell? ⟨q.p, 0, none⟩ = some (.pointer (some ⟨q.d.p, 0, none⟩)) := by rw [World.cell?_of_block (w := w) (by rw [hhp])]; exact c0
          have d4 : wr.cell? ⟨q.p, 4, none⟩ = some (.slice (some ⟨g, 0, none⟩) n cap) := by rw [World.cell?_of_block (w := w) (by rw [hhp])]; exact c4
          have dt : wr.cell? ⟨g, cn * 2 + 1, none⟩ = some (.int .i64 y1) := by rw [World.cell?_of_block (w := w) (by rw [hhp])]; exact t1
          have HHP : Hid (wr.drew.heap = w.heap) := hhp
          have HBL : Hid (Below w.heap.size w wr.drew) := hbel.drew
          by_cases hlt : k < 4
          · have HNX : Hid (S0 ++ SS k = PS (k + 1)) := by unfold Hid; rw [HS0.out]; exact HPA2.out k
            have hpz : S0.size ≤ 64 := by rw [HS0.out]; exact HPZ2.out k hk4
            have hsz := HSZ2.out k hlt
            have HSK := toHid (HSE2.out k)
            have kw : IntKind.i64.wrap ((bn : Int) + (k : Int)) = (bn : Int) + (k : Int) := IntWalk.i64_in _ (by omega)
            generalize SS k = S1 at HNX hsz HSK
            have hq7 : ¬ 9223372036854775807 < S0.size + S1.size := by omega
            clear hsz
            clear hhp hbel c0 c4 t1
            go_wp2
            go_region_held3 (fun W => W.heap = w.heap ∧ Below w.heap.size w W ∧ W.cell? ⟨q.p, 0, none⟩ = some (.pointer (some ⟨q.d.p, 0, none⟩)) ∧ W.cell? ⟨q.p, 4, none⟩ = some (.slice (some ⟨g, 0, none⟩) n cap) ∧ W.cell? ⟨g, cn * 2 + 1, none⟩ = some (.int .i64 y1))
              (first | (exact ⟨HHP.out, HBL.out, d0, d4, dt⟩) | assumption)
              (first
                | (go_at_call 81; refine (HFI.out _ (by assumption : _ ∧ Below w.heap.size w _ ∧ _).1).mono ?_; rintro e w' ⟨rfl, rfl⟩)
                | (go_at_call 45; refine (HSK.out _ hlt (by assumption : _ ∧ Below w.heap.size w _ ∧ _).1).mono ?_; rintro e w' ⟨rfl, rfl⟩))
            all_goals
              obtain ⟨hq1, hq2, _⟩ := (by assumption : _ ∧ Below w.heap.size w _ ∧ _)
              have HQ1 := toHid hq1
              have HQ2 := toHid hq2
              clear hq1 hq2
              go_wp2
              go_roundw
              case rel =>
                have fin : ∃ (k1 : Nat) (T0 : ByteArray), k1 ≤ 4 ∧ Value.int .i64 ((k : Int) + 1) = .int .i64 k1 ∧ Value.string (S0 ++ S1) = .string T0 ∧ Hid (T0 = PS k1) ∧ Below w.heap.size w _ ∧ _ := ⟨k + 1, S0 ++ S1, by omega, by go_num, rfl, HNX.out, HQ2.out, HQ1.out⟩
                first | exact fin | ((repeat apply Exists.intro); exact ⟨fin, rfl⟩)
              case measure => simp [intOf]; omega
          · have hk44 : k = 4 := by omega
            subst hk44
            have HB4 := toHid hbel
            clear hhp hbel
            go_wp2
            go_ret2
            exact ⟨by rw [HS2.out, HF.out, ← HS0.out]; rfl, HB4.out⟩
end Go.Proofs.YtncjnjlakhohgaaGreat
