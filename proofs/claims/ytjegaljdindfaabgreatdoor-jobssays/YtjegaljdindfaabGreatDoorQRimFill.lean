/-
The document's own image: Write, Clear, Fill.
The document's own image: Fill.
-/
import Derived.Test.YtjegaljdindfaabGreatDoorQRimSet
namespace Go.Proofs.YtjegaljdindfaabGreatDoor
open Go.RowKit Go.Maps
attribute [local go_sem ↓] Go.wp_at_zero Go.wp_at_succ

theorem didR_same {B : Gd} {w w' : World} {q : Qh} {v : IV} {f : Int} (h : IsRim B w q v) (hb : Below w.heap.size w w') : DidR B w q v f (.returned (.int .i64 f)) w' := ⟨q, rfl, Led.below h hb⟩

set_option maxRecDepth 100000 in
set_option maxHeartbeats 1000000 in
theorem write_rim {B : Gd} {m : Nat} {q : Qh} {v : IV} (c fr : Int) (s : ByteArray) (w : World) (h : IsRim B w q v) (hok : v.ok m) (hm : m + 10 < 1000000000) (hB : B.top ≤ w.heap.size) (hs : s.size ≤ 1000) (hf : -9223372036854775808 ≤ fr ∧ fr ≤ 9223372036854775807) :
    Calls Tryz.prog 106 #[.pointer (some ⟨q.p, 0, none⟩), .int .i64 c, .int .i64 fr, .string s] w (DidR B w q (v.write c fr s) (v.writeF c fr s)) := by
  have HTH := toHid (there_rim c w h hok.len)
  have HI := toHid h
  cases hw : wrOk v c fr s with
  | false =>
    have e1 : v.write c fr s = v := by unfold IV.write; rw [hw, if_neg (fun h => by cases h.1)]
    have e2 : v.writeF c fr s = 1 := by unfold IV.writeF; rw [hw]; rfl
    rw [e1, e2]
    have HD : Hid (DidR B w q v 1 (.returned (.int .i64 1)) w) := didR_same h (Below.refl _ _)
    clear h hok e1 e2
    cases hc : v.there c with
    | false =>
      rw [hc] at HTH
      clear hc hw
      go_enter Tryz.func106, Tryz.ntmps106
      go_wp2_with (go_at_call 85; refine HTH.out.mono ?_; rintro e w' ⟨rfl, hw⟩; have hw' := hw.symm; subst hw'; clear hw)
      go_ret
      exact HD.out
    | true =>
      have hd : ¬ (0 ≤ fr ∧ fr ≤ 4 ∧ s.size % 16 = 0 ∧ (s.size : Int) ≤ 16 * (4 - fr)) := by
        unfold wrOk at hw
        rw [hc, Bool.true_and] at hw
        exact of_decide_eq_false hw
      rw [hc] at HTH
      clear hc hw
      by_cases h1 : fr < 0
      · have g1 : decide (fr < 0) = true := decide_eq_true h1
        go_enter Tryz.func106, Tryz.ntmps106
        go_wp2_with (go_at_call 85; refine HTH.out.mono ?_; rintro e w' ⟨rfl, hw⟩; have hw' := hw.symm; subst hw'; clear hw)
        go_ret
        exact HD.out
      · have g1 : decide (fr < 0) = false := decide_eq_false h1
        by_cases h2 : 4 < fr
        · have g2 : decide (4 < fr) = true := decide_eq_true h2
          go_enter Tryz.func106, Tryz.ntmps106
          go_wp2_with (go_at_call 85; refine HTH.out.mono ?_; rintro e w' ⟨rfl, hw⟩; have hw' := hw.symm; subst hw'; clear hw)
          go_ret
          exact HD.out
        · have g2 : decide (4 < fr) = false := decide_eq_false h2
          by_cases h3 : s.size % 16 = 0
          · have g3 : decide (0 < (s.size : Int) % 16) = false := by simp; omega
            have g4 : decide (16 * (4 - fr) < (s.size : Int)) = true := by simp; omega
            go_enter Tryz.func106, Tryz.ntmps106
            go_wp2_with (go_at_call 85; refine HTH.out.mono ?_; rintro e w' ⟨rfl, hw⟩; have hw' := hw.symm; subst hw'; clear hw)
            go_ret
            exact HD.out
          · have g3 : decide (0 < (s.size : Int) % 16) = true := by simp; omega
            go_enter Tryz.func106, Tryz.ntmps106
            go_wp2_with (go_at_call 85; refine HTH.out.mono ?_; rintro e w' ⟨rfl, hw⟩; have hw' := hw.symm; subst hw'; clear hw)
            go_ret
            exact HD.out
  | true =>
    obtain ⟨h1, h2, h3, h4, h5⟩ := wrOk_of hw
    obtain ⟨t0', t1'⟩ := IV.there_of h1
    rw [h1] at HTH
    have g1 : decide (fr < 0) = false := decide_eq_false (by omega)
    have g2 : decide (4 < fr) = false := decide_eq_false (by omega)
    have g3 : decide (0 < (s.size : Int) % 16) = false := by simp; omega
    have g4 : decide (16 * (4 - fr) < (s.size : Int)) = false := by simp; omega
    obtain ⟨cn, rfl⟩ : ∃ cn : Nat, c = (cn : Int) := ⟨c.toNat, by omega⟩
    obtain ⟨g, cap, hv, _, t0, t1⟩ := h.entAt (c := cn) (by omega)
    have c4 := h.cells.2.2.2.2.1
    rw [hv] at c4
    have HEN : Hid (v.ent (cn : Int) = v.t.getD cn (0, 0)) := rfl
    by_cases hk : (v.ent (cn : Int)).1 = 2
    · obtain ⟨p0, p1, p2⟩ := hok.place h1 hk
      have hbo := HV.of_ok hok.h
      have HV : Hid (v.write (cn : Int) fr s = { v with d := (v.writeD (cn : Int) fr s).1 }) := by unfold Hid IV.write; rw [if_pos ⟨hw, hk⟩]
      have HF : Hid (v.writeF (cn : Int) fr s = (v.writeD (cn : Int) fr s).2) := by unfold Hid IV.writeF; rw [hw, if_pos rfl, if_pos hk]
      have HFI : Hid (Calls Tryz.prog 92 #[.pointer (some ⟨q.p, 0, none⟩), .int .i64 (v.ent (cn : Int)).2] w fun e w' => e = .returned (.int .i64 (beginN v.h (v.ent (cn : Int)).2.toNat : Int)) ∧ w' = w) := by
        have := first_rim (v.ent (cn : Int)).2.toNat w h hok.h (by omega)
        rw [show (((v.ent (cn : Int)).2.toNat : Nat) : Int) = (v.ent (cn : Int)).2 by omega] at this; exact this
      have HSE : Hid (Calls Tryz.prog 91 #[.pointer (some ⟨q.p, 0, none⟩), .int .i64 ((beginN v.h (v.ent (cn : Int)).2.toNat : Int) + fr), .string s] w (DidR B w q (v.write (cn : Int) fr s) (v.writeF (cn : Int) fr s))) := by
        have := sectors_rim (beginN v.h (v.ent (cn : Int)).2.toNat + fr.toNat) (s.size / 16) s w h hok.d (by omega) hB (by omega) (by omega) (by omega)
        rw [show (((beginN v.h (v.ent (cn : Int)).2.toNat + fr.toNat : Nat) : Int)) = (beginN v.h (v.ent (cn : Int)).2.toNat : Int) + fr by omega] at this
        rw [HV.out, HF.out]
        exact this
      have hn2 := hok.d.ok.n2
      generalize v.write (cn : Int) fr s = V at HSE ⊢
      generalize v.writeF (cn : Int) fr s = f at HSE ⊢
      rw [← HEN.out, hk] at t0
      rw [← HEN.out] at t1
      generalize beginN v.h (v.ent (cn : Int)).2.toNat = bn at HFI HSE p2
      generalize (v.ent (cn : Int)).2 = y1 at t1 HFI
      clear h hok h1 h5 h4 hw p0 p1 hbo hk HV HF HEN hv
      have k0 : (0 : Int) ≤ (cn : Int) := by omega
      generalize v.t.length = n at c4 t1'
      go_enter Tryz.func106, Tryz.ntmps106
      go_wp2_with (first
        | (go_at_call 85; refine HTH.out.mono ?_; rintro e w' ⟨rfl, hw⟩; have hw' := hw.symm; subst hw'; clear hw)
        | (go_at_call 92; refine HFI.out.mono ?_; rintro e w' ⟨rfl, hw⟩; have hw' := hw.symm; subst hw'; clear hw))
      refine HSE.out.mono ?_
      rintro e w2 ⟨q2, rfl, hl⟩
      have HD : Hid (DidR B w q V f (.returned (.int .i64 f)) w2) := ⟨q2, rfl, hl⟩
      clear hl
      go_wp2
      go_ret
      exact HD.out
    · have e3 : v.write (cn : Int) fr s = v := by unfold IV.write; rw [if_neg (fun h => hk h.2)]
      have e4 : v.writeF (cn : Int) fr s = 4 := by unfold IV.writeF; rw [hw, if_pos rfl, if_neg hk]
      rw [e3, e4]
      have HD : Hid (DidR B w q v 4 (.returned (.int .i64 4)) w) := didR_same h (Below.refl _ _)
      rw [← HEN.out] at t0
      generalize (v.ent (cn : Int)).1 = y0 at t0 hk
      have g5 : (y0 != 2) = true := by simpa using hk
      have k0 : (0 : Int) ≤ (cn : Int) := by omega
      clear h hok h1 h5 h4 hw e3 e4 hk HEN hv t1
      generalize v.t.length = n at c4 t1'
      go_enter Tryz.func106, Tryz.ntmps106
      go_wp2_with (go_at_call 85; refine HTH.out.mono ?_; rintro e w' ⟨rfl, hw⟩; have hw' := hw.symm; subst hw'; clear hw)
      go_ret
      exact HD.out

set_option maxRecDepth 100000 in
set_option maxHeartbeats 1000000 in
theorem clear_rim {B : Gd} {m : Nat} {q : Qh} {v : IV} (c : Int) (w : World) (h : IsRim B w q v) (hok : v.ok m) (hm : m + 10 < 1000000000) (hB : B.top ≤ w.heap.size) :
    Calls Tryz.prog 30 #[.pointer (some ⟨q.p, 0, none⟩), .int .i64 c] w (DidR B w q (v.clear c) (v.clearF c)) := by
  have HTH := toHid (there_rim c w h hok.len)
  cases hc : v.there c with
  | false =>
    have e3 : v.clear c = v := by unfold IV.clear; rw [hc, if_neg (fun h => by cases h.1)]
    have e4 : v.clearF c = 1 := by unfold IV.clearF; rw [hc]; rfl
    rw [hc] at HTH
    rw [e3, e4]
    have HD : Hid (DidR B w q v 1 (.returned (.int .i64 1)) w) := didR_same h (Below.refl _ _)
    clear h hok hc e3 e4
    go_enter Tryz.func30, Tryz.ntmps30
    go_wp2_with (go_at_call 85; refine HTH.out.mono ?_; rintro e w' ⟨rfl, hw⟩; have hw' := hw.symm; subst hw'; clear hw)
    go_ret
    exact HD.out
  | true =>
    rw [hc] at HTH
    obtain ⟨t0', t1'⟩ := IV.there_of hc
    obtain ⟨cn, rfl⟩ : ∃ cn : Nat, c = (cn : Int) := ⟨c.toNat, by omega⟩
    obtain ⟨g, cap, hv, _, t0, t1⟩ := h.entAt (c := cn) (by omega)
    have c4 := h.cells.2.2.2.2.1
    rw [hv] at c4
    have HEN : Hid (v.ent (cn : Int) = v.t.getD cn (0, 0)) := rfl
    rw [← HEN.out] at t0
    have k0 : (0 : Int) ≤ (cn : Int) := by omega
    by_cases h1 : (v.ent (cn : Int)).1 = 1
    · have e3 : v.clear (cn : Int) = v := by unfold IV.clear; rw [if_neg (fun h => h.2 h1)]
      have e4 : v.clearF (cn : Int) = 0 := by unfold IV.clearF; rw [hc, if_pos rfl, if_pos h1]
      rw [e3, e4]
      rw [h1] at t0
      have HD : Hid (DidR B w q v 0 (.returned (.int .i64 0)) w) := didR_same h (Below.refl _ _)
      clear h hok hc e3 e4 h1 hv t1 HEN
      generalize v.t.length = n at c4 t1'
      go_enter Tryz.func30, Tryz.ntmps30
      go_wp2_with (go_at_call 85; refine HTH.out.mono ?_; rintro e w' ⟨rfl, hw⟩; have hw' := hw.symm; subst hw'; clear hw)
      go_ret
      exact HD.out
    · have HST : Hid (Calls Tryz.prog 86 #[.pointer (some ⟨q.p, 0, none⟩), .int .i64 (cn : Int), .agg #[.int .i64 1, .int .i64 0]] w (DidR B w q (v.clear (cn : Int)) (v.clearF (cn : Int)))) := by
        have := set_rim cn 1 0 w h hok (by omega) hB (by omega) (entB_yes (.inr ⟨.inr rfl, rfl⟩))
        have e3 : v.clear (cn : Int) = v.set cn (1, 0) := by unfold IV.clear; rw [if_pos ⟨hc, h1⟩]; rfl
        have e4 : v.clearF (cn : Int) = v.d.putF := by unfold IV.clearF; rw [hc, if_pos rfl, if_neg h1]
        rw [e3, e4]
        exact this
      generalize v.clear (cn : Int) = V at HST ⊢
      generalize v.clearF (cn : Int) = f at HST ⊢
      clear h hok hc hv t1 HEN
      generalize (v.ent (cn : Int)).1 = y0 at t0 h1
      have g1 : (y0 == 1) = false := by simpa using h1
      clear h1
      generalize v.t.length = n at c4 t1'
      go_enter Tryz.func30, Tryz.ntmps30
      go_wp2_with (go_at_call 85; refine HTH.out.mono ?_; rintro e w' ⟨rfl, hw⟩; have hw' := hw.symm; subst hw'; clear hw)
      refine HST.out.mono ?_
      rintro e w2 ⟨q2, rfl, hl⟩
      have HD : Hid (DidR B w q V f (.returned (.int .i64 f)) w2) := ⟨q2, rfl, hl⟩
      clear hl
      go_wp2
      go_ret
      exact HD.out
end Go.Proofs.YtjegaljdindfaabGreatDoor

namespace Go.Proofs.YtjegaljdindfaabGreatDoor
open Go.RowKit Go.Maps
attribute [local go_sem ↓] Go.wp_at_zero Go.wp_at_succ

/- The first free place, by counting up. -/
theorem freeTo_nil {v : IV} {k : Nat} (h : v.freeTo k = []) (ho : v.openB k = false) : v.freeTo (k + 1) = [] := by
  rw [v.freeTo_succ, h, if_neg (by rw [ho]; decide)]; rfl

theorem freeTo_head {v : IV} {k n : Nat} (h : v.freeTo k = []) (ho : v.openB k = true) (hk : k < n) : ∃ r, v.freeTo n = k :: r := by
  have e : v.freeTo n = v.freeTo (k + 1) ++ ((List.range' (k + 1) (n - (k + 1))).filter v.openB) := by
    unfold IV.freeTo
    rw [← List.filter_append]
    congr 1
    have e2 : List.range' 0 (k + 1) ++ List.range' (0 + (k + 1)) (n - (k + 1)) = List.range' 0 ((k + 1) + (n - (k + 1))) := by rw [List.range'_append_1]
    rw [Nat.zero_add] at e2
    rw [List.range_eq_range', List.range_eq_range', e2]
    congr 1
    omega
  rw [e, v.freeTo_succ, h, if_pos ho]
  exact ⟨_, rfl⟩

set_option maxRecDepth 100000 in
set_option maxHeartbeats 2000000 in
theorem fill_rim {B : Gd} {m : Nat} {q : Qh} {v : IV} (c : Int) (s : ByteArray) (w : World) (h : IsRim B w q v) (hok : v.ok m) (hm : m + 10 < 1000000000) (hB : B.top ≤ w.heap.size) :
    Calls Tryz.prog 32 #[.pointer (some ⟨q.p, 0, none⟩), .int .i64 c, .string s] w (DidR B w q (v.fill c s) (v.fillF c s)) := by
  have HTH := toHid (there_rim c w h hok.len)
  have HDS : Hid (∀ f : Int, DidR B w q v f (.returned (.int .i64 f)) w) := fun f => didR_same h (Below.refl _ _)
  by_cases hcs : v.there c = true ∧ s.size = 64
  · obtain ⟨hc, hs⟩ := hcs
    rw [hc] at HTH
    obtain ⟨t0', t1'⟩ := IV.there_of hc
    obtain ⟨cn, rfl⟩ : ∃ cn : Nat, c = (cn : Int) := ⟨c.toNat, by omega⟩
    obtain ⟨g, cap, hv, _, t0, t1⟩ := h.entAt (c := cn) (by omega)
    have c4 := h.cells.2.2.2.2.1
    have c2 := h.cells.2.2.1
    rw [hv] at c4
    have HEN : Hid (v.ent (cn : Int) = v.t.getD cn (0, 0)) := rfl
    rw [← HEN.out] at t0
    have k0 : (0 : Int) ≤ (cn : Int) := by omega
    have g64 : ((s.size : Int) != 64) = false := by simp; omega
    by_cases h2 : (v.ent (cn : Int)).1 = 2
    · have e3 : v.fill (cn : Int) s = v := by unfold IV.fill; rw [if_pos ⟨hc, hs⟩, if_pos h2]
      have e4 : v.fillF (cn : Int) s = 5 := by unfold IV.fillF; rw [if_pos ⟨hc, hs⟩, if_pos h2]
      rw [e3, e4]
      rw [h2] at t0
      clear h hok hc e3 e4 h2 hv t1 HEN hs c2
      generalize v.t.length = n at c4 t1'
      go_enter Tryz.func32, Tryz.ntmps32
      go_wp2_with (go_at_call 85; refine HTH.out.mono ?_; rintro e w' ⟨rfl, hw⟩; have hw' := hw.symm; subst hw'; clear hw)
      go_ret
      exact HDS.out 5
    · have hbo := HV.of_ok hok.h
      have hlen := hok.len
      have hfew := hok.few
      have hn2 := hok.d.ok.n2
      obtain ⟨P, hP⟩ : ∃ P : Nat, v.h.p = (P : Int) := ⟨v.h.p.toNat, by omega⟩
      have hFL : v.freeL = v.freeTo P := by unfold IV.freeL; rw [hP]; rfl
      have HOP : Hid (∀ k : Nat, Calls Tryz.prog 90 #[.pointer (some ⟨q.p, 0, none⟩), .int .i64 (k : Int)] w fun e w' => e = .returned (.bool (v.openB k)) ∧ w' = w) := fun k => open_rim k w h (by omega) (by omega)
      have HFN : Hid (v.freeTo P = [] → v.fill (cn : Int) s = v ∧ v.fillF (cn : Int) s = 6) := fun hx => by
        have hx' : v.freeL = [] := hFL.trans hx
        constructor
        · unfold IV.fill; rw [if_pos ⟨hc, hs⟩, if_neg h2, hx']
        · unfold IV.fillF; rw [if_pos ⟨hc, hs⟩, if_neg h2, hx']
      have HFS : Hid (∀ (k : Nat), v.freeTo k = [] → v.openB k = true → k < P →
          (Calls Tryz.prog 92 #[.pointer (some ⟨q.p, 0, none⟩), .int .i64 (k : Int)] w fun e w' => e = .returned (.int .i64 (beginN v.h k : Int)) ∧ w' = w) ∧
          (Calls Tryz.prog 91 #[.pointer (some ⟨q.p, 0, none⟩), .int .i64 (beginN v.h k : Int), .string s] w (DidR B w q { v with d := (v.fillD k s).1 } (v.fillD k s).2)) ∧
          ((v.fillD k s).2 = 0 ∨ (v.fillD k s).2 = 7) ∧
          ((v.fillD k s).2 ≠ 0 → v.fill (cn : Int) s = { v with d := (v.fillD k s).1 } ∧ v.fillF (cn : Int) s = (v.fillD k s).2) ∧
          ((v.fillD k s).2 = 0 → v.fill (cn : Int) s = (v.fillV k s).set cn (2, (k : Int)) ∧ v.fillF (cn : Int) s = (v.fillV k s).d.putF) ∧
          (∀ (W : World) (q1 : Qh), IsRim B W q1 { v with d := (v.fillD k s).1 } → q1.p = q.p → Calls Tryz.prog 93 #[.pointer (some ⟨q.p, 0, none⟩)] W fun e w' => ∃ q' : Qh, e = .returned (.tuple #[]) ∧ Led B W q1 q' (v.fillV k s) w') ∧
          (∀ (W : World) (q1 : Qh), IsRim B W q1 (v.fillV k s) → q1.p = q.p → B.top ≤ W.heap.size → Calls Tryz.prog 86 #[.pointer (some ⟨q.p, 0, none⟩), .int .i64 (cn : Int), .agg #[.int .i64 2, .int .i64 (k : Int)]] W (DidR B W q1 ((v.fillV k s).set cn (2, (k : Int))) (v.fillV k s).d.putF))) := fun k hk1 hk2 hk3 => by
        obtain ⟨r, hr⟩ := freeTo_head hk1 hk2 hk3
        have hfl : v.freeL = k :: r := hFL.trans hr
        have hm1 : k ∈ v.freeL := by rw [hfl]; exact List.mem_cons_self
        have hbe := (begin_le hok.h hok.need).2 k (by omega)
        refine ⟨first_rim k w h hok.h (by omega), ?_, DV.puts_F _ _ _ _, fun hx => ?_, fun hx => ?_, fun W q1 hi hp => ?_, fun W q1 hi hp hb => ?_⟩
        · exact sectors_rim (beginN v.h k) 4 s w h hok.d (by omega) hB (by omega) (by omega) (by omega)
        · constructor
          · unfold IV.fill; rw [if_pos ⟨hc, hs⟩, if_neg h2, hfl]; show (if (v.fillD k s).2 = 0 then _ else _) = _; rw [if_neg hx]
          · unfold IV.fillF; rw [if_pos ⟨hc, hs⟩, if_neg h2, hfl]; show (if (v.fillD k s).2 = 0 then _ else _) = _; rw [if_neg hx]
        · constructor
          · unfold IV.fill; rw [if_pos ⟨hc, hs⟩, if_neg h2, hfl]; show (if (v.fillD k s).2 = 0 then _ else _) = _; rw [if_pos hx]; rfl
          · unfold IV.fillF; rw [if_pos ⟨hc, hs⟩, if_neg h2, hfl]; show (if (v.fillD k s).2 = 0 then _ else _) = _; rw [if_pos hx]
        · rw [← hp]
          exact flush_rim W hi (hok.fillD hm1 hs (by omega))
        · rw [← hp]
          exact set_rim cn 2 (k : Int) W hi (hok.fillV hm1 hs (by omega)) (by omega) hb (by show cn < v.t.length; omega) (free_ent hok hm1)
      have HF0 : Hid (v.freeTo 0 = []) := rfl
      have HFX : Hid (∀ k, v.freeTo k = [] → v.openB k = false → v.freeTo (k + 1) = []) := fun k a b => freeTo_nil a b
      have hp40 : P ≤ 40 := by omega
      rw [hP] at c2
      have HBN : Hid (∀ k, (beginN v.h k : Int) = 1 + (rowsN v.h.c.toNat : Int) + 4 * (k : Int)) := fun k => by unfold beginN; omega
      clear hok hbo hlen hfew hn2 hFL hP hs hc
      generalize (v.ent (cn : Int)).1 = y0 at t0 h2
      have g2 : (y0 == 2) = false := by simpa using h2
      clear h2 hv t1 HEN
      have HI := toHid h
      clear h
      generalize v.fill (cn : Int) s = V at HFN HFS ⊢
      generalize v.fillF (cn : Int) s = f at HFN HFS ⊢
      generalize v.t.length = n at c4 t1'
      go_enter Tryz.func32, Tryz.ntmps32
      go_wp2_with (go_at_call 85; refine HTH.out.mono ?_; rintro e w' ⟨rfl, hw⟩; have hw' := hw.symm; subst hw'; clear hw)
      go_loop [7] (fun i => ∃ k : Nat, k ≤ P ∧ i = .int .i64 k ∧ v.freeTo k = []) (fun i => P - (intOf i).toNat)
      case atStart => exact ⟨0, Nat.zero_le _, rfl, HF0.out⟩
      case round =>
        obtain ⟨k, hk, rfl, hfk⟩ := hrel
        by_cases hlt : k < P
        · have HO := toHid (HOP.out k)
          have hfs := HFS.out k hfk
          have hfx := HFX.out k hfk
          generalize hob : v.openB k = ob at HO hfs hfx
          clear hob
          cases ob with
          | false =>
            have HX := toHid (hfx rfl)
            clear hfs hfx hfk HFS HOP HFX
            go_wp2_with (go_at_call 90; refine HO.out.mono ?_; rintro e w' ⟨rfl, hw⟩; have hw' := hw.symm; subst hw'; clear hw)
            go_round
            case rel => exact ⟨k + 1, by omega, by go_num, HX.out⟩
            case measure => simp [intOf]; omega
          | true =>
            obtain ⟨q1, q2, q3, q4, q5, q6, q7⟩ := hfs rfl hlt
            have Q1 := toHid q1
            have Q2 := toHid q2
            have Q3 := toHid q3
            have Q4 := toHid q4
            have Q5 := toHid q5
            have Q6 := toHid q6
            have Q7 := toHid q7
            have gP : ((k : Int) == (P : Int)) = false := by simp; omega
            clear q1 q2 q3 q4 q5 q6 q7 hfs hfx hfk HFS HOP HFX HFN
            generalize beginN v.h k = bn at Q1 Q2
            generalize (v.fillD k s).2 = f1 at Q2 Q3 Q4 Q5
            generalize (v.fillV k s).d.putF = f2 at Q5 Q7
            go_wp2_with (first
              | (go_at_call 90; refine HO.out.mono ?_; rintro e w' ⟨rfl, hw⟩; have hw' := hw.symm; subst hw'; clear hw)
              | (go_at_call 92; refine Q1.out.mono ?_; rintro e w' ⟨rfl, hw⟩; have hw' := hw.symm; subst hw'; clear hw))
            refine Q2.out.mono ?_
            rintro e w3 ⟨r3, rfl, hl3⟩
            have HL3 := toHid hl3
            clear hl3 Q2 Q1
            by_cases hf1 : f1 = 0
            · obtain ⟨e1, e2⟩ := Q5.out hf1
              have HE1 := toHid e1
              have HE2 := toHid e2
              have Q8 := toHid (Q6.out w3 r3 HL3.out.rim HL3.out.p)
              rw [hf1]
              clear e1 e2 hf1 Q4 Q5 Q6 Q3
              go_wp2_with fail
              refine Q8.out.mono ?_
              rintro e w4 ⟨r4, rfl, hl4⟩
              have HL4 := toHid (HL3.out.trans hl4)
              have Q9 := toHid (Q7.out w4 r4 hl4.rim (hl4.p.trans HL3.out.p) (Nat.le_trans hB (HL3.out.trans hl4).kept.size))
              clear hl4 HL3 Q8 Q7
              go_wp2_with fail
              refine Q9.out.mono ?_
              rintro e w5 ⟨r5, rfl, hl5⟩
              have HD : Hid (DidR B w q V f (.returned (.int .i64 f2)) w5) := ⟨r5, by rw [HE2.out], by rw [HE1.out]; exact HL4.out.trans hl5⟩
              clear hl5 HL4 Q9
              go_wp2
              go_ret
              exact HD.out
            · obtain ⟨e1, e2⟩ := Q4.out hf1
              have h7 : f1 = 7 := by rcases Q3.out with h | h; exact absurd h hf1; exact h
              have HD : Hid (DidR B w q V f (.returned (.int .i64 7)) w3) := ⟨r3, by rw [e2, h7], by rw [e1]; exact HL3.out⟩
              rw [h7]
              clear e1 e2 hf1 h7 Q4 Q5 Q6 Q7 Q3 HL3
              go_wp2
              go_ret
              exact HD.out
        · have hkp : k = P := by omega
          subst hkp
          obtain ⟨e1, e2⟩ := HFN.out hfk
          have HD : Hid (DidR B w q V f (.returned (.int .i64 6)) w) := by rw [e1, e2]; exact HDS.out 6
          clear hfk HFS HOP HFX HFN e1 e2
          go_wp2
          go_ret
          exact HD.out
  · have hor : v.there c = false ∨ s.size ≠ 64 := by
      cases hc : v.there c with
      | false => exact .inl rfl
      | true => exact .inr fun e => hcs ⟨hc, e⟩
    have e3 : v.fill c s = v := by unfold IV.fill; rw [if_neg hcs]
    have e4 : v.fillF c s = 1 := by unfold IV.fillF; rw [if_neg hcs]
    rw [e3, e4]
    clear h hok e3 e4 hcs
    cases hc : v.there c with
    | false =>
      rw [hc] at HTH
      clear hc hor
      go_enter Tryz.func32, Tryz.ntmps32
      go_wp2_with (go_at_call 85; refine HTH.out.mono ?_; rintro e w' ⟨rfl, hw⟩; have hw' := hw.symm; subst hw'; clear hw)
      go_ret
      exact HDS.out 1
    | true =>
      rw [hc] at HTH hor
      have hs : s.size ≠ 64 := by rcases hor with h | h; cases h; exact h
      have g64 : ((s.size : Int) != 64) = true := by simp; omega
      clear hc hor hs
      go_enter Tryz.func32, Tryz.ntmps32
      go_wp2_with (go_at_call 85; refine HTH.out.mono ?_; rintro e w' ⟨rfl, hw⟩; have hw' := hw.symm; subst hw'; clear hw)
      go_ret
      exact HDS.out 1
end Go.Proofs.YtjegaljdindfaabGreatDoor
