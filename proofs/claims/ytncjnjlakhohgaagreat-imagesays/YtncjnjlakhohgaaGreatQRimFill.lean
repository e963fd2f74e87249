/-
asImage: an image and the document's own one, held against each other.
The document's own image: Fill.
-/
import Derived.Test.YtncjnjlakhohgaaGreatQRefWrite2
import Derived.Test.YtncjnjlakhohgaaGreatQRimRead
import Derived.Test.YtncjnjlakhohgaaGreatQCrashA
namespace Go.Proofs.YtncjnjlakhohgaaGreat
open Go.RowKit Go.Maps
attribute [local go_sem ↓] Go.wp_at_zero Go.wp_at_succ

theorem readF_pos (v : IV) (c : Int) : 0 ≤ v.readF c := by
  unfold IV.readF
  split
  · split <;> decide
  · decide

set_option maxRecDepth 100000 in
set_option maxHeartbeats 2000000 in
theorem asImage_any {B B' m : Nat} {x : Ih} {q : Qh} {v : IV} (w : World) (hi : IsImg B w x v) (hr : IsRim B' w q v) (hok : v.ok m) (hm : m ≤ 1000000000) :
    Calls Tryz.prog 19 #[.pointer (some ⟨x.p, 0, none⟩), .pointer (some ⟨q.p, 0, none⟩)] w fun e w' => e = .returned (.bool true) ∧ Below w.heap.size w w' := by
  obtain ⟨c0, c1, c2, c3, c4, _, _⟩ := hr.cells
  have hpl : q.p < w.heap.size := lt_of_some hr.blk
  have HHD : Hid (∀ W : World, Below w.heap.size w W → Calls Tryz.prog 58 #[.pointer (some ⟨x.p, 0, none⟩)] W fun e w' => e = .returned (.agg #[.int .i64 v.h.c, .int .i64 v.h.p, .int .i64 v.h.b]) ∧ Below w.heap.size w w') := fun W hb => (head_img W (hi.below hb)).mono fun e w' ⟨h1, h2⟩ => ⟨h1, hb.trans (h2.mono hb.size)⟩
  have HF1 : Hid (∀ W : World, Below w.heap.size w W → Calls Tryz.prog 26 #[.pointer (some ⟨x.p, 0, none⟩)] W fun e w' => e = .returned (.int .i64 (v.freeL.length : Int)) ∧ Below w.heap.size w w') := fun W hb => (Free_img W (hi.below hb) hok).mono fun e w' ⟨h1, h2⟩ => ⟨h1, hb.trans (h2.mono hb.size)⟩
  have HF2 : Hid (∀ W : World, Below w.heap.size w W → Calls Tryz.prog 59 #[.pointer (some ⟨q.p, 0, none⟩)] W fun e w' => e = .returned (.int .i64 (v.freeL.length : Int)) ∧ w' = W) := fun W hb => Free_rim W (hr.below hb) hok hm
  have HDV : Hid (∀ W : World, Below w.heap.size w W → Calls Tryz.prog 54 #[.pointer (some ⟨x.p, 0, none⟩)] W fun e w' => e = .returned (.pointer (some ⟨x.h.p, 0, none⟩)) ∧ w' = W) := fun W hb => dev_img W (hi.below hb)
  have HAD : Hid (∀ W : World, Below w.heap.size w W → Calls Tryz.prog 60 #[.pointer (some ⟨x.h.p, 0, none⟩), .pointer (some ⟨q.d.p, 0, none⟩)] W fun e w' => e = .returned (.bool true) ∧ Below w.heap.size w w') := fun W hb => (asDev_any W (hi.below hb).dev (hr.below hb).dev hok.d.sn).mono fun e w' ⟨h1, h2⟩ => ⟨h1, hb.trans (h2.mono hb.size)⟩
  have HKI : Hid (∀ (c : Int) (W : World), Below w.heap.size w W → Calls Tryz.prog 61 #[.pointer (some ⟨x.p, 0, none⟩), .int .i64 c] W fun e w' => e = .returned (.tuple #[.int .i64 (v.entE c).1, erV (v.entF c)]) ∧ Below w.heap.size w w') := fun c W hb => (kind_img c W (hi.below hb)).mono fun e w' ⟨h1, h2⟩ => ⟨h1, hb.trans (h2.mono hb.size)⟩
  have HRI : Hid (∀ (c : Int) (W : World), Below w.heap.size w W → Calls Tryz.prog 25 #[.pointer (some ⟨x.p, 0, none⟩), .int .i64 c] W fun e w' => e = .returned (.tuple #[.string (bytesOf (v.readS c)), erV (v.readF c)]) ∧ Below w.heap.size w w') := fun c W hb => (read_img c W (hi.below hb) hok).mono fun e w' ⟨h1, h2⟩ => ⟨h1, hb.trans (h2.mono hb.size)⟩
  have HRR : Hid (∀ (c : Int) (W : World), Below w.heap.size w W → Calls Tryz.prog 62 #[.pointer (some ⟨q.p, 0, none⟩), .int .i64 c] W fun e w' => e = .returned (.tuple #[.string (bytesOf (v.readS c)), .int .i64 (v.readF c)]) ∧ Below w.heap.size w w') := fun c W hb => (read_rim c W (hr.below hb) hok).mono fun e w' ⟨h1, h2⟩ => ⟨h1, hb.trans (h2.mono hb.size)⟩
  have HTH : Hid (∀ (c : Int) (W : World), Below w.heap.size w W → Calls Tryz.prog 63 #[.pointer (some ⟨q.p, 0, none⟩), .int .i64 c] W fun e w' => e = .returned (.bool (v.there c)) ∧ w' = W) := fun c W hb => there_rim c W (hr.below hb) hok.len
  have HSM : Hid (∀ (c : Int) (W : World), Calls Tryz.prog 11 #[erV (v.readF c), .int .i64 (v.readF c)] W fun e w' => e = .returned (.bool true) ∧ w' = W) := fun c W => errSame _ W (readF_pos v c)
  have HS1 : Hid (∀ W : World, Calls Tryz.prog 11 #[.iface 63 (.int .i64 1), .int .i64 1] W fun e w' => e = .returned (.bool true) ∧ w' = W) := fun W => errSame_err 1 W (by decide)
  have HEA : Hid (∀ cn : Nat, (cn : Int) < v.t.length → ∃ g cap, q.vt = .slice (some ⟨g, 0, none⟩) v.t.length cap ∧ g < w.heap.size ∧ w.cell? ⟨g, cn * 2, none⟩ = some (.int .i64 (v.ent (cn : Int)).1)) := fun cn hcn => by
    obtain ⟨g, cap, hv, hgl, t0, t1⟩ := hr.entAt (c := cn) (by omega)
    exact ⟨g, cap, hv, hgl, t0⟩
  have HEN : Hid (∀ c : Int, v.entE c = (if v.there c = true then v.ent c else (0, 0)) ∧ v.entF c = (if v.there c = true then 0 else 1)) := fun c => ⟨rfl, rfl⟩
  have hbo := HV.of_ok hok.h
  have hc0 : 0 ≤ v.h.c ∧ v.h.c ≤ 1000 := by omega
  clear hi hr hok hbo
  generalize v.freeL.length = fn at HF1 HF2
  generalize v.h.c = hc at c1 HHD hc0
  generalize v.h.p = hp at c2 HHD
  generalize v.h.b = hb at c3 HHD
  go_enter Tryz.func19, Tryz.ntmps19
  go_wp2
  go_region_held3 (fun W => Below w.heap.size w W ∧ W.cell? ⟨q.p, 0, none⟩ = some (.pointer (some ⟨q.d.p, 0, none⟩)) ∧ W.cell? ⟨q.p, 1, none⟩ = some (.int .i64 hc) ∧ W.cell? ⟨q.p, 2, none⟩ = some (.int .i64 hp) ∧ W.cell? ⟨q.p, 3, none⟩ = some (.int .i64 hb))
    (first | (exact ⟨Below.drew (Below.refl _ _), c0, c1, c2, c3⟩) | assumption | (exact ⟨by assumption, (Below.cell (by assumption) hpl).trans c0, (Below.cell (by assumption) hpl).trans c1, (Below.cell (by assumption) hpl).trans c2, (Below.cell (by assumption) hpl).trans c3⟩))
    (first
      | (go_at_call 58; refine (HHD.out _ ?_).mono ?_; (· exact (by assumption : Below w.heap.size w _ ∧ _).1); rintro e w' ⟨rfl, hb'⟩)
      | (go_at_call 26; refine (HF1.out _ ?_).mono ?_; (· exact (by assumption : Below w.heap.size w _ ∧ _).1); rintro e w' ⟨rfl, hb'⟩)
      | (go_at_call 59; refine (HF2.out _ ?_).mono ?_; (· exact (by assumption : Below w.heap.size w _ ∧ _).1); rintro e w' ⟨rfl, rfl⟩)
      | (go_at_call 54; refine (HDV.out _ ?_).mono ?_; (· exact (by assumption : Below w.heap.size w _ ∧ _).1); rintro e w' ⟨rfl, rfl⟩)
      | (go_at_call 60; refine (HAD.out _ ?_).mono ?_; (· exact (by assumption : Below w.heap.size w _ ∧ _).1); rintro e w' ⟨rfl, hb'⟩))
  have hst := (by assumption : Below w.heap.size w _ ∧ _).1
  go_wp2
  go_loopw [5] (fun i wr => ∃ k : Int, -1 ≤ k ∧ k ≤ hc + 1 ∧ i = .int .i64 k ∧ Below w.heap.size w wr) (fun i _ => (hc + 1 - intOf i).toNat)
  case atStart => exact ⟨-1, by omega, by omega, rfl, hst⟩
  case round =>
    obtain ⟨k, hk1, hk2, rfl, hbel⟩ := hrel
    have d1 : wr.cell? ⟨q.p, 1, none⟩ = some (.int .i64 hc) := (hbel.cell hpl).trans c1
    by_cases hlt : k ≤ hc
    · have HKc := toHid (HKI.out k)
      have HRIc := toHid (HRI.out k)
      have HRRc := toHid (HRR.out k)
      have HTHc := toHid (HTH.out k)
      have HSMc := toHid (HSM.out k)
      have HENc := toHid (HEN.out k)
      clear HKI HRI HRR HTH HSM HEN HHD HF1 HF2 HDV HAD hst
      cases hth : v.there k with
      | false =>
        have e1 : (v.entE k).1 = 0 := by rw [HENc.out.1, hth]; rfl
        have e2 : erV (v.entF k) = .iface 63 (.int .i64 1) := by rw [HENc.out.2, hth]; rfl
        rw [e1, e2] at HKc
        rw [hth] at HTHc
        clear HENc e1 e2 hth HEA c0 c1 c2 c3 c4
        generalize bytesOf (v.readS k) = S at HRIc HRRc
        generalize erV (v.readF k) = ef at HRIc HSMc
        generalize v.readF k = f at HRRc HSMc
        have HBL := toHid hbel
        clear hbel
        go_wp2_with fail
        refine (HKc.out _ HBL.out).mono ?_
        rintro e w1 ⟨rfl, hb1⟩
        have HB1 := toHid hb1
        clear hb1
        go_wp2_with fail
        refine (HRIc.out _ HB1.out).mono ?_
        rintro e w2 ⟨rfl, hb2⟩
        have HB2 := toHid hb2
        clear hb2
        go_wp2_with fail
        refine (HRRc.out _ HB2.out).mono ?_
        rintro e w3 ⟨rfl, hb3⟩
        have HB3 := toHid hb3
        clear hb3
        go_wp2_with fail
        refine (HSMc.out _).mono ?_
        rintro e w' ⟨rfl, hw⟩
        have hw' := hw.symm
        subst hw'
        clear hw
        go_wp2_with fail
        refine (HTHc.out _ HB3.out).mono ?_
        rintro e w' ⟨rfl, hw⟩
        have hw' := hw.symm
        subst hw'
        clear hw
        go_wp2_with fail
        refine (HS1.out _).mono ?_
        rintro e w' ⟨rfl, hw⟩
        have hw' := hw.symm
        subst hw'
        clear hw
        go_wp2
        go_roundw
        case rel =>
          have fin : ∃ k' : Int, -1 ≤ k' ∧ k' ≤ hc + 1 ∧ Value.int .i64 (k + 1) = .int .i64 k' ∧ Below w.heap.size w w3 := ⟨k + 1, by omega, by omega, rfl, HB3.out⟩
          first | exact fin | ((repeat apply Exists.intro); exact ⟨fin, rfl⟩)
        case measure => simp [intOf]; omega
      | true =>
        obtain ⟨t0', t1'⟩ := IV.there_of hth
        obtain ⟨cn, rfl⟩ : ∃ cn : Nat, k = (cn : Int) := ⟨k.toNat, by omega⟩
        obtain ⟨g, cap, hv, hgl, t0⟩ := HEA.out cn t1'
        rw [hv] at c4
        have e1 : (v.entE (cn : Int)).1 = (v.ent (cn : Int)).1 := by rw [HENc.out.1, hth]; rfl
        have e2 : erV (v.entF (cn : Int)) = .nilIface := by rw [HENc.out.2, hth]; rfl
        rw [e1, e2] at HKc
        rw [hth] at HTHc
        clear HENc e1 e2 hth HEA c0 c1 c2 c3 HS1 hv
        generalize bytesOf (v.readS (cn : Int)) = S at HRIc HRRc
        generalize erV (v.readF (cn : Int)) = ef at HRIc HSMc
        generalize v.readF (cn : Int) = f at HRRc HSMc
        generalize (v.ent (cn : Int)).1 = y0 at HKc t0
        generalize v.t.length = n at c4 t1'
        have HBL := toHid hbel
        clear hbel
        go_wp2_with fail
        refine (HKc.out _ HBL.out).mono ?_
        rintro e w1 ⟨rfl, hb1⟩
        have HB1 := toHid hb1
        clear hb1
        go_wp2_with fail
        refine (HRIc.out _ HB1.out).mono ?_
        rintro e w2 ⟨rfl, hb2⟩
        have HB2 := toHid hb2
        clear hb2
        go_wp2_with fail
        refine (HRRc.out _ HB2.out).mono ?_
        rintro e w3 ⟨rfl, hb3⟩
        have HB3 := toHid hb3
        clear hb3
        go_wp2_with fail
        refine (HSMc.out _).mono ?_
        rintro e w' ⟨rfl, hw⟩
        have hw' := hw.symm
        subst hw'
        clear hw
        go_wp2_with fail
        refine (HTHc.out _ HB3.out).mono ?_
        rintro e w' ⟨rfl, hw⟩
        have hw' := hw.symm
        subst hw'
        clear hw
        have d4 : w3.cell? ⟨q.p, 4, none⟩ = some (.slice (some ⟨g, 0, none⟩) n cap) := (HB3.out.cell hpl).trans c4
        have dt : w3.cell? ⟨g, cn * 2, none⟩ = some (.int .i64 y0) := (HB3.out.cell hgl).trans t0
        go_wp2
        go_roundw
        case rel =>
          have fin : ∃ k' : Int, -1 ≤ k' ∧ k' ≤ hc + 1 ∧ Value.int .i64 ((cn : Int) + 1) = .int .i64 k' ∧ Below w.heap.size w w3 := ⟨(cn : Int) + 1, by omega, by omega, rfl, HB3.out⟩
          first | exact fin | ((repeat apply Exists.intro); exact ⟨fin, rfl⟩)
        case measure => simp [intOf]; omega
    · go_wp2
      go_ret
      exact ⟨rfl, hbel⟩
end Go.Proofs.YtncjnjlakhohgaaGreat

namespace Go.Proofs.YtncjnjlakhohgaaGreat
open Go.RowKit Go.Maps
attribute [local go_sem ↓] Go.wp_at_zero Go.wp_at_succ

/- The first free place, by counting up. -/
theorem freeTo_nil {v : IV} {k : Nat} (h : v.freeTo k = []) (ho : v.openB k = false) : v.freeTo (k + 1) = [] := by
  rw [v.freeTo_succ, h, if_neg (by rw [ho]; decide)]; rfl

theorem freeTo_head {v : IV} {k n : Nat} (h : v.freeTo k = []) (ho : v.openB k = true) (hk : k < n) : ∃ r, v.freeTo n = k :: r := by
  have e : v.freeTo n = v.freeTo (k + 1) ++ ((List.range' (k + 1) (n - (k + 1))).filter v.openB) := by
    unfold IV.freeTo
    rw [← List.filter_append]
    congr 1
    have e2 : List.range' 0 (k + 1) ++ List.range' (0 + (k + 1)) (n - (k + 1)) = List.range' 0 ((k + 1) + (n - (k + 1))) := by rw [List.range'_append_1]
    rw [Nat.zero_add] at e2
    rw [List.range_eq_range', List.range_eq_range', e2]
    congr 1
    omega
  rw [e, v.freeTo_succ, h, if_pos ho]
  exact ⟨_, rfl⟩

set_option maxRecDepth 100000 in
set_option maxHeartbeats 2000000 in
theorem fill_rim {B m : Nat} {q : Qh} {v : IV} (c : Int) (s : ByteArray) (w : World) (h : IsRim B w q v) (hok : v.ok m) (hm : m + 10 < 1000000000) (hB : B ≤ w.heap.size) :
    Calls Tryz.prog 49 #[.pointer (some ⟨q.p, 0, none⟩), .int .i64 c, .string s] w (DidR B w q (v.fill c s) (v.fillF c s)) := by
  have HTH := toHid (there_rim c w h hok.len)
  have HDS : Hid (∀ f : Int, DidR B w q v f (.returned (.int .i64 f)) w) := fun f => didR_same h (Below.refl _ _)
  by_cases hcs : v.there c = true ∧ s.size = 64
  · obtain ⟨hc, hs⟩ := hcs
    rw [hc] at HTH
    obtain ⟨t0', t1'⟩ := IV.there_of hc
    obtain ⟨cn, rfl⟩ : ∃ cn : Nat, c = (cn : Int) := ⟨c.toNat, by omega⟩
    obtain ⟨g, cap, hv, _, t0, t1⟩ := h.entAt (c := cn) (by omega)
    have c4 := h.cells.2.2.2.2.1
    have c2 := h.cells.2.2.1
    rw [hv] at c4
    have HEN : Hid (v.ent (cn : Int) = v.t.getD cn (0, 0)) := rfl
    rw [← HEN.out] at t0
    have k0 : (0 : Int) ≤ (cn : Int) := by omega
    have g64 : ((s.size : Int) != 64) = false := by simp; omega
    by_cases h2 : (v.ent (cn : Int)).1 = 2
    · have e3 : v.fill (cn : Int) s = v := by unfold IV.fill; rw [if_pos ⟨hc, hs⟩, if_pos h2]
      have e4 : v.fillF (cn : Int) s = 5 := by unfold IV.fillF; rw [if_pos ⟨hc, hs⟩, if_pos h2]
      rw [e3, e4]
      rw [h2] at t0
      clear h hok hc e3 e4 h2 hv t1 HEN hs c2
      generalize v.t.length = n at c4 t1'
      go_enter Tryz.func49, Tryz.ntmps49
      go_wp2_with (go_at_call 63; refine HTH.out.mono ?_; rintro e w' ⟨rfl, hw⟩; have hw' := hw.symm; subst hw'; clear hw)
      go_ret
      exact HDS.out 5
    · have hbo := HV.of_ok hok.h
      have hlen := hok.len
      have hfew := hok.few
      have hn2 := hok.d.ok.n2
      obtain ⟨P, hP⟩ : ∃ P : Nat, v.h.p = (P : Int) := ⟨v.h.p.toNat, by omega⟩
      have hFL : v.freeL = v.freeTo P := by unfold IV.freeL; rw [hP]; rfl
      have HOP : Hid (∀ k : Nat, Calls Tryz.prog 82 #[.pointer (some ⟨q.p, 0, none⟩), .int .i64 (k : Int)] w fun e w' => e = .returned (.bool (v.openB k)) ∧ w' = w) := fun k => open_rim k w h (by omega) (by omega)
      have HFN : Hid (v.freeTo P = [] → v.fill (cn : Int) s = v ∧ v.fillF (cn : Int) s = 6) := fun hx => by
        have hx' : v.freeL = [] := hFL.trans hx
        constructor
        · unfold IV.fill; rw [if_pos ⟨hc, hs⟩, if_neg h2, hx']
        · unfold IV.fillF; rw [if_pos ⟨hc, hs⟩, if_neg h2, hx']
      have HFS : Hid (∀ (k : Nat), v.freeTo k = [] → v.openB k = true → k < P →
          (Calls Tryz.prog 81 #[.pointer (some ⟨q.p, 0, none⟩), .int .i64 (k : Int)] w fun e w' => e = .returned (.int .i64 (beginN v.h k : Int)) ∧ w' = w) ∧
          (Calls Tryz.prog 80 #[.pointer (some ⟨q.p, 0, none⟩), .int .i64 (beginN v.h k : Int), .string s] w (DidR B w q { v with d := (v.fillD k s).1 } (v.fillD k s).2)) ∧
          ((v.fillD k s).2 = 0 ∨ (v.fillD k s).2 = 7) ∧
          ((v.fillD k s).2 ≠ 0 → v.fill (cn : Int) s = { v with d := (v.fillD k s).1 } ∧ v.fillF (cn : Int) s = (v.fillD k s).2) ∧
          ((v.fillD k s).2 = 0 → v.fill (cn : Int) s = (v.fillV k s).set cn (2, (k : Int)) ∧ v.fillF (cn : Int) s = (v.fillV k s).d.putF) ∧
          (∀ (W : World) (q1 : Qh), IsRim B W q1 { v with d := (v.fillD k s).1 } → q1.p = q.p → Calls Tryz.prog 57 #[.pointer (some ⟨q.p, 0, none⟩)] W fun e w' => ∃ q' : Qh, e = .returned (.tuple #[]) ∧ Led B W q1 q' (v.fillV k s) w') ∧
          (∀ (W : World) (q1 : Qh), IsRim B W q1 (v.fillV k s) → q1.p = q.p → B ≤ W.heap.size → Calls Tryz.prog 83 #[.pointer (some ⟨q.p, 0, none⟩), .int .i64 (cn : Int), .agg #[.int .i64 2, .int .i64 (k : Int)]] W (DidR B W q1 ((v.fillV k s).set cn (2, (k : Int))) (v.fillV k s).d.putF))) := fun k hk1 hk2 hk3 => by
        obtain ⟨r, hr⟩ := freeTo_head hk1 hk2 hk3
        have hfl : v.freeL = k :: r := hFL.trans hr
        have hm1 : k ∈ v.freeL := by rw [hfl]; exact List.mem_cons_self
        have hbe := (begin_le hok.h hok.need).2 k (by omega)
        refine ⟨first_rim k w h hok.h (by omega), ?_, DV.puts_F _ _ _ _, fun hx => ?_, fun hx => ?_, fun W q1 hi hp => ?_, fun W q1 hi hp hb => ?_⟩
        · exact sectors_rim (beginN v.h k) 4 s w h hok.d (by omega) hB (by omega) (by omega) (by omega)
        · constructor
          · unfold IV.fill; rw [if_pos ⟨hc, hs⟩, if_neg h2, hfl]; show (if (v.fillD k s).2 = 0 then _ else _) = _; rw [if_neg hx]
          · unfold IV.fillF; rw [if_pos ⟨hc, hs⟩, if_neg h2, hfl]; show (if (v.fillD k s).2 = 0 then _ else _) = _; rw [if_neg hx]
        · constructor
          · unfold IV.fill; rw [if_pos ⟨hc, hs⟩, if_neg h2, hfl]; show (if (v.fillD k s).2 = 0 then _ else _) = _; rw [if_pos hx]; rfl
          · unfold IV.fillF; rw [if_pos ⟨hc, hs⟩, if_neg h2, hfl]; show (if (v.fillD k s).2 = 0 then _ else _) = _; rw [if_pos hx]
        · rw [← hp]
          exact flush_rim W hi (hok.fillD hm1 hs (by omega))
        · rw [← hp]
          exact set_rim cn 2 (k : Int) W hi (hok.fillV hm1 hs (by omega)) (by omega) hb (by show cn < v.t.length; omega) (free_ent hok hm1)
      have HF0 : Hid (v.freeTo 0 = []) := rfl
      have HFX : Hid (∀ k, v.freeTo k = [] → v.openB k = false → v.freeTo (k + 1) = []) := fun k a b => freeTo_nil a b
      have hp40 : P ≤ 40 := by omega
      rw [hP] at c2
      have HBN : Hid (∀ k, (beginN v.h k : Int) = 1 + (rowsN v.h.c.toNat : Int) + 4 * (k : Int)) := fun k => by unfold beginN; omega
      clear hok hbo hlen hfew hn2 hFL hP hs hc
      generalize (v.ent (cn : Int)).1 = y0 at t0 h2
      have g2 : (y0 == 2) = false := by simpa using h2
      clear h2 hv t1 HEN
      have HI := toHid h
      clear h
      generalize v.fill (cn : Int) s = V at HFN HFS ⊢
      generalize v.fillF (cn : Int) s = f at HFN HFS ⊢
      generalize v.t.length = n at c4 t1'
      go_enter Tryz.func49, Tryz.ntmps49
      go_wp2_with (go_at_call 63; refine HTH.out.mono ?_; rintro e w' ⟨rfl, hw⟩; have hw' := hw.symm; subst hw'; clear hw)
      go_loop [7] (fun i => ∃ k : Nat, k ≤ P ∧ i = .int .i64 k ∧ v.freeTo k = []) (fun i => P - (intOf i).toNat)
      case atStart => exact ⟨0, Nat.zero_le _, rfl, HF0.out⟩
      case round =>
        obtain ⟨k, hk, rfl, hfk⟩ := hrel
        by_cases hlt : k < P
        · have HO := toHid (HOP.out k)
          have hfs := HFS.out k hfk
          have hfx := HFX.out k hfk
          generalize hob : v.openB k = ob at HO hfs hfx
          clear hob
          cases ob with
          | false =>
            have HX := toHid (hfx rfl)
            clear hfs hfx hfk HFS HOP HFX
            go_wp2_with (go_at_call 82; refine HO.out.mono ?_; rintro e w' ⟨rfl, hw⟩; have hw' := hw.symm; subst hw'; clear hw)
            go_round
            case rel => exact ⟨k + 1, by omega, by go_num, HX.out⟩
            case measure => simp [intOf]; omega
          | true =>
            obtain ⟨q1, q2, q3, q4, q5, q6, q7⟩ := hfs rfl hlt
            have Q1 := toHid q1
            have Q2 := toHid q2
            have Q3 := toHid q3
            have Q4 := toHid q4
            have Q5 := toHid q5
            have Q6 := toHid q6
            have Q7 := toHid q7
            have gP : ((k : Int) == (P : Int)) = false := by simp; omega
            clear q1 q2 q3 q4 q5 q6 q7 hfs hfx hfk HFS HOP HFX HFN
            generalize beginN v.h k = bn at Q1 Q2
            generalize (v.fillD k s).2 = f1 at Q2 Q3 Q4 Q5
            generalize (v.fillV k s).d.putF = f2 at Q5 Q7
            go_wp2_with (first
              | (go_at_call 82; refine HO.out.mono ?_; rintro e w' ⟨rfl, hw⟩; have hw' := hw.symm; subst hw'; clear hw)
              | (go_at_call 81; refine Q1.out.mono ?_; rintro e w' ⟨rfl, hw⟩; have hw' := hw.symm; subst hw'; clear hw))
            refine Q2.out.mono ?_
            rintro e w3 ⟨r3, rfl, hl3⟩
            have HL3 := toHid hl3
            clear hl3 Q2 Q1
            by_cases hf1 : f1 = 0
            · obtain ⟨e1, e2⟩ := Q5.out hf1
              have HE1 := toHid e1
              have HE2 := toHid e2
              have Q8 := toHid (Q6.out w3 r3 HL3.out.rim HL3.out.p)
              rw [hf1]
              clear e1 e2 hf1 Q4 Q5 Q6 Q3
              go_wp2_with fail
              refine Q8.out.mono ?_
              rintro e w4 ⟨r4, rfl, hl4⟩
              have HL4 := toHid (HL3.out.trans hl4)
              have Q9 := toHid (Q7.out w4 r4 hl4.rim (hl4.p.trans HL3.out.p) (Nat.le_trans hB (HL3.out.trans hl4).kept.size))
              clear hl4 HL3 Q8 Q7
              go_wp2_with fail
              refine Q9.out.mono ?_
              rintro e w5 ⟨r5, rfl, hl5⟩
              have HD : Hid (DidR B w q V f (.returned (.int .i64 f2)) w5) := ⟨r5, by rw [HE2.out], by rw [HE1.out]; exact HL4.out.trans hl5⟩
              clear hl5 HL4 Q9
              go_wp2
              go_ret
              exact HD.out
            · obtain ⟨e1, e2⟩ := Q4.out hf1
              have h7 : f1 = 7 := by rcases Q3.out with h | h; exact absurd h hf1; exact h
              have HD : Hid (DidR B w q V f (.returned (.int .i64 7)) w3) := ⟨r3, by rw [e2, h7], by rw [e1]; exact HL3.out⟩
              rw [h7]
              clear e1 e2 hf1 h7 Q4 Q5 Q6 Q7 Q3 HL3
              go_wp2
              go_ret
              exact HD.out
        · have hkp : k = P := by omega
          subst hkp
          obtain ⟨e1, e2⟩ := HFN.out hfk
          have HD : Hid (DidR B w q V f (.returned (.int .i64 6)) w) := by rw [e1, e2]; exact HDS.out 6
          clear hfk HFS HOP HFX HFN e1 e2
          go_wp2
          go_ret
          exact HD.out
  · have hor : v.there c = false ∨ s.size ≠ 64 := by
      cases hc : v.there c with
      | false => exact .inl rfl
      | true => exact .inr fun e => hcs ⟨hc, e⟩
    have e3 : v.fill c s = v := by unfold IV.fill; rw [if_neg hcs]
    have e4 : v.fillF c s = 1 := by unfold IV.fillF; rw [if_neg hcs]
    rw [e3, e4]
    clear h hok e3 e4 hcs
    cases hc : v.there c with
    | false =>
      rw [hc] at HTH
      clear hc hor
      go_enter Tryz.func49, Tryz.ntmps49
      go_wp2_with (go_at_call 63; refine HTH.out.mono ?_; rintro e w' ⟨rfl, hw⟩; have hw' := hw.symm; subst hw'; clear hw)
      go_ret
      exact HDS.out 1
    | true =>
      rw [hc] at HTH hor
      have hs : s.size ≠ 64 := by rcases hor with h | h; cases h; exact h
      have g64 : ((s.size : Int) != 64) = true := by simp; omega
      clear hc hor hs
      go_enter Tryz.func49, Tryz.ntmps49
      go_wp2_with (go_at_call 63; refine HTH.out.mono ?_; rintro e w' ⟨rfl, hw⟩; have hw' := hw.symm; subst hw'; clear hw)
      go_ret
      exact HDS.out 1
end Go.Proofs.YtncjnjlakhohgaaGreat
