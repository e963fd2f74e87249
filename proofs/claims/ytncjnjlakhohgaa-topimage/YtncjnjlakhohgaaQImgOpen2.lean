/-
Open: the image that stands on a device, or that there is none.
-/
import Derived.Test.YtncjnjlakhohgaaQImgOpen
namespace Go.Proofs.Ytncjnjlakhohgaa
open Go.RowKit Go.Maps
attribute [local go_sem ↓] Go.wp_at_zero Go.wp_at_succ

theorem erV_some2 {f : Int} (h : f ≠ 0) : erV f = .iface 112 (.int .i64 f) := by unfold erV; rw [if_neg h]

theorem HV.cells_eq (h : HV) : h.cells = #[.int .i64 h.c, .int .i64 h.p, .int .i64 h.b] := rfl

set_option maxRecDepth 100000 in
set_option maxHeartbeats 1000000 in
theorem open_head {B : Nat} {h : Hd} {d : DV} (w : World) (hd : IsDev B w h d) (h1 : headF (bytesOf (d.seen.getD 0 [])) ≠ 0) :
    Calls Try.prog 63 #[.pointer (some ⟨h.p, 0, none⟩)] w fun e w' => e = .returned (.tuple #[.pointer none, erV (openF d)]) ∧ Below w.heap.size w w' := by
  have e0 : openF d = headF (bytesOf (d.seen.getD 0 [])) := by unfold openF; rw [if_neg h1]
  rw [e0, erV_some2 h1]
  have HRD := toHid (read_yes 0 w hd hd.ok.n1)
  have HRH := toHid (readHead_any (bytesOf (d.seen.getD 0 [])))
  rw [erV_some2 h1] at HRH
  clear hd h1 e0
  generalize headF (bytesOf (d.seen.getD 0 [])) = f at HRH ⊢
  simp only [HV.cells_eq] at HRH
  generalize (headOf (bytesOf (d.seen.getD 0 []))).c = c at HRH
  generalize (headOf (bytesOf (d.seen.getD 0 []))).p = p at HRH
  generalize (headOf (bytesOf (d.seen.getD 0 []))).b = b at HRH
  generalize bytesOf (d.seen.getD 0 []) = s at HRD HRH
  go_enter Try.func63, Try.ntmps63
  go_wp2_with fail
  refine HRD.out.mono ?_
  rintro e w' ⟨rfl, hw⟩
  have hw' := hw.symm
  subst hw'
  clear hw
  go_wp2_with fail
  refine (HRH.out _).mono ?_
  rintro e w1 ⟨rfl, hb1⟩
  go_wp2
  go_ret2
  exact ⟨rfl, hb1.alloc hb1.size _⟩

set_option maxRecDepth 100000 in
set_option maxHeartbeats 1000000 in
theorem open_rest {B : Nat} {h : Hd} {d : DV} (w : World) (hd : IsDev B w h d) (hB : B ≤ w.heap.size) (h1 : headF (bytesOf (d.seen.getD 0 [])) = 0) :
    Calls Try.prog 63 #[.pointer (some ⟨h.p, 0, none⟩)] w fun e w' => Below w.heap.size w w' ∧
      ((openF d ≠ 0 ∧ e = .returned (.tuple #[.pointer none, erV (openF d)])) ∨ (openF d = 0 ∧ ∃ x : Ih, x.h = h ∧ w.heap.size ≤ x.tb ∧ e = .returned (.tuple #[.pointer (some ⟨x.p, 0, none⟩), .nilIface]) ∧ IsImg B w' x (openV d))) := by
  have hk : (openH d).ok = true := headF_ok h1
  have hk2 : HV.ok ⟨(openH d).c, (openH d).p, (openH d).b⟩ = true := hk
  have hn1 := hd.ok.n1
  have hn2 := hd.ok.n2
  have HRD := toHid (read_yes 0 w hd hn1)
  have HRH := toHid (readHead_any (bytesOf (d.seen.getD 0 [])))
  rw [h1, erV_0] at HRH
  simp only [HV.cells_eq] at HRH
  have HND := toHid (fun W => need_any (openH d).c (openH d).p (openH d).b W hk2)
  have HDK : Hid (∀ W : World, Below w.heap.size w W → IsDev B W h d) := fun W hb => hd.keep fun k hk => hb.block k (hd.lt k hk).2
  have HF1 : Hid (d.fl.length < needN (openH d) → openF d = 1) := fun hx => by unfold openF; rw [if_pos h1, if_pos hx]
  have HF2 : Hid (¬ d.fl.length < needN (openH d) → openF d = tableF (openH d) (openRs d)) := fun hx => by unfold openF; rw [if_pos h1, if_neg hx]
  have HTG : Hid (tableF (openH d) (openRs d) = 0 → ((tableT (openH d) (openRs d)).length : Int) = (openH d).c) := fun hx => (tableT_good hx).2.2.2
  have hbo := HV.of_ok hk
  have HRT : Hid (¬ d.fl.length < needN (openH d) → ∀ W : World, Below w.heap.size w W → Calls Try.prog 92 #[.pointer (some ⟨h.p, 0, none⟩), .agg #[.int .i64 (openH d).c, .int .i64 (openH d).p, .int .i64 (openH d).b]] W fun e w' =>
      ∃ lt cp, e = .returned (.tuple #[.slice lt (tableT (openH d) (openRs d)).length cp, erV (tableF (openH d) (openRs d))]) ∧ TabO W.heap.size w' lt cp (tableT (openH d) (openRs d)) ∧ Below W.heap.size W w') := fun hx W hb => by
    refine readTable_img (openH d).c (openH d).p (openH d).b W (HDK.out W hb) hk2 ?_
    have := (begin_le hk (Nat.le_refl _)).1
    omega
  have HMD : Hid (∀ (W : World) (tb tc : Nat), Below w.heap.size w W → W.ownsRow B 78 2 (.slice (some ⟨tb, 0, none⟩) (tableT (openH d) (openRs d)).length tc) (tableT (openH d) (openRs d)).length (entV (tableT (openH d) (openRs d))) →
      Calls Try.prog 84 #[.pointer (some ⟨h.p, 0, none⟩), .agg #[.int .i64 (openH d).c, .int .i64 (openH d).p, .int .i64 (openH d).b], .slice (some ⟨tb, 0, none⟩) (tableT (openH d) (openRs d)).length tc] W fun e w' =>
      ∃ x : Ih, x.h = h ∧ x.tb = tb ∧ x.tc = tc ∧ e = .returned (.pointer (some ⟨x.p, 0, none⟩)) ∧ IsImg B w' x (openV d) ∧ Below W.heap.size W w') := fun W tb tc hb ho =>
    made_img (openH d).c (openH d).p (openH d).b (tableT (openH d) (openRs d)) W (HDK.out W hb) (Nat.le_trans hB hb.size) ho
  generalize openV d = V at HMD ⊢
  generalize openF d = F at HF1 HF2 ⊢
  generalize tableF (openH d) (openRs d) = TF at HF2 HRT HTG
  generalize tableT (openH d) (openRs d) = TT at HRT HMD HTG
  generalize needN (openH d) = nn at HND HF1 HF2 HRT
  have hc1 := hbo.1
  change Hid (∀ W : World, Calls Try.prog 41 #[.string (bytesOf (d.seen.getD 0 []))] W fun e w' => e = .returned (.tuple #[.agg #[.int .i64 (openH d).c, .int .i64 (openH d).p, .int .i64 (openH d).b], .nilIface]) ∧ Below W.heap.size W w') at HRH
  clear hk hk2 hbo h1
  generalize (openH d).c = c at HRH HND HRT HMD HTG hc1
  generalize (openH d).p = p at HRH HND HRT HMD
  generalize (openH d).b = b at HRH HND HRT HMD
  generalize bytesOf (d.seen.getD 0 []) = s at HRD HRH
  have HSI : Hid (∀ W : World, Below w.heap.size w W → Calls Try.prog 22 #[.pointer (some ⟨h.p, 0, none⟩)] W fun e w' => e = .returned (.int .i64 (d.fl.length : Int)) ∧ w' = W) := fun W hb => size_any W (HDK.out W hb)
  clear hd HDK
  go_enter Try.func63, Try.ntmps63
  go_wp2_with fail
  refine HRD.out.mono ?_
  rintro e w' ⟨rfl, hw⟩
  have hw' := hw.symm
  subst hw'
  clear hw
  go_wp2_with fail
  refine (HRH.out _).mono ?_
  rintro e w1 ⟨rfl, hb1⟩
  have HB1 : Hid (Below w.heap.size w (w1.alloc (.cells #[.int .i64 c, .int .i64 p, .int .i64 b] 67))) := hb1.alloc hb1.size _
  have HX1 : Hid ((w1.alloc (.cells #[.int .i64 c, .int .i64 p, .int .i64 b] 67)).heap[w1.heap.size]? = some (.cells #[.int .i64 c, .int .i64 p, .int .i64 b] 67 (0, 0))) := heap_alloc_new _ _
  clear hb1 HRD HRH
  go_wp2
  generalize w1.alloc (.cells #[.int .i64 c, .int .i64 p, .int .i64 b] 67) = wA at HB1 HX1 ⊢
  generalize w1.heap.size = N at HX1 ⊢
  have hNl : N < wA.heap.size := lt_of_some HX1.out
  have y0 : wA.cell? ⟨N, 0, none⟩ = some (.int .i64 c) := by rw [cell_of_row _ _ _ _ _ _ HX1.out]; rfl
  have y1 : wA.cell? ⟨N, 1, none⟩ = some (.int .i64 p) := by rw [cell_of_row _ _ _ _ _ _ HX1.out]; rfl
  have y2 : wA.cell? ⟨N, 2, none⟩ = some (.int .i64 b) := by rw [cell_of_row _ _ _ _ _ _ HX1.out]; rfl
  go_region_held3 (fun W => Below wA.heap.size wA W ∧ W.cell? ⟨N, 0, none⟩ = some (.int .i64 c) ∧ W.cell? ⟨N, 1, none⟩ = some (.int .i64 p) ∧ W.cell? ⟨N, 2, none⟩ = some (.int .i64 b))
    (first | (exact ⟨Below.drew (Below.refl _ _), y0, y1, y2⟩) | assumption | (exact ⟨by assumption, (Below.cell (by assumption) hNl).trans y0, (Below.cell (by assumption) hNl).trans y1, (Below.cell (by assumption) hNl).trans y2⟩))
    (first
      | (go_at_call 22; refine (HSI.out _ (HB1.out.trans (Below.mono (by assumption : Below wA.heap.size wA _ ∧ _).1 HB1.out.size))).mono ?_; rintro e w' ⟨rfl, rfl⟩)
      | (go_at_call 83; refine (HND.out _).mono ?_; rintro e w' ⟨rfl, hb'⟩; have hB' := Below.trans (by assumption : Below wA.heap.size wA _ ∧ _).1 (hb'.mono (by assumption : Below wA.heap.size wA _ ∧ _).1.size)))
  all_goals
    obtain ⟨hs0, z0, z1, z2⟩ := (by assumption : Below wA.heap.size wA _ ∧ _)
    have HBW := toHid (HB1.out.trans (hs0.mono HB1.out.size))
    clear hs0 y0 y1 y2 HX1 hNl
    by_cases hx : d.fl.length < nn
    · have hF := HF1.out hx
      have g1 : decide ((d.fl.length : Int) < (nn : Int)) = true := decide_eq_true (by omega)
      clear HF1 HF2 HRT HMD HTG
      go_wp2
      go_ret2
      exact ⟨HBW.out, .inl ⟨by rw [hF]; decide, by rw [hF, erV_1]; rfl⟩⟩
    · have HF := toHid (HF2.out hx)
      have g1 : decide ((d.fl.length : Int) < (nn : Int)) = false := decide_eq_false (by omega)
      have HRW := toHid (HRT.out hx _ HBW.out)
      clear HF1 HF2 HRT
      go_wp2_with fail
      refine HRW.out.mono ?_
      rintro e w3 ⟨lt, cp, rfl, hto, hb3⟩
      have HB3 := toHid (HBW.out.trans (hb3.mono HBW.out.size))
      have z0' := (hb3.cell (World.block_lt_of_cell? _ _ z0)).trans z0
      have z1' := (hb3.cell (World.block_lt_of_cell? _ _ z1)).trans z1
      have z2' := (hb3.cell (World.block_lt_of_cell? _ _ z2)).trans z2
      by_cases hT : TF = 0
      · have htl := HTG.out hT
        obtain ⟨g, cp2, hv, hgB, _⟩ := hto.2.form (by omega)
        injection hv with hv1 hv2 hv3
        subst hv1
        subst hv3
        have HOW : Hid (w3.ownsRow B 78 2 (.slice (some ⟨g, 0, none⟩) TT.length cp) TT.length (entV TT)) := ownsRow_base hto.2 (Nat.le_trans hB HBW.out.size)
        have HMM := toHid (HMD.out w3 g cp HB3.out HOW.out)
        have HGB : Hid (w.heap.size ≤ g) := Nat.le_trans HBW.out.size hgB
        have hF0 : F = 0 := HF.out.trans hT
        rw [hT, erV_0]
        clear hto hb3 HRW HMD HTG htl hgB hT HF z0 z1 z2
        generalize TT.length = tl at HMM
        go_wp2_with fail
        refine HMM.out.mono ?_
        rintro e w4 ⟨x, hxh, hxt, hxc, rfl, hi4, hb4⟩
        have HI4 := toHid hi4
        have HB4 := toHid (HB3.out.trans (hb4.mono HB3.out.size))
        have HXH := toHid hxh
        have HXT : Hid (w.heap.size ≤ x.tb) := by unfold Hid; rw [hxt]; exact HGB.out
        clear hi4 hb4 hxh hxt hxc HMM
        go_wp2
        go_ret2
        exact ⟨HB4.out, .inr ⟨hF0, x, HXH.out, HXT.out, rfl, HI4.out⟩⟩
      · have HFF : Hid (F = TF) := HF.out
        have HNT := toHid hT
        have HEE := toHid (erV_some2 hT)
        rw [erV_some2 hT]
        clear hto hb3 HRW HMD HTG hT HF z0 z1 z2 z0' z1' z2'
        go_wp2
        go_ret2
        exact ⟨HB3.out, .inl ⟨by rw [HFF.out]; exact HNT.out, by rw [HFF.out, HEE.out]; rfl⟩⟩

/- Open, either way. -/
theorem open_img {B : Nat} {h : Hd} {d : DV} (w : World) (hd : IsDev B w h d) (hB : B ≤ w.heap.size) :
    Calls Try.prog 63 #[.pointer (some ⟨h.p, 0, none⟩)] w fun e w' => Below w.heap.size w w' ∧
      ((openF d ≠ 0 ∧ e = .returned (.tuple #[.pointer none, erV (openF d)])) ∨ (openF d = 0 ∧ ∃ x : Ih, x.h = h ∧ w.heap.size ≤ x.tb ∧ e = .returned (.tuple #[.pointer (some ⟨x.p, 0, none⟩), .nilIface]) ∧ IsImg B w' x (openV d))) := by
  by_cases h1 : headF (bytesOf (d.seen.getD 0 [])) = 0
  · exact open_rest w hd hB h1
  · refine (open_head w hd h1).mono ?_
    rintro e w' ⟨rfl, hb⟩
    have e0 : openF d = headF (bytesOf (d.seen.getD 0 [])) := by unfold openF; rw [if_neg h1]
    exact ⟨hb, .inl ⟨by rw [e0]; exact h1, rfl⟩⟩
end Go.Proofs.Ytncjnjlakhohgaa
