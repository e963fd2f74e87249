/-
Fill and Clear of an image.
-/
import Derived.Test.YtjegaljdindfaabGreatDoorQImgActs
namespace Go.Proofs.YtjegaljdindfaabGreatDoor
open Go.RowKit Go.Maps
attribute [local go_sem ↓] Go.wp_at_zero Go.wp_at_succ

set_option maxRecDepth 100000 in
set_option maxHeartbeats 1000000 in
theorem clear_img {B : Gd} {m : Nat} {x : Ih} {v : IV} (c : Int) (w : World) (h : IsImg B w x v) (hok : v.ok m) (hm : m + 10 < 1000000000) (hB : B.top ≤ w.heap.size) :
    Calls Tryz.prog 29 #[.pointer (some ⟨x.p, 0, none⟩), .int .i64 c] w (Did B w x (v.clear c) (v.clearF c)) := by
  have HE := toHid (entry_img c w h)
  have HI := toHid h
  cases hc : v.there c with
  | false =>
    have e1 : v.entF c = 1 := by unfold IV.entF; rw [hc]; rfl
    have e3 : v.clear c = v := by unfold IV.clear; rw [hc, if_neg (fun h => by cases h.1)]
    have e4 : v.clearF c = 1 := by unfold IV.clearF; rw [hc]; rfl
    rw [e1, erV_1] at HE
    rw [e3, e4]
    clear h hok hc e1 e3 e4
    generalize (v.entE c).1 = y0 at HE
    generalize (v.entE c).2 = y1 at HE
    go_enter Tryz.func29, Tryz.ntmps29
    go_wp2_with fail
    refine HE.out.mono ?_
    rintro e w1 ⟨rfl, hb1⟩
    have HD : Hid (Did B w x v 1 (.returned (erV 1)) (w1.alloc (.cells #[.int .i64 y0, .int .i64 y1] 142))) := did_same HI.out (hb1.alloc hb1.size _)
    rw [erV_some (by decide)] at HD
    clear hb1
    go_wp2
    go_ret
    exact HD.out
  | true =>
    have e1 : v.entF c = 0 := by unfold IV.entF; rw [hc]; rfl
    have e2 : v.entE c = v.ent c := by unfold IV.entE; rw [hc]; rfl
    rw [e1, erV_0, e2] at HE
    by_cases h1 : (v.ent c).1 = 1
    · have e3 : v.clear c = v := by unfold IV.clear; rw [if_neg (fun h => h.2 h1)]
      have e4 : v.clearF c = 0 := by unfold IV.clearF; rw [hc, if_pos rfl, if_pos h1]
      rw [e3, e4]
      rw [h1] at HE
      clear h hok hc e1 e2 e3 e4 h1
      generalize (v.ent c).2 = y1 at HE
      go_enter Tryz.func29, Tryz.ntmps29
      go_wp2_with fail
      refine HE.out.mono ?_
      rintro e w1 ⟨rfl, hb1⟩
      have HD : Hid (Did B w x v 0 (.returned (erV 0)) (w1.alloc (.cells #[.int .i64 1, .int .i64 y1] 142))) := did_same HI.out (hb1.alloc hb1.size _)
      rw [erV_0] at HD
      clear hb1
      go_wp2
      go_ret
      exact HD.out
    · obtain ⟨t0, t1⟩ := IV.there_of hc
      have HST : Hid (∀ W : World, IsImg B W x v → B.top ≤ W.heap.size → Calls Tryz.prog 84 #[.pointer (some ⟨x.p, 0, none⟩), .int .i64 c, .agg #[.int .i64 1, .int .i64 0]] W (Did B W x (v.clear c) (v.clearF c))) := fun W hi hb => by
        have := set_img c.toNat 1 0 W hi hok (by omega) hb (by omega) (entB_yes (.inr ⟨.inr rfl, rfl⟩))
        rw [show ((c.toNat : Nat) : Int) = c by omega] at this
        have e3 : v.clear c = v.set c.toNat (1, 0) := by unfold IV.clear; rw [if_pos ⟨hc, h1⟩]
        have e4 : v.clearF c = v.d.putF := by unfold IV.clearF; rw [hc, if_pos rfl, if_neg h1]
        rw [e3, e4]
        exact this
      generalize v.clear c = V at HST ⊢
      generalize v.clearF c = f at HST ⊢
      clear h hok hc e1 e2 t0 t1
      generalize (v.ent c).1 = y0 at HE h1
      generalize (v.ent c).2 = y1 at HE
      have g1 : (y0 == 1) = false := by simpa using h1
      clear h1
      go_enter Tryz.func29, Tryz.ntmps29
      go_wp2_with fail
      refine HE.out.mono ?_
      rintro e w1 ⟨rfl, hb1⟩
      have HB1 := toHid (hb1.alloc hb1.size (.cells #[.int .i64 y0, .int .i64 y1] 142))
      have HW2 := toHid (HST.out _ (HI.out.below HB1.out) (Nat.le_trans hB HB1.out.size))
      clear hb1 HE HI HST
      go_wp2_with fail
      refine HW2.out.mono ?_
      rintro e w2 ⟨y, rfl, h2y, h3y, h4y⟩
      have HD : Hid (Did B w x V f (.returned (erV f)) w2) := Did.from ⟨y, rfl, h2y, h3y, h4y⟩ HB1.out
      clear h2y h3y h4y
      go_wp2
      go_ret
      exact HD.out

/- Fill, where it doesn't come to a write. -/
set_option maxRecDepth 100000 in
set_option maxHeartbeats 1000000 in
theorem fill_none {B : Gd} {m : Nat} {x : Ih} {v : IV} (c : Int) (s : ByteArray) (w : World) (h : IsImg B w x v) (hok : v.ok m) (hn : ¬ (v.there c = true ∧ s.size = 64 ∧ (v.ent c).1 ≠ 2 ∧ v.freeL ≠ [])) :
    Calls Tryz.prog 31 #[.pointer (some ⟨x.p, 0, none⟩), .int .i64 c, .string s] w (Did B w x (v.fill c s) (v.fillF c s)) := by
  have HE := toHid (entry_img c w h)
  have HI := toHid h
  cases hc : v.there c with
  | false =>
    have e1 : v.entF c = 1 := by unfold IV.entF; rw [hc]; rfl
    have e3 : v.fill c s = v := by unfold IV.fill; rw [hc, if_neg (fun h => by cases h.1)]
    have e4 : v.fillF c s = 1 := by unfold IV.fillF; rw [hc, if_neg (fun h => by cases h.1)]
    rw [e1, erV_1] at HE
    rw [e3, e4]
    clear h hok hc e1 e3 e4 hn
    generalize (v.entE c).1 = y0 at HE
    generalize (v.entE c).2 = y1 at HE
    go_enter Tryz.func31, Tryz.ntmps31
    go_wp2_with fail
    refine HE.out.mono ?_
    rintro e w1 ⟨rfl, hb1⟩
    have HD : Hid (Did B w x v 1 (.returned (erV 1)) (w1.alloc (.cells #[.int .i64 y0, .int .i64 y1] 142))) := did_same HI.out (hb1.alloc hb1.size _)
    rw [erV_some (by decide)] at HD
    clear hb1
    go_wp2
    go_ret
    exact HD.out
  | true =>
    have e1 : v.entF c = 0 := by unfold IV.entF; rw [hc]; rfl
    have e2 : v.entE c = v.ent c := by unfold IV.entE; rw [hc]; rfl
    rw [e1, erV_0, e2] at HE
    by_cases hs : s.size = 64
    · by_cases h2 : (v.ent c).1 = 2
      · have e3 : v.fill c s = v := by unfold IV.fill; rw [if_pos ⟨hc, hs⟩, if_pos h2]
        have e4 : v.fillF c s = 5 := by unfold IV.fillF; rw [if_pos ⟨hc, hs⟩, if_pos h2]
        rw [e3, e4]
        rw [h2] at HE
        have g1 : ((s.size : Int) != 64) = false := by simp; omega
        clear h hok hc e1 e2 e3 e4 h2 hs hn
        generalize (v.ent c).2 = y1 at HE
        go_enter Tryz.func31, Tryz.ntmps31
        go_wp2_with fail
        refine HE.out.mono ?_
        rintro e w1 ⟨rfl, hb1⟩
        have HD : Hid (Did B w x v 5 (.returned (erV 5)) (w1.alloc (.cells #[.int .i64 2, .int .i64 y1] 142))) := did_same HI.out (hb1.alloc hb1.size _)
        rw [erV_some (by decide)] at HD
        clear hb1
        go_wp2
        go_ret
        exact HD.out
      · have hfl : v.freeL = [] := by
          by_cases hx : v.freeL = []
          · exact hx
          · exact absurd ⟨hc, hs, h2, hx⟩ hn
        have e3 : v.fill c s = v := by unfold IV.fill; rw [if_pos ⟨hc, hs⟩, if_neg h2, hfl]
        have e4 : v.fillF c s = 6 := by unfold IV.fillF; rw [if_pos ⟨hc, hs⟩, if_neg h2, hfl]
        rw [e3, e4]
        have HF : Hid (∀ W : World, IsImg B W x v → Calls Tryz.prog 87 #[.pointer (some ⟨x.p, 0, none⟩)] W fun e w' => ∃ a cap, e = .returned (.slice a 0 cap) ∧ Below W.heap.size W w') := fun W hi => by
          refine (free_img W hi hok).mono ?_
          rw [hfl]
          rintro e w' ⟨a, cap, h1, _, h3⟩
          exact ⟨a, cap, h1, h3⟩
        generalize (v.ent c).1 = y0 at HE h2
        generalize (v.ent c).2 = y1 at HE
        have g1 : ((s.size : Int) != 64) = false := by simp; omega
        have g2 : (y0 == 2) = false := by simpa using h2
        clear h hok hc e1 e2 e3 e4 h2 hs hn hfl
        go_enter Tryz.func31, Tryz.ntmps31
        go_wp2_with fail
        refine HE.out.mono ?_
        rintro e w1 ⟨rfl, hb1⟩
        have HB1 := toHid (hb1.alloc hb1.size (.cells #[.int .i64 y0, .int .i64 y1] 142))
        have HF2 := toHid (HF.out _ (HI.out.below HB1.out))
        clear hb1 HE HF
        go_wp2_with fail
        refine HF2.out.mono ?_
        rintro e w2 ⟨a, cap, rfl, hb2⟩
        have HD : Hid (Did B w x v 6 (.returned (erV 6)) w2) := did_same HI.out (HB1.out.trans (hb2.mono HB1.out.size))
        rw [erV_some (by decide)] at HD
        clear hb2
        go_wp2
        go_ret
        exact HD.out
    · have e3 : v.fill c s = v := by unfold IV.fill; rw [if_neg (fun h => hs h.2)]
      have e4 : v.fillF c s = 1 := by unfold IV.fillF; rw [if_neg (fun h => hs h.2)]
      rw [e3, e4]
      generalize (v.ent c).1 = y0 at HE
      generalize (v.ent c).2 = y1 at HE
      have g1 : ((s.size : Int) != 64) = true := by simp; omega
      clear h hok hc e1 e2 e3 e4 hs hn
      go_enter Tryz.func31, Tryz.ntmps31
      go_wp2_with fail
      refine HE.out.mono ?_
      rintro e w1 ⟨rfl, hb1⟩
      have HD : Hid (Did B w x v 1 (.returned (erV 1)) (w1.alloc (.cells #[.int .i64 y0, .int .i64 y1] 142))) := did_same HI.out (hb1.alloc hb1.size _)
      rw [erV_some (by decide)] at HD
      clear hb1
      go_wp2
      go_ret
      exact HD.out

set_option maxRecDepth 100000 in
set_option maxHeartbeats 1000000 in
theorem fill_some {B : Gd} {m : Nat} {x : Ih} {v : IV} (c : Int) (s : ByteArray) (q : Nat) (r : List Nat) (w : World) (h : IsImg B w x v) (hok : v.ok m) (hm : m + 10 < 1000000000) (hB : B.top ≤ w.heap.size) (hc : v.there c = true) (hs : s.size = 64) (h2 : (v.ent c).1 ≠ 2) (hfl : v.freeL = q :: r) :
    Calls Tryz.prog 31 #[.pointer (some ⟨x.p, 0, none⟩), .int .i64 c, .string s] w (Did B w x (v.fill c s) (v.fillF c s)) := by
  have HE := toHid (entry_img c w h)
  have HI := toHid h
  have e1 : v.entF c = 0 := by unfold IV.entF; rw [hc]; rfl
  have e2 : v.entE c = v.ent c := by unfold IV.entE; rw [hc]; rfl
  rw [e1, erV_0, e2] at HE
  obtain ⟨t0, t1⟩ := IV.there_of hc
  have hm1 : q ∈ v.freeL := by rw [hfl]; exact List.mem_cons_self
  have hbo := HV.of_ok hok.h
  have hqp := (IV.freeTo_mem hm1).1
  have hbe := (begin_le hok.h hok.need).2 q (by omega)
  have e3 : v.fill c s = if (v.fillD q s).2 = 0 then (v.fillV q s).set c.toNat (2, (q : Int)) else { v with d := (v.fillD q s).1 } := by unfold IV.fill; rw [if_pos ⟨hc, hs⟩, if_neg h2, hfl]
  have e4 : v.fillF c s = if (v.fillD q s).2 = 0 then (v.fillV q s).d.putF else (v.fillD q s).2 := by unfold IV.fillF; rw [if_pos ⟨hc, hs⟩, if_neg h2, hfl]
  have HF : Hid (∀ W : World, IsImg B W x v → Calls Tryz.prog 87 #[.pointer (some ⟨x.p, 0, none⟩)] W fun e w' => ∃ g n cap, e = .returned (.slice (some ⟨g, 0, none⟩) (n + 1) cap) ∧ W.heap.size ≤ g ∧ (∃ cur, w'.heap[g]? = some (.cells cur 3 (0, 0))) ∧ w'.cell? ⟨g, 0, none⟩ = some (.int .i64 (q : Int)) ∧ Below W.heap.size W w') := fun W hi => by
    refine (free_img W hi hok).mono ?_
    rintro e w' ⟨a, cap, h1, h2, h3⟩
    rw [hfl] at h1 h2
    obtain ⟨g, cap2, hv, hg, hl⟩ := h2.form (by simp)
    rw [hv] at h1 h2
    refine ⟨g, r.length, cap2, h1, hg, ?_, ?_, h3⟩
    · obtain ⟨cur, hh⟩ := ownsRow_kind h2 g rfl
      exact ⟨cur, hh⟩
    · rw [h2.cellAt 0 (by simp)]; rfl
  have HWP : Hid (∀ W : World, IsImg B W x v → B.top ≤ W.heap.size → Calls Tryz.prog 88 #[.pointer (some ⟨x.p, 0, none⟩), .int .i64 (q : Int), .int .i64 0, .string s] W (Did B W x { v with d := (v.fillD q s).1 } (v.fillD q s).2)) := fun W hi hb =>
    writePlace_img q 0 4 s W hi hok.d (by omega) hb hok.h (by omega) (by omega) (by omega) (by omega)
  have HST : Hid (∀ (W : World) (y : Hd), IsImg B W { x with h := y } (v.fillV q s) → B.top ≤ W.heap.size → Calls Tryz.prog 84 #[.pointer (some ⟨x.p, 0, none⟩), .int .i64 c, .agg #[.int .i64 2, .int .i64 (q : Int)]] W (Did B W { x with h := y } ((v.fillV q s).set c.toNat (2, (q : Int))) (v.fillV q s).d.putF)) := fun W y hi hb => by
    have := set_img c.toNat 2 (q : Int) W hi (hok.fillV hm1 hs (by omega)) (by omega) hb (by show c.toNat < v.t.length; omega) (free_ent hok hm1)
    rw [show ((c.toNat : Nat) : Int) = c by omega] at this
    exact this
  have HPF : Hid ((v.fillD q s).2 = 0 ∨ (v.fillD q s).2 = 7) := DV.puts_F _ _ _ _
  have HVV : Hid (∀ (W : World) (y : Hd), IsImg B W { x with h := y } { v with d := (v.fillD q s).1 } → Calls Tryz.prog 89 #[.pointer (some ⟨x.p, 0, none⟩)] W fun e w' => ∃ h' : Hd, e = .returned (.tuple #[]) ∧ h'.p = y.p ∧ IsImg B w' { x with h := h' } (v.fillV q s) ∧ KeptP B x.tb W w') := fun W y hi => flush_img W hi
  generalize (v.ent c).1 = y0 at HE h2
  generalize (v.ent c).2 = y1 at HE
  have g1 : ((s.size : Int) != 64) = false := by simp; omega
  have g2 : (y0 == 2) = false := by simpa using h2
  have HE3 := toHid e3
  have HE4 := toHid e4
  clear h hok hc e1 e2 e3 e4 h2 hs hfl hm1 hbo hqp hbe t0 t1
  generalize v.fill c s = V at HE3 ⊢
  generalize v.fillF c s = f at HE4 ⊢
  generalize (v.fillD q s).2 = f1 at HE3 HE4 HWP HPF
  generalize (v.fillV q s).d.putF = f2 at HE4 HST
  go_enter Tryz.func31, Tryz.ntmps31
  go_wp2_with fail
  refine HE.out.mono ?_
  rintro e w1 ⟨rfl, hb1⟩
  have HB1 := toHid (hb1.alloc hb1.size (.cells #[.int .i64 y0, .int .i64 y1] 142))
  have HF2 := toHid (HF.out _ (HI.out.below HB1.out))
  clear hb1 HE HF
  go_wp2_with fail
  refine HF2.out.mono ?_
  rintro e w2 ⟨g, n, cap, rfl, hg, hgk, hgc, hb2⟩
  have HB2 := toHid (HB1.out.trans (hb2.mono HB1.out.size))
  have hB2 : B.top ≤ w2.heap.size := Nat.le_trans hB HB2.out.size
  have HI2 := toHid (HI.out.below HB2.out)
  have HW2 := toHid (HWP.out w2 HI2.out hB2)
  have htb : g ≠ x.tb := fun e => by
    have h1 := HI.out.lts.2.2
    have h2 := HB1.out.size
    omega
  have HGK := toHid hgk
  have hn1 : (((n + 1 : Nat) : Int) == 0) = false := by simp; omega
  have n0 : (0 : Int) < ((n + 1 : Nat) : Int) := by omega
  clear hg hgk hb2 HB1 HF2 HI HWP
  go_wp2_with fail
  refine HW2.out.mono ?_
  rintro e w3 ⟨y, rfl, hyp, hi3, hk3⟩
  have HYP := toHid hyp
  obtain ⟨cur, hcur⟩ := HGK.out
  have hc0 : cur[0]? = some (.int .i64 (q : Int)) := by rw [cell_of_row _ _ _ _ _ _ hcur] at hgc; exact hgc
  have hcur3 := hk3.box hcur (by decide) htb
  have HK3 : Hid (KeptP B x.tb w w3) := KeptP.trans (KeptP.of_below HB2.out) hk3
  have hB3 : B.top ≤ w3.heap.size := Nat.le_trans hB2 hk3.size
  clear hyp hk3 HW2 HI2 HB2 HGK hcur hgc
  by_cases hf1 : f1 = 0
  · have HV := toHid (HE3.out.trans (if_pos hf1))
    have HF4 := toHid (HE4.out.trans (if_pos hf1))
    rw [hf1, erV_0]
    have HFL := toHid (HVV.out w3 y hi3)
    clear hi3 HE3 HE4 HPF hf1 HVV
    go_wp2_with fail
    refine HFL.out.mono ?_
    rintro e w4 ⟨y4, rfl, hyp4, hi4, hk4⟩
    have HYP4 : Hid (y4.p = x.h.p) := hyp4.trans HYP.out
    have hcur4 := hk4.box hcur3 (by decide) htb
    have hgc4 : w4.cell? ⟨g, 0, none⟩ = some (.int .i64 (q : Int)) := by rw [cell_of_row _ _ _ _ _ _ hcur4]; exact hc0
    have HK4 : Hid (KeptP B x.tb w w4) := KeptP.trans HK3.out hk4
    have HS4 := toHid (HST.out w4 y4 hi4 (Nat.le_trans hB3 hk4.size))
    clear hyp4 hk4 hi4 hcur4 hcur3 HST HFL HK3 hc0
    go_wp2_with fail
    refine HS4.out.mono ?_
    rintro e w5 ⟨y5, rfl, hyp5, hi5, hk5⟩
    have HD : Hid (Did B w x V f (.returned (erV f2)) w5) := by
      refine ⟨y5, by rw [HF4.out], hyp5.trans HYP4.out, ?_, KeptP.trans HK4.out hk5⟩
      rw [HV.out]; exact hi5
    clear hyp5 hi5 hk5
    go_wp2
    go_ret
    exact HD.out
  · have HV := toHid (HE3.out.trans (if_neg hf1))
    have HF4 := toHid (HE4.out.trans (if_neg hf1))
    have HD : Hid (Did B w x V f (.returned (erV f1)) w3) := by
      refine ⟨y, by rw [HF4.out], HYP.out, ?_, HK3.out⟩
      rw [HV.out]; exact hi3
    rw [erV_some hf1] at HD ⊢
    clear hi3 HE3 HE4 HPF HVV HF4 HV hcur3 hc0 HST
    go_wp2
    go_ret
    exact HD.out

theorem fill_img {B : Gd} {m : Nat} {x : Ih} {v : IV} (c : Int) (s : ByteArray) (w : World) (h : IsImg B w x v) (hok : v.ok m) (hm : m + 10 < 1000000000) (hB : B.top ≤ w.heap.size) :
    Calls Tryz.prog 31 #[.pointer (some ⟨x.p, 0, none⟩), .int .i64 c, .string s] w (Did B w x (v.fill c s) (v.fillF c s)) := by
  by_cases hn : v.there c = true ∧ s.size = 64 ∧ (v.ent c).1 ≠ 2 ∧ v.freeL ≠ []
  · obtain ⟨h1, h2, h3, h4⟩ := hn
    cases hf : v.freeL with
    | nil => exact absurd hf h4
    | cons q r => exact fill_some c s q r w h hok hm hB h1 h2 h3 hf
  · exact fill_none c s w h hok hn
end Go.Proofs.YtjegaljdindfaabGreatDoor
