/-
An entry is set: its row, with it, is written; if that fails, the old entry stays; a place that it had is held.
Write, Fill and Clear of an image.
-/
import Derived.Test.YtjegaljdindfaabGreatDoorQImgWrite
import Derived.BigRegion
import Derived.Test.YtjegaljdindfaabGreatDoorQImgFree
namespace Go.Proofs.YtjegaljdindfaabGreatDoor
open Go.RowKit Go.Maps
attribute [local go_sem ↓] Go.wp_at_zero Go.wp_at_succ

theorem rows_pred (c : Nat) : (rowsN (c + 1) : Int) - 1 = ((c / 8 : Nat) : Int) := by unfold rowsN; omega

theorem set_back (l : List (Int × Int)) (c : Nat) (e : Int × Int) (hc : c < l.length) : (l.set c e).set c ((l.getD c (0, 0)).1, (l.getD c (0, 0)).2) = l := by
  rw [List.set_set]
  have : l.getD c (0, 0) = l[c] := by rw [List.getD_eq_getElem?_getD, List.getElem?_eq_getElem hc]; rfl
  rw [this]
  exact List.set_getElem_self hc

set_option maxRecDepth 100000 in
set_option maxHeartbeats 1000000 in
theorem set_img {B : Gd} {m : Nat} {x : Ih} {v : IV} (c : Nat) (k p : Int) (w : World) (h : IsImg B w x v) (hok : v.ok m) (hm : m < 1000000000) (hB : B.top ≤ w.heap.size) (hc : c < v.t.length) (he : entB k p v.h.p = true) :
    Calls Tryz.prog 84 #[.pointer (some ⟨x.p, 0, none⟩), .int .i64 (c : Int), .agg #[.int .i64 k, .int .i64 p]] w fun e w' =>
      ∃ y : Hd, e = .returned (erV v.d.putF) ∧ y.p = x.h.p ∧ IsImg B w' { x with h := y } (v.set c (k, p)) ∧ KeptP B x.tb w w' := by
  have hbo := HV.of_ok hok.h
  have hlen := hok.len
  have hrl := rows_lt hc
  obtain ⟨hrF, hrS⟩ := row_good (ts := v.t.set c (k, p)) hok.h (by rw [List.length_set]; exact hok.len) (ents_set hok.ents c (k, p) he) (c / 8) (by rw [List.length_set]; exact hrl)
  have hbl := (begin_le hok.h hok.need).1
  rw [show v.h.c.toNat = v.t.length by omega] at hbl
  have HRW : Hid (∀ W : World, Calls Tryz.prog 73 #[.int .i64 ((c : Int) + 1)] W fun e w' => e = .returned (.int .i64 (rowsN (c + 1) : Int)) ∧ w' = W) := fun W => by
    have := rows_any (c + 1) W (by omega)
    rw [show (((c + 1 : Nat) : Int)) = (c : Int) + 1 by omega] at this; exact this
  have HWR : Hid (∀ (W : World), IsImg B W x { v with t := v.t.set c (k, p) } → B.top ≤ W.heap.size → Calls Tryz.prog 74 #[.pointer (some ⟨x.p, 0, none⟩), .int .i64 ((rowsN (c + 1) : Int) - 1)] W fun e w' =>
      ∃ y : Hd, e = .returned (erV v.d.putF) ∧ y.p = x.h.p ∧ IsImg B w' { x with h := y } { v with t := v.t.set c (k, p), d := v.setD c (k, p) } ∧ KeptP B x.tb W w') := fun W hi hb => by
    rw [rows_pred]
    exact writeRow_img (c / 8) W hi hok.d hm hb (by show (v.t.set c (k, p)).length ≤ 32; rw [List.length_set]; omega) (by show c / 8 + 1 < v.d.fl.length; omega) hrF hrS
  have hrn : rowsN (c + 1) ≤ 10 := by unfold rowsN; omega
  have hrn1 : 1 ≤ rowsN (c + 1) := by unfold rowsN; omega
  have hew : entB (v.t.getD c (0, 0)).1 (v.t.getD c (0, 0)).2 v.h.p = true := by rw [List.getD_eq_getElem?_getD, List.getElem?_eq_getElem hc]; exact hok.ents _ (List.getElem_mem hc)
  have HPF : Hid (v.d.putF = 0 ∨ v.d.putF = 7) := by
    rcases DV.putF_cases v.d with h7 | h7
    · exact .inl h7.1
    · exact .inr h7.1
  have HV0 : Hid (v.d.putF = 0 → v.set c (k, p) = ⟨v.setD c (k, p), v.h, v.t.set c (k, p), if (v.t.getD c (0, 0)).1 = 2 then v.held ++ [(v.t.getD c (0, 0)).2.toNat] else v.held⟩) := fun h0 => by unfold IV.set; rw [if_pos h0]
  have HV1 : Hid (v.d.putF ≠ 0 → v.set c (k, p) = { v with d := v.setD c (k, p) }) := fun h0 => by unfold IV.set; rw [if_neg h0]
  have HBK := toHid (set_back v.t c (k, p) hc)
  have hfew := hok.few
  have HI := toHid h
  have c4 := h.cells.2.2.2.2.1
  obtain ⟨t0, t1, ft⟩ := h.entAt hc
  obtain ⟨lp, lm, lt⟩ := h.lts
  generalize v.d.putF = pf at HWR HPF HV0 HV1 ⊢
  generalize v.set c (k, p) = V at HV0 HV1 ⊢
  have hpN : x.tb < w.heap.size + 1 := by omega
  have hc0 : (0 : Int) ≤ (c : Int) := by omega
  have hc1 : (c : Int) < (v.t.length : Int) := by omega
  have hvl : v.t.length ≤ 32 := by omega
  have hp40 := hbo.2.2.2.1
  clear h hok hbl hrF hrS hrl hlen hbo he ft
  generalize hy0 : (v.t.getD c (0, 0)).1 = y0 at t0 hew HV0 HBK
  generalize hy1 : (v.t.getD c (0, 0)).2 = y1 at t1 hew HV0 HBK
  clear hy0 hy1
  have HLE : Hid ((v.t.set c (k, p)).length = v.t.length) := List.length_set
  generalize hnn : v.t.length = n at c4 hc hc1 HLE hvl
  have HN : Hid (v.t.length = n) := hnn
  clear hnn
  generalize rowsN (c + 1) = rn at HRW HWR hrn hrn1
  go_enter Tryz.func84, Tryz.ntmps84
  go_wp2
  have HB0 : Hid (Below w.heap.size w ((w.alloc (.cells #[.int .i64 k, .int .i64 p] 142)).alloc (.cells #[.int .i64 y0, .int .i64 y1] 142))) := ((Below.refl _ _).alloc (Nat.le_refl _) _).alloc (by simp) _
  have hx5 : ((w.alloc (.cells #[.int .i64 k, .int .i64 p] 142)).alloc (.cells #[.int .i64 y0, .int .i64 y1] 142)).heap[w.heap.size]? = some (.cells #[.int .i64 k, .int .i64 p] 142 (0, 0)) := by rw [Below.heap_alloc _ _ _ (by simp), heap_alloc_new]
  have hx7 : ((w.alloc (.cells #[.int .i64 k, .int .i64 p] 142)).alloc (.cells #[.int .i64 y0, .int .i64 y1] 142)).heap[w.heap.size + 1]? = some (.cells #[.int .i64 y0, .int .i64 y1] 142 (0, 0)) := by
    have := heap_alloc_new (w.alloc (.cells #[.int .i64 k, .int .i64 p] 142)) (.cells #[.int .i64 y0, .int .i64 y1] 142)
    rw [show (w.alloc (.cells #[.int .i64 k, .int .i64 p] 142)).heap.size = w.heap.size + 1 by simp] at this; exact this
  clear c4 t0 t1
  generalize (w.alloc (.cells #[.int .i64 k, .int .i64 p] 142)).alloc (.cells #[.int .i64 y0, .int .i64 y1] 142) = W0 at HB0 hx5 hx7 ⊢
  have hi0 := HI.out.below HB0.out
  have c4 : W0.cell? ⟨x.p, 4, none⟩ = some (.slice (some ⟨x.tb, 0, none⟩) n x.tc) := by have := hi0.cells.2.2.2.2.1; rw [HN.out] at this; exact this
  obtain ⟨t0, t1, ft⟩ := hi0.entAt (c := c) (by rw [HN.out]; exact hc)
  have f0 := ft (c * 2)
  have f1 := ft (c * 2 + 1)
  have b0 : W0.cell? ⟨w.heap.size, 0, none⟩ = some (.int .i64 k) := by rw [cell_of_row _ _ _ _ _ _ hx5]; rfl
  have b1 : W0.cell? ⟨w.heap.size, 1, none⟩ = some (.int .i64 p) := by rw [cell_of_row _ _ _ _ _ _ hx5]; rfl
  obtain ⟨hi1, hk1⟩ := hi0.setE c k p
  have htb0 : w.heap.size + 1 ≠ x.tb := by omega
  have hx7b := KeptP.box hk1 hx7 (by decide) htb0
  have HI1 := toHid hi1.drew
  have HK1 : Hid (KeptP B x.tb w ((W0.setCell ⟨x.tb, c * 2, none⟩ (.int .i64 k)).setCell ⟨x.tb, c * 2 + 1, none⟩ (.int .i64 p)).drew) := KeptP.trans (KeptP.trans (KeptP.of_below HB0.out) hk1) (KeptP.of_below (Below.refl _ _).drew)
  have HX7 : Hid (((W0.setCell ⟨x.tb, c * 2, none⟩ (.int .i64 k)).setCell ⟨x.tb, c * 2 + 1, none⟩ (.int .i64 p)).drew.heap[w.heap.size + 1]? = some (.cells #[.int .i64 y0, .int .i64 y1] 142 (0, 0))) := hx7b
  clear hi0 hi1 hk1 hx5 hx7 hx7b ft HI
  go_region
  have hB1 : B.top ≤ ((W0.setCell ⟨x.tb, c * 2, none⟩ (.int .i64 k)).setCell ⟨x.tb, c * 2 + 1, none⟩ (.int .i64 p)).drew.heap.size := Nat.le_trans hB HK1.out.size
  clear c4 t0 t1 f0 f1 b0 b1 HB0
  generalize ((W0.setCell ⟨x.tb, c * 2, none⟩ (.int .i64 k)).setCell ⟨x.tb, c * 2 + 1, none⟩ (.int .i64 p)).drew = W1 at HI1 HK1 HX7 hB1 ⊢
  have HW2 := toHid (HWR.out W1 HI1.out hB1)
  clear HWR HI1
  go_wp2_with (go_at_call 73; refine (HRW.out _).mono ?_; rintro e w' ⟨rfl, hw⟩; have hw' := hw.symm; subst hw'; clear hw)
  refine HW2.out.mono ?_
  rintro e w3 ⟨y, rfl, hyp, hi3, hk3⟩
  have HYP := toHid hyp
  have hx3 := hk3.box HX7.out (by decide) htb0
  have z0 : w3.cell? ⟨w.heap.size + 1, 0, none⟩ = some (.int .i64 y0) := by rw [cell_of_row _ _ _ _ _ _ hx3]; rfl
  have z1 : w3.cell? ⟨w.heap.size + 1, 1, none⟩ = some (.int .i64 y1) := by rw [cell_of_row _ _ _ _ _ _ hx3]; rfl
  have HK3 := toHid (KeptP.trans HK1.out hk3)
  clear hyp hk3 HX7 HK1 HW2 hx3 HRW
  by_cases hpf : pf = 0
  · have HV := toHid (HV0.out hpf)
    have HE0 : Hid (erV pf = .nilIface) := by unfold Hid; rw [hpf, erV_0]
    rw [hpf, erV_0]
    clear HV0 HV1 HPF hpf HBK
    by_cases h2 : y0 = 2
    · have hwq : 0 ≤ y1 ∧ y1 < 1000 := by
        rcases entB_of hew with h4 | h4
        · omega
        · omega
      obtain ⟨q, rfl⟩ : ∃ q : Nat, y1 = (q : Int) := ⟨y1.toNat, by omega⟩
      obtain ⟨w4, hru, hm4, htu⟩ := hi3.drew.map.store law_int Tryz.underlying150 (by show v.held.length < maxLen; unfold maxLen; omega) (key_int q (by omega)) unitElem_mk
      have hm5 : w4.ownsMap Tryz.prog 3 (unitElem (H := Unit)) x.m (v.held ++ [q]).length (heldD (v.held ++ [q])) := by
        rw [heldD_snoc, List.length_append]; exact hm4
      obtain ⟨hi4, hk4⟩ := hi3.drew.mapd (v.held ++ [q]) htu hm5
      have c5 := hi3.cells.2.2.2.2.2.1
      have HV2 : Hid (V = ⟨v.setD c (k, p), v.h, v.t.set c (k, p), v.held ++ [q]⟩) := by
        unfold Hid; rw [HV.out, if_pos h2]; simp
      have HI4 := toHid hi4
      have HK4 := toHid (KeptP.trans (KeptP.trans HK3.out (KeptP.of_below (Below.refl _ w3).drew)) hk4)
      have g2 : (y0 == 2) = true := by simpa using h2
      clear hi4 hk4 hm4 hm5 htu hi3 HV h2 hew HK3 hwq
      go_wp2
      go_region
      go_wp2
      go_ret
      exact ⟨y, ret_v HE0.out.symm, HYP.out, by rw [HV2.out]; exact HI4.out, HK4.out⟩
    · have HV2 : Hid (V = ⟨v.setD c (k, p), v.h, v.t.set c (k, p), v.held⟩) := by
        unfold Hid; rw [HV.out, if_neg h2]
      have HI3 := toHid hi3
      have g2 : (y0 == 2) = false := by simpa using h2
      clear hi3 HV h2 hew
      go_wp2
      go_ret
      exact ⟨y, ret_v HE0.out.symm, HYP.out, by rw [HV2.out]; exact HI3.out, HK3.out⟩
  · have HV := toHid (HV1.out hpf)
    have e7 : erV pf = .iface 87 (.int .i64 7) := by
      rcases HPF.out with h7 | h7
      · exact absurd h7 hpf
      · rw [h7]; simp [erV]
    have HE7 := toHid e7
    rw [e7]
    have c4 : w3.cell? ⟨x.p, 4, none⟩ = some (.slice (some ⟨x.tb, 0, none⟩) n x.tc) := by have := hi3.cells.2.2.2.2.1; rw [HLE.out] at this; exact this
    obtain ⟨t0, t1, ft⟩ := hi3.entAt (c := c) (by show c < (v.t.set c (k, p)).length; rw [HLE.out]; exact hc)
    have f0 := ft (c * 2)
    have f1 := ft (c * 2 + 1)
    obtain ⟨hi4, hk4⟩ := hi3.setE c y0 y1
    have HI4 : Hid (IsImg B ((w3.setCell ⟨x.tb, c * 2, none⟩ (.int .i64 y0)).setCell ⟨x.tb, c * 2 + 1, none⟩ (.int .i64 y1)).drew { x with h := y } { v with d := v.setD c (k, p) }) := by
      have := hi4.drew
      unfold Hid
      rw [show (({ v with t := v.t.set c (k, p), d := v.setD c (k, p) } : IV).t.set c (y0, y1)) = v.t from HBK.out] at this
      exact this
    have HK4 := toHid (KeptP.trans (KeptP.trans HK3.out hk4) (KeptP.of_below (Below.refl _ _).drew))
    clear hi4 hk4 hi3 HV0 HV1 HPF hpf HBK e7 ft hew HK3
    go_wp2
    go_region
    go_wp2
    go_ret
    exact ⟨y, ret_v HE7.out.symm, HYP.out, by rw [HV.out]; exact HI4.out, HK4.out⟩
end Go.Proofs.YtjegaljdindfaabGreatDoor

namespace Go.Proofs.YtjegaljdindfaabGreatDoor
open Go.RowKit Go.Maps
attribute [local go_sem ↓] Go.wp_at_zero Go.wp_at_succ

/- What an act leaves: an answer, the image as it is from then on, all else as it was. -/
def Did (B : Gd) (w : World) (x : Ih) (V : IV) (f : Int) (e : Ending) (w' : World) : Prop :=
  ∃ y : Hd, e = .returned (erV f) ∧ y.p = x.h.p ∧ IsImg B w' { x with h := y } V ∧ KeptP B x.tb w w'

theorem Did.from {B : Gd} {w w1 : World} {x : Ih} {V : IV} {f : Int} {e : Ending} {w' : World} (h : Did B w1 x V f e w') (hb : Below w.heap.size w w1) : Did B w x V f e w' := by
  obtain ⟨y, h1, h2, h3, h4⟩ := h
  exact ⟨y, h1, h2, h3, KeptP.trans (KeptP.of_below hb) h4⟩

theorem did_same {B : Gd} {w w' : World} {x : Ih} {v : IV} {f : Int} (h : IsImg B w x v) (hb : Below w.heap.size w w') : Did B w x v f (.returned (erV f)) w' := ⟨x.h, rfl, rfl, h.below hb, KeptP.of_below hb⟩

theorem erV_some {f : Int} (h : f ≠ 0) : erV f = .iface 87 (.int .i64 f) := by unfold erV; rw [if_neg h]

set_option maxRecDepth 100000 in
set_option maxHeartbeats 1000000 in
theorem write_bad {B : Gd} {x : Ih} {v : IV} (c fr : Int) (s : ByteArray) (w : World) (h : IsImg B w x v) (hs : s.size ≤ 1000) (hf : -9223372036854775808 ≤ fr ∧ fr ≤ 9223372036854775807) (hw : wrOk v c fr s = false) :
    Calls Tryz.prog 105 #[.pointer (some ⟨x.p, 0, none⟩), .int .i64 c, .int .i64 fr, .string s] w fun e w' => e = .returned (.iface 87 (.int .i64 1)) ∧ Below w.heap.size w w' := by
  have HE := toHid (entry_img c w h)
  cases hc : v.there c with
  | false =>
    have e1 : v.entF c = 1 := by unfold IV.entF; rw [hc]; rfl
    rw [e1, erV_1] at HE
    clear h hc e1 hw
    generalize (v.entE c).1 = y0 at HE
    generalize (v.entE c).2 = y1 at HE
    go_enter Tryz.func105, Tryz.ntmps105
    go_wp2_with fail
    refine HE.out.mono ?_
    rintro e w1 ⟨rfl, hb1⟩
    go_wp2
    go_ret
    exact ⟨rfl, hb1.alloc hb1.size _⟩
  | true =>
    have e1 : v.entF c = 0 := by unfold IV.entF; rw [hc]; rfl
    rw [e1, erV_0] at HE
    have hd : ¬ (0 ≤ fr ∧ fr ≤ 4 ∧ s.size % 16 = 0 ∧ (s.size : Int) ≤ 16 * (4 - fr)) := by
      unfold wrOk at hw
      rw [hc, Bool.true_and] at hw
      exact of_decide_eq_false hw
    clear h hc e1 hw
    generalize (v.entE c).1 = y0 at HE
    generalize (v.entE c).2 = y1 at HE
    by_cases h1 : fr < 0
    · have g1 : decide (fr < 0) = true := decide_eq_true h1
      go_enter Tryz.func105, Tryz.ntmps105
      go_wp2_with fail
      refine HE.out.mono ?_
      rintro e w1 ⟨rfl, hb1⟩
      go_wp2
      go_ret
      exact ⟨rfl, hb1.alloc hb1.size _⟩
    · have g1 : decide (fr < 0) = false := decide_eq_false h1
      by_cases h2 : 4 < fr
      · have g2 : decide (4 < fr) = true := decide_eq_true h2
        go_enter Tryz.func105, Tryz.ntmps105
        go_wp2_with fail
        refine HE.out.mono ?_
        rintro e w1 ⟨rfl, hb1⟩
        go_wp2
        go_ret
        exact ⟨rfl, hb1.alloc hb1.size _⟩
      · have g2 : decide (4 < fr) = false := decide_eq_false h2
        by_cases h3 : s.size % 16 = 0
        · have g3 : ((s.size : Int) % 16 != 0) = false := by simp; omega
          have g4 : decide (4 - fr < (s.size : Int) / 16) = true := by simp; omega
          go_enter Tryz.func105, Tryz.ntmps105
          go_wp2_with fail
          refine HE.out.mono ?_
          rintro e w1 ⟨rfl, hb1⟩
          go_wp2
          go_ret
          exact ⟨rfl, hb1.alloc hb1.size _⟩
        · have g3 : ((s.size : Int) % 16 != 0) = true := by simp; omega
          go_enter Tryz.func105, Tryz.ntmps105
          go_wp2_with fail
          refine HE.out.mono ?_
          rintro e w1 ⟨rfl, hb1⟩
          go_wp2
          go_ret
          exact ⟨rfl, hb1.alloc hb1.size _⟩

set_option maxRecDepth 100000 in
set_option maxHeartbeats 1000000 in
theorem write_img {B : Gd} {m : Nat} {x : Ih} {v : IV} (c fr : Int) (s : ByteArray) (w : World) (h : IsImg B w x v) (hok : v.ok m) (hm : m + 10 < 1000000000) (hB : B.top ≤ w.heap.size) (hs : s.size ≤ 1000) (hf : -9223372036854775808 ≤ fr ∧ fr ≤ 9223372036854775807) :
    Calls Tryz.prog 105 #[.pointer (some ⟨x.p, 0, none⟩), .int .i64 c, .int .i64 fr, .string s] w (Did B w x (v.write c fr s) (v.writeF c fr s)) := by
  cases hw : wrOk v c fr s with
  | false =>
    refine (write_bad c fr s w h hs hf hw).mono ?_
    rintro e w' ⟨rfl, hb⟩
    have e1 : v.write c fr s = v := by unfold IV.write; rw [hw, if_neg (fun h => by cases h.1)]
    have e2 : v.writeF c fr s = 1 := by unfold IV.writeF; rw [hw]; rfl
    rw [e1, e2, ← erV_1]
    exact did_same h hb
  | true =>
    obtain ⟨h1, h2, h3, h4, h5⟩ := wrOk_of hw
    have HE := toHid (entry_img c w h)
    have e1 : v.entF c = 0 := by unfold IV.entF; rw [h1]; rfl
    have e2 : v.entE c = v.ent c := by unfold IV.entE; rw [h1]; rfl
    rw [e1, erV_0, e2] at HE
    have g1 : decide (fr < 0) = false := decide_eq_false (by omega)
    have g2 : decide (4 < fr) = false := decide_eq_false (by omega)
    have g3 : ((s.size : Int) % 16 != 0) = false := by simp; omega
    have g4 : decide (4 - fr < (s.size : Int) / 16) = false := by simp; omega
    have HI := toHid h
    by_cases hk : (v.ent c).1 = 2
    · obtain ⟨p0, p1, p2⟩ := hok.place h1 hk
      have hbo := HV.of_ok hok.h
      have HV : Hid (v.write c fr s = { v with d := (v.writeD c fr s).1 }) := by unfold Hid IV.write; rw [if_pos ⟨hw, hk⟩]
      have HF : Hid (v.writeF c fr s = (v.writeD c fr s).2) := by unfold Hid IV.writeF; rw [hw, if_pos rfl, if_pos hk]
      have HWP : Hid (∀ W : World, IsImg B W x v → B.top ≤ W.heap.size → Calls Tryz.prog 88 #[.pointer (some ⟨x.p, 0, none⟩), .int .i64 (v.ent c).2, .int .i64 fr, .string s] W (Did B W x (v.write c fr s) (v.writeF c fr s))) := fun W hi hb => by
        have := writePlace_img (v.ent c).2.toNat fr.toNat (s.size / 16) s W hi hok.d (by omega) hb hok.h (by omega) (by omega) (by omega) (by omega)
        rw [show (((v.ent c).2.toNat : Nat) : Int) = (v.ent c).2 by omega, show ((fr.toNat : Nat) : Int) = fr by omega] at this
        rw [HV.out, HF.out]
        exact this
      generalize v.write c fr s = V at HWP ⊢
      generalize v.writeF c fr s = f at HWP ⊢
      rw [hk] at HE
      clear h hok h1 h5 h4 hw e1 e2 p0 p1 p2 hbo hk HV HF
      generalize (v.ent c).2 = y1 at HE HWP
      go_enter Tryz.func105, Tryz.ntmps105
      go_wp2_with fail
      refine HE.out.mono ?_
      rintro e w1 ⟨rfl, hb1⟩
      have HB1 := toHid (hb1.alloc hb1.size (.cells #[.int .i64 2, .int .i64 y1] 142))
      have HW2 := toHid (HWP.out _ (HI.out.below HB1.out) (Nat.le_trans hB HB1.out.size))
      clear hb1 HE HI HWP
      go_wp2_with fail
      refine HW2.out.mono ?_
      rintro e w2 ⟨y, rfl, h2y, h3y, h4y⟩
      have HD : Hid (Did B w x V f (.returned (erV f)) w2) := Did.from ⟨y, rfl, h2y, h3y, h4y⟩ HB1.out
      clear h2y h3y h4y
      go_wp2
      go_ret
      exact HD.out
    · have e3 : v.write c fr s = v := by unfold IV.write; rw [if_neg (fun h => hk h.2)]
      have e4 : v.writeF c fr s = 4 := by unfold IV.writeF; rw [hw, if_pos rfl, if_neg hk]
      rw [e3, e4]
      generalize (v.ent c).1 = y0 at HE hk
      generalize (v.ent c).2 = y1 at HE
      have g5 : (y0 != 2) = true := by simpa using hk
      clear h hok h1 h5 h4 hw e1 e2 e3 e4 hk
      go_enter Tryz.func105, Tryz.ntmps105
      go_wp2_with fail
      refine HE.out.mono ?_
      rintro e w1 ⟨rfl, hb1⟩
      have HD : Hid (Did B w x v 4 (.returned (erV 4)) (w1.alloc (.cells #[.int .i64 y0, .int .i64 y1] 142))) := did_same HI.out (hb1.alloc hb1.size _)
      rw [erV_some (by decide)] at HD
      clear hb1
      go_wp2
      go_ret
      exact HD.out
end Go.Proofs.YtjegaljdindfaabGreatDoor
