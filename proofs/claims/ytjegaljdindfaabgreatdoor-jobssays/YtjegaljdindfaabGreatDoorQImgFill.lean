/-
An entry is set: its row, with it, is written; if that fails, the old entry stays; a place that it had is held.
Write, Fill and Clear of an image.
Fill and Clear of an image.
-/
import Derived.Test.YtjegaljdindfaabGreatDoorQImgWrite
import Derived.BigRegion
import Derived.Test.YtjegaljdindfaabGreatDoorQImgFree
namespace Go.Proofs.YtjegaljdindfaabGreatDoor
open Go.RowKit Go.Maps
attribute [local go_sem ↓] Go.wp_at_zero Go.wp_at_succ

theorem rows_pred (c : Nat) : (rowsN (c + 1) : Int) - 1 = ((c / 8 : Nat) : Int) := by unfold rowsN; omega

theorem set_back (l : List (Int × Int)) (c : Nat) (e : Int × Int) (hc : c < l.length) : (l.set c e).set c ((l.getD c (0, 0)).1, (l.getD c (0, 0)).2) = l := by
  rw [List.set_set]
  have : l.getD c (0, 0) = l[c] := by rw [List.getD_eq_getElem?_getD, List.getElem?_eq_getElem hc]; rfl
  rw [this]
  exact List.set_getElem_self hc

set_option maxRecDepth 100000 in
set_option maxHeartbeats 1000000 in
theorem set_img {B : Gd} {m : Nat} {x : Ih} {v : IV} (c : Nat) (k p : Int) (w : World) (h : IsImg B w x v) (hok : v.ok m) (hm : m < 1000000000) (hB : B.top ≤ w.heap.size) (hc : c < v.t.length) (he : entB k p v.h.p = true) :
    Calls Tryz.prog 84 #[.pointer (some ⟨x.p, 0, none⟩), .int .i64 (c : Int), .agg #[.int .i64 k, .int .i64 p]] w fun e w' =>
      ∃ y : Hd, e = .returned (erV v.d.putF) ∧ y.p = x.h.p ∧ IsImg B w' { x with h := y } (v.set c (k, p)) ∧ KeptP B x.tb w w' := by
  have hbo := HV.of_ok hok.h
  have hlen := hok.len
  have hrl := rows_lt hc
  obtain ⟨hrF, hrS⟩ := row_good (ts := v.t.set c (k, p)) hok.h (by rw [List.length_set]; exact hok.len) (ents_set hok.ents c (k, p) he) (c / 8) (by rw [List.length_set]; exact hrl)
  have hbl := (begin_le hok.h hok.need).1
  rw [show v.h.c.toNat = v.t.length by omega] at hbl
  have HRW : Hid (∀ W : World, Calls Tryz.prog 73 #[.int .i64 ((c : Int) + 1)] W fun e w' => e = .returned (.int .i64 (rowsN (c + 1) : Int)) ∧ w' = W) := fun W => by
    have := rows_any (c + 1) W (by omega)
    rw [show (((c + 1 : Nat) : Int)) = (c : Int) + 1 by omega] at this; exact this
  have HWR : Hid (∀ (W : World), IsImg B W x { v with t := v.t.set c (k, p) } → B.top ≤ W.heap.size → Calls Tryz.prog 74 #[.pointer (some ⟨x.p, 0, none⟩), .int .i64 ((rowsN (c + 1) : Int) - 1)] W fun e w' =>
      ∃ y : Hd, e = .returned (erV v.d.putF) ∧ y.p = x.h.p ∧ IsImg B w' { x with h := y } { v with t := v.t.set c (k, p), d := v.setD c (k, p) } ∧ KeptP B x.tb W w') := fun W hi hb => by
    rw [rows_pred]
    exact writeRow_img (c / 8) W hi hok.d hm hb (by show (v.t.set c (k, p)).length ≤ 32; rw [List.length_set]; omega) (by show c / 8 + 1 < v.d.fl.length; omega) hrF hrS
  have hrn : rowsN (c + 1) ≤ 10 := by unfold rowsN; omega
  have hrn1 : 1 ≤ rowsN (c + 1) := by unfold rowsN; omega
  have hew : entB (v.t.getD c (0, 0)).1 (v.t.getD c (0, 0)).2 v.h.p = true := by rw [List.getD_eq_getElem?_getD, List.getElem?_eq_getElem hc]; exact hok.ents _ (List.getElem_mem hc)
  have HPF : Hid (v.d.putF = 0 ∨ v.d.putF = 7) := by
    rcases DV.putF_cases v.d with h7 | h7
    · exact .inl h7.1
    · exact .inr h7.1
  have HV0 : Hid (v.d.putF = 0 → v.set c (k, p) = ⟨v.setD c (k, p), v.h, v.t.set c (k, p), if (v.t.getD c (0, 0)).1 = 2 then v.held ++ [(v.t.getD c (0, 0)).2.toNat] else v.held⟩) := fun h0 => by unfold IV.set; rw [if_pos h0]
  have HV1 : Hid (v.d.putF ≠ 0 → v.set c (k, p) = { v with d := v.setD c (k, p) }) := fun h0 => by unfold IV.set; rw [if_neg h0]
  have HBK := toHid (set_back v.t c (k, p) hc)
  have hfew := hok.few
  have HI := toHid h
  have c4 := h.cells.2.2.2.2.1
  obtain ⟨t0, t1, ft⟩ := h.entAt hc
  obtain ⟨lp, lm, lt⟩ := h.lts
  generalize v.d.putF = pf at HWR HPF HV0 HV1 ⊢
  generalize v.set c (k, p) = V at HV0 HV1 ⊢
  have hpN : x.tb < w.heap.size + 1 := by omega
  have hc0 : (0 : Int) ≤ (c : Int) := by omega
  have hc1 : (c : Int) < (v.t.length : Int) := by omega
  have hvl : v.t.length ≤ 32 := by omega
  have hp40 := hbo.2.2.2.1
  clear h hok hbl hrF hrS hrl hlen hbo he ft
  generalize hy0 : (v.t.getD c (0, 0)).1 = y0 at t0 hew HV0 HBK
  generalize hy1 : (v.t.getD c (0, 0)).2 = y1 at t1 hew HV0 HBK
  clear hy0 hy1
  have HLE : Hid ((v.t.set c (k, p)).length = v.t.length) := List.length_set
  generalize hnn : v.t.length = n at c4 hc hc1 HLE hvl
  have HN : Hid (v.t.length = n) := hnn
  clear hnn
  generalize rowsN (c + 1) = rn at HRW HWR hrn hrn1
  go_enter Tryz.func84, Tryz.ntmps84
  go_wp2
  have HB0 : Hid (Below w.heap.size w ((w.alloc (.cells #[.int .i64 k, .int .i64 p] 142)).alloc (.cells #[.int .i64 y0, .int .i64 y1] 142))) := ((Below.refl _ _).alloc (Nat.le_refl _) _).alloc (by simp) _
  have hx5 : ((w.alloc (.cells #[.int .i64 k, .int .i64 p] 142)).alloc (.cells #[.int .i64 y0, .int .i64 y1] 142)).heap[w.heap.size]? = some (.cells #[.int .i64 k, .int .i64 p] 142 (0, 0)) := by rw [Below.heap_alloc _ _ _ (by simp), heap_alloc_new]
  have hx7 : ((w.alloc (.cells #[.int .i64 k, .int .i64 p] 142)).alloc (.cells #[.int .i64 y0, .int .i64 y1] 142)).heap[w.heap.size + 1]? = some (.cells #[.int .i64 y0, .int .i64 y1] 142 (0, 0)) := by
    have := heap_alloc_new (w.alloc (.cells #[.int .i64 k, .int .i64 p] 142)) (.cells #[.int .i64 y0, .int .i64 y1] 142)
    rw [show (w.alloc (.cells #[.int .i64 k, .int .i64 p] 142)).heap.size = w.heap.size + 1 by simp] at this; exact this
  clear c4 t0 t1
  generalize (w.alloc (.cells #[.int .i64 k, .int .i64 p] 142)).alloc (.cells #[.int .i64 y0, .int .i64 y1] 142) = W0 at HB0 hx5 hx7 ⊢
  have hi0 := HI.out.below HB0.out
  have c4 : W0.cell? ⟨x.p, 4, none⟩ = some (.slice (some ⟨x.tb, 0, none⟩) n x.tc) := by have := hi0.cells.2.2.2.2.1; rw [HN.out] at this; exact this
  obtain ⟨t0, t1, ft⟩ := hi0.entAt (c := c) (by rw [HN.out]; exact hc)
  have f0 := ft (c * 2)
  have f1 := ft (c * 2 + 1)
  have b0 : W0.cell? ⟨w.heap.size, 0, none⟩ = some (.int .i64 k) := by rw [cell_of_row _ _ _ _ _ _ hx5]; rfl
  have b1 : W0.cell? ⟨w.heap.size, 1, none⟩ = some (.int .i64 p) := by rw [cell_of_row _ _ _ _ _ _ hx5]; rfl
  obtain ⟨hi1, hk1⟩ := hi0.setE c k p
  have htb0 : w.heap.size + 1 ≠ x.tb := by omega
  have hx7b := KeptP.box hk1 hx7 (by decide) htb0
  have HI1 := toHid hi1.drew
  have HK1 : Hid (KeptP B x.tb w ((W0.setCell ⟨x.tb, c * 2, none⟩ (.int .i64 k)).setCell ⟨x.tb, c * 2 + 1, none⟩ (.int .i64 p)).drew) := KeptP.trans (KeptP.trans (KeptP.of_below HB0.out) hk1) (KeptP.of_below (Below.refl _ _).drew)
  have HX7 : Hid (((W0.setCell ⟨x.tb, c * 2, none⟩ (.int .i64 k)).setCell ⟨x.tb, c * 2 + 1, none⟩ (.int .i64 p)).drew.heap[w.heap.size + 1]? = some (.cells #[.int .i64 y0, .int .i64 y1] 142 (0, 0))) := hx7b
  clear hi0 hi1 hk1 hx5 hx7 hx7b ft HI
  go_region
  have hB1 : B.top ≤ ((W0.setCell ⟨x.tb, c * 2, none⟩ (.int .i64 k)).setCell ⟨x.tb, c * 2 + 1, none⟩ (.int .i64 p)).drew.heap.size := Nat.le_trans hB HK1.out.size
  clear c4 t0 t1 f0 f1 b0 b1 HB0
  generalize ((W0.setCell ⟨x.tb, c * 2, none⟩ (.int .i64 k)).setCell ⟨x.tb, c * 2 + 1, none⟩ (.int .i64 p)).drew = W1 at HI1 HK1 HX7 hB1 ⊢
  have HW2 := toHid (HWR.out W1 HI1.out hB1)
  clear HWR HI1
  go_wp2_with (go_at_call 73; refine (HRW.out _).mono ?_; rintro e w' ⟨rfl, hw⟩; have hw' := hw.symm; subst hw'; clear hw)
  refine HW2.out.mono ?_
  rintro e w3 ⟨y, rfl, hyp, hi3, hk3⟩
  have HYP := toHid hyp
  have hx3 := hk3.box HX7.out (by decide) htb0
  have z0 : w3.cell? ⟨w.heap.size + 1, 0, none⟩ = some (.int .i64 y0) := by rw [cell_of_row _ _ _ _ _ _ hx3]; rfl
  have z1 : w3.cell? ⟨w.heap.size + 1, 1, none⟩ = some (.int .i64 y1) := by rw [cell_of_row _ _ _ _ _ _ hx3]; rfl
  have HK3 := toHid (KeptP.trans HK1.out hk3)
  clear hyp hk3 HX7 HK1 HW2 hx3 HRW
  by_cases hpf : pf = 0
  · have HV := toHid (HV0.out hpf)
    have HE0 : Hid (erV pf = .nilIface) := by unfold Hid; rw [hpf, erV_0]
    rw [hpf, erV_0]
    clear HV0 HV1 HPF hpf HBK
    by_cases h2 : y0 = 2
    · have hwq : 0 ≤ y1 ∧ y1 < 1000 := by
        rcases entB_of hew with h4 | h4
        · omega
        · omega
      obtain ⟨q, rfl⟩ : ∃ q : Nat, y1 = (q : Int) := ⟨y1.toNat, by omega⟩
      obtain ⟨w4, hru, hm4, htu⟩ := hi3.drew.map.store law_int Tryz.underlying150 (by show v.held.length < maxLen; unfold maxLen; omega) (key_int q (by omega)) unitElem_mk
      have hm5 : w4.ownsMap Tryz.prog 3 (unitElem (H := Unit)) x.m (v.held ++ [q]).length (heldD (v.held ++ [q])) := by
        rw [heldD_snoc, List.length_append]; exact hm4
      obtain ⟨hi4, hk4⟩ := hi3.drew.mapd (v.held ++ [q]) htu hm5
      have c5 := hi3.cells.2.2.2.2.2.1
      have HV2 : Hid (V = ⟨v.setD c (k, p), v.h, v.t.set c (k, p), v.held ++ [q]⟩) := by
        unfold Hid; rw [HV.out, if_pos h2]; simp
      have HI4 := toHid hi4
      have HK4 := toHid (KeptP.trans (KeptP.trans HK3.out (KeptP.of_below (Below.refl _ w3).drew)) hk4)
      have g2 : (y0 == 2) = true := by simpa using h2
      clear hi4 hk4 hm4 hm5 htu hi3 HV h2 hew HK3 hwq
      go_wp2
      go_region
      go_wp2
      go_ret
      exact ⟨y, ret_v HE0.out.symm, HYP.out, by rw [HV2.out]; exact HI4.out, HK4.out⟩
    · have HV2 : Hid (V = ⟨v.setD c (k, p), v.h, v.t.set c (k, p), v.held⟩) := by
        unfold Hid; rw [HV.out, if_neg h2]
      have HI3 := toHid hi3
      have g2 : (y0 == 2) = false := by simpa using h2
      clear hi3 HV h2 hew
      go_wp2
      go_ret
      exact ⟨y, ret_v HE0.out.symm, HYP.out, by rw [HV2.out]; exact HI3.out, HK3.out⟩
  · have HV := toHid (HV1.out hpf)
    have e7 : erV pf = .iface 87 (.int .i64 7) := by
      rcases HPF.out with h7 | h7
      · exact absurd h7 hpf
      · rw [h7]; simp [erV]
    have HE7 := toHid e7
    rw [e7]
    have c4 : w3.cell? ⟨x.p, 4, none⟩ = some (.slice (some ⟨x.tb, 0, none⟩) n x.tc) := by have := hi3.cells.2.2.2.2.1; rw [HLE.out] at this; exact this
    obtain ⟨t0, t1, ft⟩ := hi3.entAt (c := c) (by show c < (v.t.set c (k, p)).length; rw [HLE.out]; exact hc)
    have f0 := ft (c * 2)
    have f1 := ft (c * 2 + 1)
    obtain ⟨hi4, hk4⟩ := hi3.setE c y0 y1
    have HI4 : Hid (IsImg B ((w3.setCell ⟨x.tb, c * 2, none⟩ (.int .i64 y0)).setCell ⟨x.tb, c * 2 + 1, none⟩ (.int .i64 y1)).drew { x with h := y } { v with d := v.setD c (k, p) }) := by
      have := hi4.drew
      unfold Hid
      rw [show (({ v with t := v.t.set c (k, p), d := v.setD c (k, p) } : IV).t.set c (y0, y1)) = v.t from HBK.out] at this
      exact this
    have HK4 := toHid (KeptP.trans (KeptP.trans HK3.out hk4) (KeptP.of_below (Below.refl _ _).drew))
    clear hi4 hk4 hi3 HV0 HV1 HPF hpf HBK e7 ft hew HK3
    go_wp2
    go_region
    go_wp2
    go_ret
    exact ⟨y, ret_v HE7.out.symm, HYP.out, by rw [HV.out]; exact HI4.out, HK4.out⟩
end Go.Proofs.YtjegaljdindfaabGreatDoor

namespace Go.Proofs.YtjegaljdindfaabGreatDoor
open Go.RowKit Go.Maps
attribute [local go_sem ↓] Go.wp_at_zero Go.wp_at_succ

/- What an act leaves: an answer, the image as it is from then on, all else as it was. -/
def Did (B : Gd) (w : World) (x : Ih) (V : IV) (f : Int) (e : Ending) (w' : World) : Prop :=
  ∃ y : Hd, e = .returned (erV f) ∧ y.p = x.h.p ∧ IsImg B w' { x with h := y } V ∧ KeptP B x.tb w w'

theorem Did.from {B : Gd} {w w1 : World} {x : Ih} {V : IV} {f : Int} {e : Ending} {w' : World} (h : Did B w1 x V f e w') (hb : Below w.heap.size w w1) : Did B w x V f e w' := by
  obtain ⟨y, h1, h2, h3, h4⟩ := h
  exact ⟨y, h1, h2, h3, KeptP.trans (KeptP.of_below hb) h4⟩

theorem did_same {B : Gd} {w w' : World} {x : Ih} {v : IV} {f : Int} (h : IsImg B w x v) (hb : Below w.heap.size w w') : Did B w x v f (.returned (erV f)) w' := ⟨x.h, rfl, rfl, h.below hb, KeptP.of_below hb⟩

theorem erV_some {f : Int} (h : f ≠ 0) : erV f = .iface 87 (.int .i64 f) := by unfold erV; rw [if_neg h]

set_option maxRecDepth 100000 in
set_option maxHeartbeats 1000000 in
theorem write_bad {B : Gd} {x : Ih} {v : IV} (c fr : Int) (s : ByteArray) (w : World) (h : IsImg B w x v) (hs : s.size ≤ 1000) (hf : -9223372036854775808 ≤ fr ∧ fr ≤ 9223372036854775807) (hw : wrOk v c fr s = false) :
    Calls Tryz.prog 105 #[.pointer (some ⟨x.p, 0, none⟩), .int .i64 c, .int .i64 fr, .string s] w fun e w' => e = .returned (.iface 87 (.int .i64 1)) ∧ Below w.heap.size w w' := by
  have HE := toHid (entry_img c w h)
  cases hc : v.there c with
  | false =>
    have e1 : v.entF c = 1 := by unfold IV.entF; rw [hc]; rfl
    rw [e1, erV_1] at HE
    clear h hc e1 hw
    generalize (v.entE c).1 = y0 at HE
    generalize (v.entE c).2 = y1 at HE
    go_enter Tryz.func105, Tryz.ntmps105
    go_wp2_with fail
    refine HE.out.mono ?_
    rintro e w1 ⟨rfl, hb1⟩
    go_wp2
    go_ret
    exact ⟨rfl, hb1.alloc hb1.size _⟩
  | true =>
    have e1 : v.entF c = 0 := by unfold IV.entF; rw [hc]; rfl
    rw [e1, erV_0] at HE
    have hd : ¬ (0 ≤ fr ∧ fr ≤ 4 ∧ s.size % 16 = 0 ∧ (s.size : Int) ≤ 16 * (4 - fr)) := by
      unfold wrOk at hw
      rw [hc, Bool.true_and] at hw
      exact of_decide_eq_false hw
    clear h hc e1 hw
    generalize (v.entE c).1 = y0 at HE
    generalize (v.entE c).2 = y1 at HE
    by_cases h1 : fr < 0
    · have g1 : decide (fr < 0) = true := decide_eq_true h1
      go_enter Tryz.func105, Tryz.ntmps105
      go_wp2_with fail
      refine HE.out.mono ?_
      rintro e w1 ⟨rfl, hb1⟩
      go_wp2
      go_ret
      exact ⟨rfl, hb1.alloc hb1.size _⟩
    · have g1 : decide (fr < 0) = false := decide_eq_false h1
      by_cases h2 : 4 < fr
      · have g2 : decide (4 < fr) = true := decide_eq_true h2
        go_enter Tryz.func105, Tryz.ntmps105
        go_wp2_with fail
        refine HE.out.mono ?_
        rintro e w1 ⟨rfl, hb1⟩
        go_wp2
        go_ret
        exact ⟨rfl, hb1.alloc hb1.size _⟩
      · have g2 : decide (4 < fr) = false := decide_eq_false h2
        by_cases h3 : s.size % 16 = 0
        · have g3 : ((s.size : Int) % 16 != 0) = false := by simp; omega
          have g4 : decide (4 - fr < (s.size : Int) / 16) = true := by simp; omega
          go_enter Tryz.func105, Tryz.ntmps105
          go_wp2_with fail
          refine HE.out.mono ?_
          rintro e w1 ⟨rfl, hb1⟩
          go_wp2
          go_ret
          exact ⟨rfl, hb1.alloc hb1.size _⟩
        · have g3 : ((s.size : Int) % 16 != 0) = true := by simp; omega
          go_enter Tryz.func105, Tryz.ntmps105
          go_wp2_with fail
          refine HE.out.mono ?_
          rintro e w1 ⟨rfl, hb1⟩
          go_wp2
          go_ret
          exact ⟨rfl, hb1.alloc hb1.size _⟩

set_option maxRecDepth 100000 in
set_option maxHeartbeats 1000000 in
theorem write_img {B : Gd} {m : Nat} {x : Ih} {v : IV} (c fr : Int) (s : ByteArray) (w : World) (h : IsImg B w x v) (hok : v.ok m) (hm : m + 10 < 1000000000) (hB : B.top ≤ w.heap.size) (hs : s.size ≤ 1000) (hf : -9223372036854775808 ≤ fr ∧ fr ≤ 9223372036854775807) :
    Calls Tryz.prog 105 #[.pointer (some ⟨x.p, 0, none⟩), .int .i64 c, .int .i64 fr, .string s] w (Did B w x (v.write c fr s) (v.writeF c fr s)) := by
  cases hw : wrOk v c fr s with
  | false =>
    refine (write_bad c fr s w h hs hf hw).mono ?_
    rintro e w' ⟨rfl, hb⟩
    have e1 : v.write c fr s = v := by unfold IV.write; rw [hw, if_neg (fun h => by cases h.1)]
    have e2 : v.writeF c fr s = 1 := by unfold IV.writeF; rw [hw]; rfl
    rw [e1, e2, ← erV_1]
    exact did_same h hb
  | true =>
    obtain ⟨h1, h2, h3, h4, h5⟩ := wrOk_of hw
    have HE := toHid (entry_img c w h)
    have e1 : v.entF c = 0 := by unfold IV.entF; rw [h1]; rfl
    have e2 : v.entE c = v.ent c := by unfold IV.entE; rw [h1]; rfl
    rw [e1, erV_0, e2] at HE
    have g1 : decide (fr < 0) = false := decide_eq_false (by omega)
    have g2 : decide (4 < fr) = false := decide_eq_false (by omega)
    have g3 : ((s.size : Int) % 16 != 0) = false := by simp; omega
    have g4 : decide (4 - fr < (s.size : Int) / 16) = false := by simp; omega
    have HI := toHid h
    by_cases hk : (v.ent c).1 = 2
    · obtain ⟨p0, p1, p2⟩ := hok.place h1 hk
      have hbo := HV.of_ok hok.h
      have HV : Hid (v.write c fr s = { v with d := (v.writeD c fr s).1 }) := by unfold Hid IV.write; rw [if_pos ⟨hw, hk⟩]
      have HF : Hid (v.writeF c fr s = (v.writeD c fr s).2) := by unfold Hid IV.writeF; rw [hw, if_pos rfl, if_pos hk]
      have HWP : Hid (∀ W : World, IsImg B W x v → B.top ≤ W.heap.size → Calls Tryz.prog 88 #[.pointer (some ⟨x.p, 0, none⟩), .int .i64 (v.ent c).2, .int .i64 fr, .string s] W (Did B W x (v.write c fr s) (v.writeF c fr s))) := fun W hi hb => by
        have := writePlace_img (v.ent c).2.toNat fr.toNat (s.size / 16) s W hi hok.d (by omega) hb hok.h (by omega) (by omega) (by omega) (by omega)
        rw [show (((v.ent c).2.toNat : Nat) : Int) = (v.ent c).2 by omega, show ((fr.toNat : Nat) : Int) = fr by omega] at this
        rw [HV.out, HF.out]
        exact this
      generalize v.write c fr s = V at HWP ⊢
      generalize v.writeF c fr s = f at HWP ⊢
      rw [hk] at HE
      clear h hok h1 h5 h4 hw e1 e2 p0 p1 p2 hbo hk HV HF
      generalize (v.ent c).2 = y1 at HE HWP
      go_enter Tryz.func105, Tryz.ntmps105
      go_wp2_with fail
      refine HE.out.mono ?_
      rintro e w1 ⟨rfl, hb1⟩
      have HB1 := toHid (hb1.alloc hb1.size (.cells #[.int .i64 2, .int .i64 y1] 142))
      have HW2 := toHid (HWP.out _ (HI.out.below HB1.out) (Nat.le_trans hB HB1.out.size))
      clear hb1 HE HI HWP
      go_wp2_with fail
      refine HW2.out.mono ?_
      rintro e w2 ⟨y, rfl, h2y, h3y, h4y⟩
      have HD : Hid (Did B w x V f (.returned (erV f)) w2) := Did.from ⟨y, rfl, h2y, h3y, h4y⟩ HB1.out
      clear h2y h3y h4y
      go_wp2
      go_ret
      exact HD.out
    · have e3 : v.write c fr s = v := by unfold IV.write; rw [if_neg (fun h => hk h.2)]
      have e4 : v.writeF c fr s = 4 := by unfold IV.writeF; rw [hw, if_pos rfl, if_neg hk]
      rw [e3, e4]
      generalize (v.ent c).1 = y0 at HE hk
      generalize (v.ent c).2 = y1 at HE
      have g5 : (y0 != 2) = true := by simpa using hk
      clear h hok h1 h5 h4 hw e1 e2 e3 e4 hk
      go_enter Tryz.func105, Tryz.ntmps105
      go_wp2_with fail
      refine HE.out.mono ?_
      rintro e w1 ⟨rfl, hb1⟩
      have HD : Hid (Did B w x v 4 (.returned (erV 4)) (w1.alloc (.cells #[.int .i64 y0, .int .i64 y1] 142))) := did_same HI.out (hb1.alloc hb1.size _)
      rw [erV_some (by decide)] at HD
      clear hb1
      go_wp2
      go_ret
      exact HD.out
end Go.Proofs.YtjegaljdindfaabGreatDoor

namespace Go.Proofs.YtjegaljdindfaabGreatDoor
open Go.RowKit Go.Maps
attribute [local go_sem ↓] Go.wp_at_zero Go.wp_at_succ

set_option maxRecDepth 100000 in
set_option maxHeartbeats 1000000 in
theorem clear_img {B : Gd} {m : Nat} {x : Ih} {v : IV} (c : Int) (w : World) (h : IsImg B w x v) (hok : v.ok m) (hm : m + 10 < 1000000000) (hB : B.top ≤ w.heap.size) :
    Calls Tryz.prog 29 #[.pointer (some ⟨x.p, 0, none⟩), .int .i64 c] w (Did B w x (v.clear c) (v.clearF c)) := by
  have HE := toHid (entry_img c w h)
  have HI := toHid h
  cases hc : v.there c with
  | false =>
    have e1 : v.entF c = 1 := by unfold IV.entF; rw [hc]; rfl
    have e3 : v.clear c = v := by unfold IV.clear; rw [hc, if_neg (fun h => by cases h.1)]
    have e4 : v.clearF c = 1 := by unfold IV.clearF; rw [hc]; rfl
    rw [e1, erV_1] at HE
    rw [e3, e4]
    clear h hok hc e1 e3 e4
    generalize (v.entE c).1 = y0 at HE
    generalize (v.entE c).2 = y1 at HE
    go_enter Tryz.func29, Tryz.ntmps29
    go_wp2_with fail
    refine HE.out.mono ?_
    rintro e w1 ⟨rfl, hb1⟩
    have HD : Hid (Did B w x v 1 (.returned (erV 1)) (w1.alloc (.cells #[.int .i64 y0, .int .i64 y1] 142))) := did_same HI.out (hb1.alloc hb1.size _)
    rw [erV_some (by decide)] at HD
    clear hb1
    go_wp2
    go_ret
    exact HD.out
  | true =>
    have e1 : v.entF c = 0 := by unfold IV.entF; rw [hc]; rfl
    have e2 : v.entE c = v.ent c := by unfold IV.entE; rw [hc]; rfl
    rw [e1, erV_0, e2] at HE
    by_cases h1 : (v.ent c).1 = 1
    · have e3 : v.clear c = v := by unfold IV.clear; rw [if_neg (fun h => h.2 h1)]
      have e4 : v.clearF c = 0 := by unfold IV.clearF; rw [hc, if_pos rfl, if_pos h1]
      rw [e3, e4]
      rw [h1] at HE
      clear h hok hc e1 e2 e3 e4 h1
      generalize (v.ent c).2 = y1 at HE
      go_enter Tryz.func29, Tryz.ntmps29
      go_wp2_with fail
      refine HE.out.mono ?_
      rintro e w1 ⟨rfl, hb1⟩
      have HD : Hid (Did B w x v 0 (.returned (erV 0)) (w1.alloc (.cells #[.int .i64 1, .int .i64 y1] 142))) := did_same HI.out (hb1.alloc hb1.size _)
      rw [erV_0] at HD
      clear hb1
      go_wp2
      go_ret
      exact HD.out
    · obtain ⟨t0, t1⟩ := IV.there_of hc
      have HST : Hid (∀ W : World, IsImg B W x v → B.top ≤ W.heap.size → Calls Tryz.prog 84 #[.pointer (some ⟨x.p, 0, none⟩), .int .i64 c, .agg #[.int .i64 1, .int .i64 0]] W (Did B W x (v.clear c) (v.clearF c))) := fun W hi hb => by
        have := set_img c.toNat 1 0 W hi hok (by omega) hb (by omega) (entB_yes (.inr ⟨.inr rfl, rfl⟩))
        rw [show ((c.toNat : Nat) : Int) = c by omega] at this
        have e3 : v.clear c = v.set c.toNat (1, 0) := by unfold IV.clear; rw [if_pos ⟨hc, h1⟩]
        have e4 : v.clearF c = v.d.putF := by unfold IV.clearF; rw [hc, if_pos rfl, if_neg h1]
        rw [e3, e4]
        exact this
      generalize v.clear c = V at HST ⊢
      generalize v.clearF c = f at HST ⊢
      clear h hok hc e1 e2 t0 t1
      generalize (v.ent c).1 = y0 at HE h1
      generalize (v.ent c).2 = y1 at HE
      have g1 : (y0 == 1) = false := by simpa using h1
      clear h1
      go_enter Tryz.func29, Tryz.ntmps29
      go_wp2_with fail
      refine HE.out.mono ?_
      rintro e w1 ⟨rfl, hb1⟩
      have HB1 := toHid (hb1.alloc hb1.size (.cells #[.int .i64 y0, .int .i64 y1] 142))
      have HW2 := toHid (HST.out _ (HI.out.below HB1.out) (Nat.le_trans hB HB1.out.size))
      clear hb1 HE HI HST
      go_wp2_with fail
      refine HW2.out.mono ?_
      rintro e w2 ⟨y, rfl, h2y, h3y, h4y⟩
      have HD : Hid (Did B w x V f (.returned (erV f)) w2) := Did.from ⟨y, rfl, h2y, h3y, h4y⟩ HB1.out
      clear h2y h3y h4y
      go_wp2
      go_ret
      exact HD.out

/- Fill, where it doesn't come to a write. -/
set_option maxRecDepth 100000 in
set_option maxHeartbeats 1000000 in
theorem fill_none {B : Gd} {m : Nat} {x : Ih} {v : IV} (c : Int) (s : ByteArray) (w : World) (h : IsImg B w x v) (hok : v.ok m) (hn : ¬ (v.there c = true ∧ s.size = 64 ∧ (v.ent c).1 ≠ 2 ∧ v.freeL ≠ [])) :
    Calls Tryz.prog 31 #[.pointer (some ⟨x.p, 0, none⟩), .int .i64 c, .string s] w (Did B w x (v.fill c s) (v.fillF c s)) := by
  have HE := toHid (entry_img c w h)
  have HI := toHid h
  cases hc : v.there c with
  | false =>
    have e1 : v.entF c = 1 := by unfold IV.entF; rw [hc]; rfl
    have e3 : v.fill c s = v := by unfold IV.fill; rw [hc, if_neg (fun h => by cases h.1)]
    have e4 : v.fillF c s = 1 := by unfold IV.fillF; rw [hc, if_neg (fun h => by cases h.1)]
    rw [e1, erV_1] at HE
    rw [e3, e4]
    clear h hok hc e1 e3 e4 hn
    generalize (v.entE c).1 = y0 at HE
    generalize (v.entE c).2 = y1 at HE
    go_enter Tryz.func31, Tryz.ntmps31
    go_wp2_with fail
    refine HE.out.mono ?_
    rintro e w1 ⟨rfl, hb1⟩
    have HD : Hid (Did B w x v 1 (.returned (erV 1)) (w1.alloc (.cells #[.int .i64 y0, .int .i64 y1] 142))) := did_same HI.out (hb1.alloc hb1.size _)
    rw [erV_some (by decide)] at HD
    clear hb1
    go_wp2
    go_ret
    exact HD.out
  | true =>
    have e1 : v.entF c = 0 := by unfold IV.entF; rw [hc]; rfl
    have e2 : v.entE c = v.ent c := by unfold IV.entE; rw [hc]; rfl
    rw [e1, erV_0, e2] at HE
    by_cases hs : s.size = 64
    · by_cases h2 : (v.ent c).1 = 2
      · have e3 : v.fill c s = v := by unfold IV.fill; rw [if_pos ⟨hc, hs⟩, if_pos h2]
        have e4 : v.fillF c s = 5 := by unfold IV.fillF; rw [if_pos ⟨hc, hs⟩, if_pos h2]
        rw [e3, e4]
        rw [h2] at HE
        have g1 : ((s.size : Int) != 64) = false := by simp; omega
        clear h hok hc e1 e2 e3 e4 h2 hs hn
        generalize (v.ent c).2 = y1 at HE
        go_enter Tryz.func31, Tryz.ntmps31
        go_wp2_with fail
        refine HE.out.mono ?_
        rintro e w1 ⟨rfl, hb1⟩
        have HD : Hid (Did B w x v 5 (.returned (erV 5)) (w1.alloc (.cells #[.int .i64 2, .int .i64 y1] 142))) := did_same HI.out (hb1.alloc hb1.size _)
        rw [erV_some (by decide)] at HD
        clear hb1
        go_wp2
        go_ret
        exact HD.out
      · have hfl : v.freeL = [] := by
          by_cases hx : v.freeL = []
          · exact hx
          · exact absurd ⟨hc, hs, h2, hx⟩ hn
        have e3 : v.fill c s = v := by unfold IV.fill; rw [if_pos ⟨hc, hs⟩, if_neg h2, hfl]
        have e4 : v.fillF c s = 6 := by unfold IV.fillF; rw [if_pos ⟨hc, hs⟩, if_neg h2, hfl]
        rw [e3, e4]
        have HF : Hid (∀ W : World, IsImg B W x v → Calls Tryz.prog 87 #[.pointer (some ⟨x.p, 0, none⟩)] W fun e w' => ∃ a cap, e = .returned (.slice a 0 cap) ∧ Below W.heap.size W w') := fun W hi => by
          refine (free_img W hi hok).mono ?_
          rw [hfl]
          rintro e w' ⟨a, cap, h1, _, h3⟩
          exact ⟨a, cap, h1, h3⟩
        generalize (v.ent c).1 = y0 at HE h2
        generalize (v.ent c).2 = y1 at HE
        have g1 : ((s.size : Int) != 64) = false := by simp; omega
        have g2 : (y0 == 2) = false := by simpa using h2
        clear h hok hc e1 e2 e3 e4 h2 hs hn hfl
        go_enter Tryz.func31, Tryz.ntmps31
        go_wp2_with fail
        refine HE.out.mono ?_
        rintro e w1 ⟨rfl, hb1⟩
        have HB1 := toHid (hb1.alloc hb1.size (.cells #[.int .i64 y0, .int .i64 y1] 142))
        have HF2 := toHid (HF.out _ (HI.out.below HB1.out))
        clear hb1 HE HF
        go_wp2_with fail
        refine HF2.out.mono ?_
        rintro e w2 ⟨a, cap, rfl, hb2⟩
        have HD : Hid (Did B w x v 6 (.returned (erV 6)) w2) := did_same HI.out (HB1.out.trans (hb2.mono HB1.out.size))
        rw [erV_some (by decide)] at HD
        clear hb2
        go_wp2
        go_ret
        exact HD.out
    · have e3 : v.fill c s = v := by unfold IV.fill; rw [if_neg (fun h => hs h.2)]
      have e4 : v.fillF c s = 1 := by unfold IV.fillF; rw [if_neg (fun h => hs h.2)]
      rw [e3, e4]
      generalize (v.ent c).1 = y0 at HE
      generalize (v.ent c).2 = y1 at HE
      have g1 : ((s.size : Int) != 64) = true := by simp; omega
      clear h hok hc e1 e2 e3 e4 hs hn
      go_enter Tryz.func31, Tryz.ntmps31
      go_wp2_with fail
      refine HE.out.mono ?_
      rintro e w1 ⟨rfl, hb1⟩
      have HD : Hid (Did B w x v 1 (.returned (erV 1)) (w1.alloc (.cells #[.int .i64 y0, .int .i64 y1] 142))) := did_same HI.out (hb1.alloc hb1.size _)
      rw [erV_some (by decide)] at HD
      clear hb1
      go_wp2
      go_ret
      exact HD.out

set_option maxRecDepth 100000 in
set_option maxHeartbeats 1000000 in
theorem fill_some {B : Gd} {m : Nat} {x : Ih} {v : IV} (c : Int) (s : ByteArray) (q : Nat) (r : List Nat) (w : World) (h : IsImg B w x v) (hok : v.ok m) (hm : m + 10 < 1000000000) (hB : B.top ≤ w.heap.size) (hc : v.there c = true) (hs : s.size = 64) (h2 : (v.ent c).1 ≠ 2) (hfl : v.freeL = q :: r) :
    Calls Tryz.prog 31 #[.pointer (some ⟨x.p, 0, none⟩), .int .i64 c, .string s] w (Did B w x (v.fill c s) (v.fillF c s)) := by
  have HE := toHid (entry_img c w h)
  have HI := toHid h
  have e1 : v.entF c = 0 := by unfold IV.entF; rw [hc]; rfl
  have e2 : v.entE c = v.ent c := by unfold IV.entE; rw [hc]; rfl
  rw [e1, erV_0, e2] at HE
  obtain ⟨t0, t1⟩ := IV.there_of hc
  have hm1 : q ∈ v.freeL := by rw [hfl]; exact List.mem_cons_self
  have hbo := HV.of_ok hok.h
  have hqp := (IV.freeTo_mem hm1).1
  have hbe := (begin_le hok.h hok.need).2 q (by omega)
  have e3 : v.fill c s = if (v.fillD q s).2 = 0 then (v.fillV q s).set c.toNat (2, (q : Int)) else { v with d := (v.fillD q s).1 } := by unfold IV.fill; rw [if_pos ⟨hc, hs⟩, if_neg h2, hfl]
  have e4 : v.fillF c s = if (v.fillD q s).2 = 0 then (v.fillV q s).d.putF else (v.fillD q s).2 := by unfold IV.fillF; rw [if_pos ⟨hc, hs⟩, if_neg h2, hfl]
  have HF : Hid (∀ W : World, IsImg B W x v → Calls Tryz.prog 87 #[.pointer (some ⟨x.p, 0, none⟩)] W fun e w' => ∃ g n cap, e = .returned (.slice (some ⟨g, 0, none⟩) (n + 1) cap) ∧ W.heap.size ≤ g ∧ (∃ cur, w'.heap[g]? = some (.cells cur 3 (0, 0))) ∧ w'.cell? ⟨g, 0, none⟩ = some (.int .i64 (q : Int)) ∧ Below W.heap.size W w') := fun W hi => by
    refine (free_img W hi hok).mono ?_
    rintro e w' ⟨a, cap, h1, h2, h3⟩
    rw [hfl] at h1 h2
    obtain ⟨g, cap2, hv, hg, hl⟩ := h2.form (by simp)
    rw [hv] at h1 h2
    refine ⟨g, r.length, cap2, h1, hg, ?_, ?_, h3⟩
    · obtain ⟨cur, hh⟩ := ownsRow_kind h2 g rfl
      exact ⟨cur, hh⟩
    · rw [h2.cellAt 0 (by simp)]; rfl
  have HWP : Hid (∀ W : World, IsImg B W x v → B.top ≤ W.heap.size → Calls Tryz.prog 88 #[.pointer (some ⟨x.p, 0, none⟩), .int .i64 (q : Int), .int .i64 0, .string s] W (Did B W x { v with d := (v.fillD q s).1 } (v.fillD q s).2)) := fun W hi hb =>
    writePlace_img q 0 4 s W hi hok.d (by omega) hb hok.h (by omega) (by omega) (by omega) (by omega)
  have HST : Hid (∀ (W : World) (y : Hd), IsImg B W { x with h := y } (v.fillV q s) → B.top ≤ W.heap.size → Calls Tryz.prog 84 #[.pointer (some ⟨x.p, 0, none⟩), .int .i64 c, .agg #[.int .i64 2, .int .i64 (q : Int)]] W (Did B W { x with h := y } ((v.fillV q s).set c.toNat (2, (q : Int))) (v.fillV q s).d.putF)) := fun W y hi hb => by
    have := set_img c.toNat 2 (q : Int) W hi (hok.fillV hm1 hs (by omega)) (by omega) hb (by show c.toNat < v.t.length; omega) (free_ent hok hm1)
    rw [show ((c.toNat : Nat) : Int) = c by omega] at this
    exact this
  have HPF : Hid ((v.fillD q s).2 = 0 ∨ (v.fillD q s).2 = 7) := DV.puts_F _ _ _ _
  have HVV : Hid (∀ (W : World) (y : Hd), IsImg B W { x with h := y } { v with d := (v.fillD q s).1 } → Calls Tryz.prog 89 #[.pointer (some ⟨x.p, 0, none⟩)] W fun e w' => ∃ h' : Hd, e = .returned (.tuple #[]) ∧ h'.p = y.p ∧ IsImg B w' { x with h := h' } (v.fillV q s) ∧ KeptP B x.tb W w') := fun W y hi => flush_img W hi
  generalize (v.ent c).1 = y0 at HE h2
  generalize (v.ent c).2 = y1 at HE
  have g1 : ((s.size : Int) != 64) = false := by simp; omega
  have g2 : (y0 == 2) = false := by simpa using h2
  have HE3 := toHid e3
  have HE4 := toHid e4
  clear h hok hc e1 e2 e3 e4 h2 hs hfl hm1 hbo hqp hbe t0 t1
  generalize v.fill c s = V at HE3 ⊢
  generalize v.fillF c s = f at HE4 ⊢
  generalize (v.fillD q s).2 = f1 at HE3 HE4 HWP HPF
  generalize (v.fillV q s).d.putF = f2 at HE4 HST
  go_enter Tryz.func31, Tryz.ntmps31
  go_wp2_with fail
  refine HE.out.mono ?_
  rintro e w1 ⟨rfl, hb1⟩
  have HB1 := toHid (hb1.alloc hb1.size (.cells #[.int .i64 y0, .int .i64 y1] 142))
  have HF2 := toHid (HF.out _ (HI.out.below HB1.out))
  clear hb1 HE HF
  go_wp2_with fail
  refine HF2.out.mono ?_
  rintro e w2 ⟨g, n, cap, rfl, hg, hgk, hgc, hb2⟩
  have HB2 := toHid (HB1.out.trans (hb2.mono HB1.out.size))
  have hB2 : B.top ≤ w2.heap.size := Nat.le_trans hB HB2.out.size
  have HI2 := toHid (HI.out.below HB2.out)
  have HW2 := toHid (HWP.out w2 HI2.out hB2)
  have htb : g ≠ x.tb := fun e => by
    have h1 := HI.out.lts.2.2
    have h2 := HB1.out.size
    omega
  have HGK := toHid hgk
  have hn1 : (((n + 1 : Nat) : Int) == 0) = false := by simp; omega
  have n0 : (0 : Int) < ((n + 1 : Nat) : Int) := by omega
  clear hg hgk hb2 HB1 HF2 HI HWP
  go_wp2_with fail
  refine HW2.out.mono ?_
  rintro e w3 ⟨y, rfl, hyp, hi3, hk3⟩
  have HYP := toHid hyp
  obtain ⟨cur, hcur⟩ := HGK.out
  have hc0 : cur[0]? = some (.int .i64 (q : Int)) := by rw [cell_of_row _ _ _ _ _ _ hcur] at hgc; exact hgc
  have hcur3 := hk3.box hcur (by decide) htb
  have HK3 : Hid (KeptP B x.tb w w3) := KeptP.trans (KeptP.of_below HB2.out) hk3
  have hB3 : B.top ≤ w3.heap.size := Nat.le_trans hB2 hk3.size
  clear hyp hk3 HW2 HI2 HB2 HGK hcur hgc
  by_cases hf1 : f1 = 0
  · have HV := toHid (HE3.out.trans (if_pos hf1))
    have HF4 := toHid (HE4.out.trans (if_pos hf1))
    rw [hf1, erV_0]
    have HFL := toHid (HVV.out w3 y hi3)
    clear hi3 HE3 HE4 HPF hf1 HVV
    go_wp2_with fail
    refine HFL.out.mono ?_
    rintro e w4 ⟨y4, rfl, hyp4, hi4, hk4⟩
    have HYP4 : Hid (y4.p = x.h.p) := hyp4.trans HYP.out
    have hcur4 := hk4.box hcur3 (by decide) htb
    have hgc4 : w4.cell? ⟨g, 0, none⟩ = some (.int .i64 (q : Int)) := by rw [cell_of_row _ _ _ _ _ _ hcur4]; exact hc0
    have HK4 : Hid (KeptP B x.tb w w4) := KeptP.trans HK3.out hk4
    have HS4 := toHid (HST.out w4 y4 hi4 (Nat.le_trans hB3 hk4.size))
    clear hyp4 hk4 hi4 hcur4 hcur3 HST HFL HK3 hc0
    go_wp2_with fail
    refine HS4.out.mono ?_
    rintro e w5 ⟨y5, rfl, hyp5, hi5, hk5⟩
    have HD : Hid (Did B w x V f (.returned (erV f2)) w5) := by
      refine ⟨y5, by rw [HF4.out], hyp5.trans HYP4.out, ?_, KeptP.trans HK4.out hk5⟩
      rw [HV.out]; exact hi5
    clear hyp5 hi5 hk5
    go_wp2
    go_ret
    exact HD.out
  · have HV := toHid (HE3.out.trans (if_neg hf1))
    have HF4 := toHid (HE4.out.trans (if_neg hf1))
    have HD : Hid (Did B w x V f (.returned (erV f1)) w3) := by
      refine ⟨y, by rw [HF4.out], HYP.out, ?_, HK3.out⟩
      rw [HV.out]; exact hi3
    rw [erV_some hf1] at HD ⊢
    clear hi3 HE3 HE4 HPF HVV HF4 HV hcur3 hc0 HST
    go_wp2
    go_ret
    exact HD.out

theorem fill_img {B : Gd} {m : Nat} {x : Ih} {v : IV} (c : Int) (s : ByteArray) (w : World) (h : IsImg B w x v) (hok : v.ok m) (hm : m + 10 < 1000000000) (hB : B.top ≤ w.heap.size) :
    Calls Tryz.prog 31 #[.pointer (some ⟨x.p, 0, none⟩), .int .i64 c, .string s] w (Did B w x (v.fill c s) (v.fillF c s)) := by
  by_cases hn : v.there c = true ∧ s.size = 64 ∧ (v.ent c).1 ≠ 2 ∧ v.freeL ≠ []
  · obtain ⟨h1, h2, h3, h4⟩ := hn
    cases hf : v.freeL with
    | nil => exact absurd hf h4
    | cons q r => exact fill_some c s q r w h hok hm hB h1 h2 h3 hf
  · exact fill_none c s w h hok hn
end Go.Proofs.YtjegaljdindfaabGreatDoor
