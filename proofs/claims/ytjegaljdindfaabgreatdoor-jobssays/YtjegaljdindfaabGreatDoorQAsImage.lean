/-
An image made anew, of whatever head: the program's, and the document's.
The document's own image: what is read of it.
asImage: an image and the document's own one, held against each other.
-/
import Derived.Test.YtjegaljdindfaabGreatDoorQImgCreate
import Derived.Test.YtjegaljdindfaabGreatDoorQRimCreate
import Derived.Test.YtjegaljdindfaabGreatDoorQRimCreate2
import Derived.Test.YtjegaljdindfaabGreatDoorQRimFill
import Derived.Test.YtjegaljdindfaabGreatDoorQChainDefs
namespace Go.Proofs.YtjegaljdindfaabGreatDoor
open Go.RowKit Go.Maps

theorem crF_bad {d : DV} {h : HV} (hn : ¬ (h.ok = true ∧ needN h ≤ d.fl.length)) : crF d h = 1 := by
  unfold crF
  by_cases hk : h.ok = true
  · rw [if_pos hk, if_pos (Nat.lt_of_not_le fun e => hn ⟨hk, e⟩)]
  · rw [if_neg hk]

theorem crF_pos (d : DV) (h : HV) : 0 ≤ crF d h := by
  unfold crF
  split
  · split
    · decide
    · split
      · exact putF_pos _
      · next h0 =>
        have : ∀ k, 0 ≤ (d.rowsP (crT h) k).2 := fun k => by
          induction k with
          | zero => exact Int.le_refl 0
          | succ k ih =>
            by_cases e : (d.rowsP (crT h) k).2 = 0
            · rw [DV.rowsP_yes e]; exact putF_pos _
            · rw [DV.rowsP_no e (k + 1) (by omega)]; exact ih
        exact this _
  · decide

theorem create_all {B : Gd} {m : Nat} {h : Hd} {d : DV} (c p b : Int) (w : World) (hd : IsDevG B w h d) (hf : d.fine d.fl.length m) (hm : m + 20 < 1000000000) (hB : B.top ≤ w.heap.size) :
    Calls Tryz.prog 26 #[.pointer (some ⟨h.p, 0, none⟩), .agg #[.int .i64 c, .int .i64 p, .int .i64 b]] w fun e w' =>
      ∃ x : Ih, x.h.p = h.p ∧ w.heap.size ≤ x.tb ∧ KeptP B x.tb w w' ∧ ((crF d ⟨c, p, b⟩ = 0 ∧ e = .returned (.tuple #[.pointer (some ⟨x.p, 0, none⟩), .nilIface]) ∧ IsImg B w' x (crV d ⟨c, p, b⟩) ∧ HV.ok ⟨c, p, b⟩ = true ∧ needN ⟨c, p, b⟩ ≤ d.fl.length) ∨
        (crF d ⟨c, p, b⟩ ≠ 0 ∧ e = .returned (.tuple #[.pointer none, erV (crF d ⟨c, p, b⟩)]))) := by
  by_cases hn : HV.ok ⟨c, p, b⟩ = true ∧ needN ⟨c, p, b⟩ ≤ d.fl.length
  · have hb := HV.of_ok hn.1
    simp only at hb
    obtain ⟨nc, rfl⟩ : ∃ nc : Nat, c = (nc : Int) := ⟨c.toNat, by omega⟩
    refine (create_good nc p b w hd hf hm hB hn.1 hn.2).mono ?_
    rintro e w' ⟨x, h1, h2, h3, h4 | h4⟩
    · exact ⟨x, h1, h2, h3, .inl ⟨h4.1, h4.2.1, h4.2.2, hn.1, hn.2⟩⟩
    · exact ⟨x, h1, h2, h3, .inr ⟨h4.1, h4.2.1⟩⟩
  · refine (create_bad c p b w hd hn).mono ?_
    rintro e w' ⟨rfl, hb⟩
    rw [crF_bad hn]
    exact ⟨⟨0, h, w.heap.size, 0, 0⟩, rfl, Nat.le_refl _, KeptP.of_below hb, .inr ⟨by decide, by rw [erV_1]⟩⟩

theorem created_all {B : Gd} {m : Nat} {q : Rh} {d : DV} (c p b : Int) (w : World) (hd : IsRefG B w q d) (hf : d.fine d.fl.length m) (hm : m + 20 < 1000000000) (hB : B.top ≤ w.heap.size) :
    Calls Tryz.prog 27 #[.pointer (some ⟨q.p, 0, none⟩), .agg #[.int .i64 c, .int .i64 p, .int .i64 b]] w fun e w' =>
      ∃ r : Qh, r.d.p = q.p ∧ (∀ k, r.vt.ownBlock = some k → w.heap.size ≤ k) ∧ KeptR B w w' ∧ ((crF d ⟨c, p, b⟩ = 0 ∧ e = .returned (.tuple #[.pointer (some ⟨r.p, 0, none⟩), .int .i64 0]) ∧ IsRim B w' r (crV d ⟨c, p, b⟩)) ∨
        (crF d ⟨c, p, b⟩ ≠ 0 ∧ e = .returned (.tuple #[.pointer none, .int .i64 (crF d ⟨c, p, b⟩)]))) := by
  by_cases hn : HV.ok ⟨c, p, b⟩ = true ∧ needN ⟨c, p, b⟩ ≤ d.fl.length
  · have hb := HV.of_ok hn.1
    simp only at hb
    obtain ⟨nc, rfl⟩ : ∃ nc : Nat, c = (nc : Int) := ⟨c.toNat, by omega⟩
    refine (created_good nc p b w hd hf hm hB hn.1 hn.2).mono ?_
    rintro e w' ⟨x, h1, h2, h3, h4 | h4⟩
    · exact ⟨x, h1, h2, h3, .inl h4⟩
    · exact ⟨x, h1, h2, h3, .inr ⟨h4.1, h4.2.1⟩⟩
  · refine (created_bad c p b w hd hn).mono ?_
    rintro e w' ⟨rfl, hb⟩
    rw [crF_bad hn]
    exact ⟨⟨0, q, .slice none 0 0, .slice none 0 0⟩, rfl, fun k e => (by cases e), KeptR.of_below hb, .inr ⟨by decide, rfl⟩⟩
end Go.Proofs.YtjegaljdindfaabGreatDoor

namespace Go.Proofs.YtjegaljdindfaabGreatDoor
open Go.RowKit Go.Maps
attribute [local go_sem ↓] Go.wp_at_zero Go.wp_at_succ

theorem place_append (d : DV) (a k : Nat) : bytesOf (placeL d a k) ++ bytesOf (d.seen.getD (a + k) []) = bytesOf (placeL d a (k + 1)) := bytesOf_append _ _

set_option maxRecDepth 100000 in
set_option maxHeartbeats 2000000 in
theorem read_rim {B : Gd} {m : Nat} {q : Qh} {v : IV} (c : Int) (w : World) (h : IsRim B w q v) (hok : v.ok m) :
    Calls Tryz.prog 107 #[.pointer (some ⟨q.p, 0, none⟩), .int .i64 c] w fun e w' =>
      e = .returned (.tuple #[.string (bytesOf (v.readS c)), .int .i64 (v.readF c)]) ∧ Below w.heap.size w w' := by
  have HTH := toHid (there_rim c w h hok.len)
  cases hc : v.there c with
  | false =>
    have HS : Hid (v.readS c = []) := by unfold Hid IV.readS; rw [hc]; rfl
    have HF : Hid (v.readF c = 1) := by unfold Hid IV.readF; rw [hc]; rfl
    rw [hc] at HTH
    clear h hok hc
    go_enter Tryz.func107, Tryz.ntmps107
    go_wp2_with (go_at_call 85; refine HTH.out.mono ?_; rintro e w' ⟨rfl, hw⟩; have hw' := hw.symm; subst hw'; clear hw)
    go_ret2
    exact ⟨by rw [HS.out, HF.out]; rfl, Below.refl _ _⟩
  | true =>
    rw [hc] at HTH
    obtain ⟨t0', t1'⟩ := IV.there_of hc
    obtain ⟨cn, rfl⟩ : ∃ cn : Nat, c = (cn : Int) := ⟨c.toNat, by omega⟩
    obtain ⟨g, cap, hv, hgl, t0, t1⟩ := h.entAt (c := cn) (by omega)
    obtain ⟨c0, _, _, _, c4, _, _⟩ := h.cells
    rw [hv] at c4
    have HEN : Hid (v.ent (cn : Int) = v.t.getD cn (0, 0)) := rfl
    rw [← HEN.out] at t0 t1
    have k0 : (0 : Int) ≤ (cn : Int) := by omega
    have hent := entB_of (hok.ent hc)
    by_cases hz : (v.ent (cn : Int)).1 = 0
    · have HS : Hid (v.readS (cn : Int) = []) := by unfold Hid IV.readS; rw [hc, if_pos rfl, if_neg (by omega), if_neg (by omega)]
      have HF : Hid (v.readF (cn : Int) = 4) := by unfold Hid IV.readF; rw [hc, if_pos rfl, if_pos hz]
      rw [hz] at t0
      clear h hok hc hz hent HEN hv t1 c0
      generalize v.t.length = n at c4 t1'
      go_enter Tryz.func107, Tryz.ntmps107
      go_wp2_with (go_at_call 85; refine HTH.out.mono ?_; rintro e w' ⟨rfl, hw⟩; have hw' := hw.symm; subst hw'; clear hw)
      go_ret2
      exact ⟨by rw [HS.out, HF.out]; rfl, Below.refl _ _⟩
    · have HF : Hid (v.readF (cn : Int) = 0) := by unfold Hid IV.readF; rw [hc, if_pos rfl, if_neg hz]
      by_cases h1 : (v.ent (cn : Int)).1 = 1
      · have HS : Hid (bytesOf (v.readS (cn : Int)) = bytesOf (List.replicate 64 0)) := by unfold Hid IV.readS; rw [hc, if_pos rfl, if_neg (by omega), if_pos h1]; rfl
        have HNO : Hid (∀ W : World, Calls Tryz.prog 38 #[.int .i64 64] W fun e w' => e = .returned (.string (bytesOf (List.replicate 64 0))) ∧ Below W.heap.size W w') := fun W => noughtsN_any 64 W (by omega)
        rw [h1] at t0
        clear h hok hc hz h1 hent HEN hv t1 c0
        generalize bytesOf (List.replicate 64 0) = S at HS HNO
        generalize v.t.length = n at c4 t1'
        go_enter Tryz.func107, Tryz.ntmps107
        go_wp2_with (go_at_call 85; refine HTH.out.mono ?_; rintro e w' ⟨rfl, hw⟩; have hw' := hw.symm; subst hw'; clear hw)
        refine (HNO.out _).mono ?_
        rintro e w1 ⟨rfl, hb1⟩
        go_wp2
        go_ret2
        exact ⟨by rw [HS.out, HF.out]; rfl, hb1⟩
      · have h2 : (v.ent (cn : Int)).1 = 2 := by omega
        obtain ⟨p0, p1, p2⟩ := hok.place hc h2
        have hbo := HV.of_ok hok.h
        have hn2 := hok.d.ok.n2
        have hfw := hok.d.ok.few
        have hfw2 := hok.d.ok.few2
        have HS : Hid (bytesOf (v.readS (cn : Int)) = bytesOf (placeL v.d (beginN v.h (v.ent (cn : Int)).2.toNat) 4)) := by unfold Hid IV.readS; rw [hc, if_pos rfl, if_pos h2]
        have HFI : Hid (∀ W : World, W.heap = w.heap → Calls Tryz.prog 92 #[.pointer (some ⟨q.p, 0, none⟩), .int .i64 (v.ent (cn : Int)).2] W fun e w' => e = .returned (.int .i64 (beginN v.h (v.ent (cn : Int)).2.toNat : Int)) ∧ w' = W) := fun W hW => by
          have := first_rim (v.ent (cn : Int)).2.toNat W (h.keep (by rw [hW]) (fun _ _ => by rw [hW]) (fun _ _ => by rw [hW]) fun _ _ => by rw [hW]) hok.h (by omega)
          rw [show (((v.ent (cn : Int)).2.toNat : Nat) : Int) = (v.ent (cn : Int)).2 by omega] at this; exact this
        have HSE : Hid (∀ (k : Nat) (W : World), k < 4 → W.heap = w.heap → Calls Tryz.prog 150 #[.pointer (some ⟨q.d.p, 0, none⟩), .int .i64 ((beginN v.h (v.ent (cn : Int)).2.toNat : Int) + (k : Int))] W fun e w' => e = .returned (.string (bytesOf (v.d.seen.getD (beginN v.h (v.ent (cn : Int)).2.toNat + k) []))) ∧ w' = W) := fun k W hk hW => by
          have := seen_any (beginN v.h (v.ent (cn : Int)).2.toNat + k) W (h.dev.keep fun _ _ => by rw [hW]).toIsRef (by omega) (by omega)
          rw [← seen_last hok.d.sn _ (by omega), show (((beginN v.h (v.ent (cn : Int)).2.toNat + k : Nat) : Int)) = (beginN v.h (v.ent (cn : Int)).2.toNat : Int) + (k : Int) by omega] at this; exact this
        generalize beginN v.h (v.ent (cn : Int)).2.toNat = bn at HS HFI HSE p2
        have HPA : Hid (∀ k, bytesOf (placeL v.d bn k) ++ bytesOf (v.d.seen.getD (bn + k) []) = bytesOf (placeL v.d bn (k + 1))) := fun k => place_append v.d bn k
        have HP0 : Hid (bytesOf (placeL v.d bn 0) = ⟨#[]⟩) := rfl
        have HPZ : Hid (∀ k, k ≤ 4 → (bytesOf (placeL v.d bn k)).size ≤ 64) := fun k hk4 => by
          have hl : ∀ j, j ≤ 4 → (placeL v.d bn j).length = 16 * j := fun j hj => by
            induction j with
            | zero => rfl
            | succ j ih =>
              show (placeL v.d bn j ++ v.d.seen.getD (bn + j) []).length = _
              rw [List.length_append, ih (by omega)]
              have hx : bn + j < v.d.seen.length := by have := hok.d.ok.same; omega
              have : (v.d.seen.getD (bn + j) []).length = 16 := by rw [List.getD_eq_getElem?_getD, List.getElem?_eq_getElem hx]; exact hok.d.ok.l2 _ (List.getElem_mem hx)
              omega
          show (placeL v.d bn k).toArray.size ≤ 64
          rw [List.size_toArray, hl k hk4]; omega
        have HSZ : Hid (∀ k, k < 4 → (bytesOf (v.d.seen.getD (bn + k) [])).size = 16) := fun k hk4 => by
          have hx : bn + k < v.d.seen.length := by have := hok.d.ok.same; omega
          have : (v.d.seen.getD (bn + k) []).length = 16 := by rw [List.getD_eq_getElem?_getD, List.getElem?_eq_getElem hx]; exact hok.d.ok.l2 _ (List.getElem_mem hx)
          show (v.d.seen.getD (bn + k) []).toArray.size = 16
          simpa using this
        obtain ⟨PS, hPS⟩ : ∃ PS : Nat → ByteArray, PS = fun k => bytesOf (placeL v.d bn k) := ⟨_, rfl⟩
        obtain ⟨SS, hSS⟩ : ∃ SS : Nat → ByteArray, SS = fun k => bytesOf (v.d.seen.getD (bn + k) []) := ⟨_, rfl⟩
        have HPA2 : Hid (∀ k, PS k ++ SS k = PS (k + 1)) := by rw [hPS, hSS]; exact HPA
        have HP02 : Hid (PS 0 = ⟨#[]⟩) := by rw [hPS]; exact HP0
        have HPZ2 : Hid (∀ k, k ≤ 4 → (PS k).size ≤ 64) := by rw [hPS]; exact HPZ
        have HSZ2 : Hid (∀ k, k < 4 → (SS k).size = 16) := by rw [hSS]; exact HSZ
        have HS2 : Hid (bytesOf (v.readS (cn : Int)) = PS 4) := by rw [hPS]; exact HS
        have HSE2 : Hid (∀ (k : Nat) (W : World), k < 4 → W.heap = w.heap → Calls Tryz.prog 150 #[.pointer (some ⟨q.d.p, 0, none⟩), .int .i64 ((bn : Int) + (k : Int))] W fun e w' => e = .returned (.string (SS k)) ∧ w' = W) := by rw [hSS]; exact HSE
        rw [h2] at t0
        clear h hok hc hz h1 h2 hent HEN hv hPS hSS HPA HP0 HPZ HSZ HS HSE p0 p1 hbo
        generalize (v.ent (cn : Int)).2 = y1 at t1 HFI
        generalize v.t.length = n at c4 t1'
        have k1 : (cn : Int) < (n : Int) := t1'
        have hbn : bn ≤ 196 := by omega
        go_enter Tryz.func107, Tryz.ntmps107
        go_wp2_with (go_at_call 85; refine HTH.out.mono ?_; rintro e w' ⟨rfl, hw⟩; have hw' := hw.symm; subst hw'; clear hw)
        go_loopw [6, 7] (fun u i wr => ∃ (k : Nat) (S0 : ByteArray), k ≤ 4 ∧ i = .int .i64 k ∧ u = .string S0 ∧ Hid (S0 = PS k) ∧ Below w.heap.size w wr ∧ wr.heap = w.heap) (fun _ i _ => 4 - (intOf i).toNat)
        case atStart => exact ⟨0, ⟨#[]⟩, Nat.zero_le _, rfl, rfl, HP02.out.symm, Below.refl _ _, rfl⟩
        case round =>
          obtain ⟨k, S0, hk4, rfl, rfl, HS0, hbel, hhp⟩ := hrel
          have d0 : wr.cell? ⟨q.p, 0, none⟩ = some (.pointer (some ⟨q.d.p, 0, none⟩)) := by rw [World.cell?_of_block (w := w) (by rw [hhp])]; exact c0
          have d4 : wr.cell? ⟨q.p, 4, none⟩ = some (.slice (some ⟨g, 0, none⟩) n cap) := by rw [World.cell?_of_block (w := w) (by rw [hhp])]; exact c4
          have dt : wr.cell? ⟨g, cn * 2 + 1, none⟩ = some (.int .i64 y1) := by rw [World.cell?_of_block (w := w) (by rw [hhp])]; exact t1
          have HHP : Hid (wr.drew.heap = w.heap) := hhp
          have HBL : Hid (Below w.heap.size w wr.drew) := hbel.drew
          by_cases hlt : k < 4
          · have HNX : Hid (S0 ++ SS k = PS (k + 1)) := by unfold Hid; rw [HS0.out]; exact HPA2.out k
            have hpz : S0.size ≤ 64 := by rw [HS0.out]; exact HPZ2.out k hk4
            have hsz := HSZ2.out k hlt
            have HSK := toHid (HSE2.out k)
            have kw : IntKind.i64.wrap ((bn : Int) + (k : Int)) = (bn : Int) + (k : Int) := IntWalk.i64_in _ (by omega)
            generalize SS k = S1 at HNX hsz HSK
            have hq7 : ¬ 9223372036854775807 < S0.size + S1.size := by omega
            clear hsz
            clear hhp hbel c0 c4 t1
            go_wp2
            go_region_held3 (fun W => W.heap = w.heap ∧ Below w.heap.size w W ∧ W.cell? ⟨q.p, 0, none⟩ = some (.pointer (some ⟨q.d.p, 0, none⟩)) ∧ W.cell? ⟨q.p, 4, none⟩ = some (.slice (some ⟨g, 0, none⟩) n cap) ∧ W.cell? ⟨g, cn * 2 + 1, none⟩ = some (.int .i64 y1))
              (first | (exact ⟨HHP.out, HBL.out, d0, d4, dt⟩) | assumption)
              (first
                | (go_at_call 92; refine (HFI.out _ (by assumption : _ ∧ Below w.heap.size w _ ∧ _).1).mono ?_; rintro e w' ⟨rfl, rfl⟩)
                | (go_at_call 150; refine (HSK.out _ hlt (by assumption : _ ∧ Below w.heap.size w _ ∧ _).1).mono ?_; rintro e w' ⟨rfl, rfl⟩))
            all_goals
              obtain ⟨hq1, hq2, _⟩ := (by assumption : _ ∧ Below w.heap.size w _ ∧ _)
              have HQ1 := toHid hq1
              have HQ2 := toHid hq2
              clear hq1 hq2
              go_wp2
              go_roundw
              case rel =>
                have fin : ∃ (k1 : Nat) (T0 : ByteArray), k1 ≤ 4 ∧ Value.int .i64 ((k : Int) + 1) = .int .i64 k1 ∧ Value.string (S0 ++ S1) = .string T0 ∧ Hid (T0 = PS k1) ∧ Below w.heap.size w _ ∧ _ := ⟨k + 1, S0 ++ S1, by omega, by go_num, rfl, HNX.out, HQ2.out, HQ1.out⟩
                first | exact fin | ((repeat apply Exists.intro); exact ⟨fin, rfl⟩)
              case measure => simp [intOf]; omega
          · have hk44 : k = 4 := by omega
            subst hk44
            have HB4 := toHid hbel
            clear hhp hbel
            go_wp2
            go_ret2
            exact ⟨by rw [HS2.out, HF.out, ← HS0.out]; rfl, HB4.out⟩
end Go.Proofs.YtjegaljdindfaabGreatDoor

namespace Go.Proofs.YtjegaljdindfaabGreatDoor
open Go.RowKit Go.Maps
attribute [local go_sem ↓] Go.wp_at_zero Go.wp_at_succ

theorem readF_pos (v : IV) (c : Int) : 0 ≤ v.readF c := by
  unfold IV.readF
  split
  · split <;> decide
  · decide

set_option maxRecDepth 100000 in
set_option maxHeartbeats 2000000 in
theorem asImage_any {B B' : Gd} {m : Nat} {x : Ih} {q : Qh} {v : IV} (w : World) (hi : IsImg B w x v) (hr : IsRim B' w q v) (hok : v.ok m) (hm : m ≤ 1000000000) :
    Calls Tryz.prog 46 #[.pointer (some ⟨x.p, 0, none⟩), .pointer (some ⟨q.p, 0, none⟩)] w fun e w' => e = .returned (.bool true) ∧ Below w.heap.size w w' := by
  obtain ⟨c0, c1, c2, c3, c4, _, _⟩ := hr.cells
  have hpl : q.p < w.heap.size := lt_of_some hr.blk
  have HHD : Hid (∀ W : World, Below w.heap.size w W → Calls Tryz.prog 33 #[.pointer (some ⟨x.p, 0, none⟩)] W fun e w' => e = .returned (.agg #[.int .i64 v.h.c, .int .i64 v.h.p, .int .i64 v.h.b]) ∧ Below w.heap.size w w') := fun W hb => (head_img W (hi.below hb)).mono fun e w' ⟨h1, h2⟩ => ⟨h1, hb.trans (h2.mono hb.size)⟩
  have HF1 : Hid (∀ W : World, Below w.heap.size w W → Calls Tryz.prog 108 #[.pointer (some ⟨x.p, 0, none⟩)] W fun e w' => e = .returned (.int .i64 (v.freeL.length : Int)) ∧ Below w.heap.size w w') := fun W hb => (Free_img W (hi.below hb) hok).mono fun e w' ⟨h1, h2⟩ => ⟨h1, hb.trans (h2.mono hb.size)⟩
  have HF2 : Hid (∀ W : World, Below w.heap.size w W → Calls Tryz.prog 109 #[.pointer (some ⟨q.p, 0, none⟩)] W fun e w' => e = .returned (.int .i64 (v.freeL.length : Int)) ∧ w' = W) := fun W hb => Free_rim W (hr.below hb) hok hm
  have HDV : Hid (∀ W : World, Below w.heap.size w W → Calls Tryz.prog 111 #[.pointer (some ⟨x.p, 0, none⟩)] W fun e w' => e = .returned (.pointer (some ⟨x.h.p, 0, none⟩)) ∧ w' = W) := fun W hb => dev_img W (hi.below hb)
  have HAD : Hid (∀ W : World, Below w.heap.size w W → Calls Tryz.prog 110 #[.pointer (some ⟨x.h.p, 0, none⟩), .pointer (some ⟨q.d.p, 0, none⟩)] W fun e w' => e = .returned (.bool true) ∧ Below w.heap.size w w') := fun W hb => (asDev_any W (hi.below hb).dev.toIsDev (hr.below hb).dev.toIsRef hok.d.sn).mono fun e w' ⟨h1, h2⟩ => ⟨h1, hb.trans (h2.mono hb.size)⟩
  have HKI : Hid (∀ (c : Int) (W : World), Below w.heap.size w W → Calls Tryz.prog 112 #[.pointer (some ⟨x.p, 0, none⟩), .int .i64 c] W fun e w' => e = .returned (.tuple #[.int .i64 (v.entE c).1, erV (v.entF c)]) ∧ Below w.heap.size w w') := fun c W hb => (kind_img c W (hi.below hb)).mono fun e w' ⟨h1, h2⟩ => ⟨h1, hb.trans (h2.mono hb.size)⟩
  have HRI : Hid (∀ (c : Int) (W : World), Below w.heap.size w W → Calls Tryz.prog 66 #[.pointer (some ⟨x.p, 0, none⟩), .int .i64 c] W fun e w' => e = .returned (.tuple #[.string (bytesOf (v.readS c)), erV (v.readF c)]) ∧ Below w.heap.size w w') := fun c W hb => (read_img c W (hi.below hb) hok).mono fun e w' ⟨h1, h2⟩ => ⟨h1, hb.trans (h2.mono hb.size)⟩
  have HRR : Hid (∀ (c : Int) (W : World), Below w.heap.size w W → Calls Tryz.prog 107 #[.pointer (some ⟨q.p, 0, none⟩), .int .i64 c] W fun e w' => e = .returned (.tuple #[.string (bytesOf (v.readS c)), .int .i64 (v.readF c)]) ∧ Below w.heap.size w w') := fun c W hb => (read_rim c W (hr.below hb) hok).mono fun e w' ⟨h1, h2⟩ => ⟨h1, hb.trans (h2.mono hb.size)⟩
  have HTH : Hid (∀ (c : Int) (W : World), Below w.heap.size w W → Calls Tryz.prog 85 #[.pointer (some ⟨q.p, 0, none⟩), .int .i64 c] W fun e w' => e = .returned (.bool (v.there c)) ∧ w' = W) := fun c W hb => there_rim c W (hr.below hb) hok.len
  have HSM : Hid (∀ (c : Int) (W : World), Calls Tryz.prog 11 #[erV (v.readF c), .int .i64 (v.readF c)] W fun e w' => e = .returned (.bool true) ∧ w' = W) := fun c W => errSame _ W (readF_pos v c)
  have HS1 : Hid (∀ W : World, Calls Tryz.prog 11 #[.iface 87 (.int .i64 1), .int .i64 1] W fun e w' => e = .returned (.bool true) ∧ w' = W) := fun W => errSame_err 1 W (by decide)
  have HEA : Hid (∀ cn : Nat, (cn : Int) < v.t.length → ∃ g cap, q.vt = .slice (some ⟨g, 0, none⟩) v.t.length cap ∧ g < w.heap.size ∧ w.cell? ⟨g, cn * 2, none⟩ = some (.int .i64 (v.ent (cn : Int)).1)) := fun cn hcn => by
    obtain ⟨g, cap, hv, hgl, t0, t1⟩ := hr.entAt (c := cn) (by omega)
    exact ⟨g, cap, hv, hgl, t0⟩
  have HEN : Hid (∀ c : Int, v.entE c = (if v.there c = true then v.ent c else (0, 0)) ∧ v.entF c = (if v.there c = true then 0 else 1)) := fun c => ⟨rfl, rfl⟩
  have hbo := HV.of_ok hok.h
  have hc0 : 0 ≤ v.h.c ∧ v.h.c ≤ 1000 := by omega
  clear hi hr hok hbo
  generalize v.freeL.length = fn at HF1 HF2
  generalize v.h.c = hc at c1 HHD hc0
  generalize v.h.p = hp at c2 HHD
  generalize v.h.b = hb at c3 HHD
  go_enter Tryz.func46, Tryz.ntmps46
  go_wp2
  go_region_held3 (fun W => Below w.heap.size w W ∧ W.cell? ⟨q.p, 0, none⟩ = some (.pointer (some ⟨q.d.p, 0, none⟩)) ∧ W.cell? ⟨q.p, 1, none⟩ = some (.int .i64 hc) ∧ W.cell? ⟨q.p, 2, none⟩ = some (.int .i64 hp) ∧ W.cell? ⟨q.p, 3, none⟩ = some (.int .i64 hb))
    (first | (exact ⟨Below.drew (Below.refl _ _), c0, c1, c2, c3⟩) | assumption | (exact ⟨by assumption, (Below.cell (by assumption) hpl).trans c0, (Below.cell (by assumption) hpl).trans c1, (Below.cell (by assumption) hpl).trans c2, (Below.cell (by assumption) hpl).trans c3⟩))
    (first
      | (go_at_call 33; refine (HHD.out _ ?_).mono ?_; (· exact (by assumption : Below w.heap.size w _ ∧ _).1); rintro e w' ⟨rfl, hb'⟩)
      | (go_at_call 108; refine (HF1.out _ ?_).mono ?_; (· exact (by assumption : Below w.heap.size w _ ∧ _).1); rintro e w' ⟨rfl, hb'⟩)
      | (go_at_call 109; refine (HF2.out _ ?_).mono ?_; (· exact (by assumption : Below w.heap.size w _ ∧ _).1); rintro e w' ⟨rfl, rfl⟩)
      | (go_at_call 111; refine (HDV.out _ ?_).mono ?_; (· exact (by assumption : Below w.heap.size w _ ∧ _).1); rintro e w' ⟨rfl, rfl⟩)
      | (go_at_call 110; refine (HAD.out _ ?_).mono ?_; (· exact (by assumption : Below w.heap.size w _ ∧ _).1); rintro e w' ⟨rfl, hb'⟩))
  have hst := (by assumption : Below w.heap.size w _ ∧ _).1
  go_wp2
  go_loopw [5] (fun i wr => ∃ k : Int, -1 ≤ k ∧ k ≤ hc + 1 ∧ i = .int .i64 k ∧ Below w.heap.size w wr) (fun i _ => (hc + 1 - intOf i).toNat)
  case atStart => exact ⟨-1, by omega, by omega, rfl, hst⟩
  case round =>
    obtain ⟨k, hk1, hk2, rfl, hbel⟩ := hrel
    have d1 : wr.cell? ⟨q.p, 1, none⟩ = some (.int .i64 hc) := (hbel.cell hpl).trans c1
    by_cases hlt : k ≤ hc
    · have HKc := toHid (HKI.out k)
      have HRIc := toHid (HRI.out k)
      have HRRc := toHid (HRR.out k)
      have HTHc := toHid (HTH.out k)
      have HSMc := toHid (HSM.out k)
      have HENc := toHid (HEN.out k)
      clear HKI HRI HRR HTH HSM HEN HHD HF1 HF2 HDV HAD hst
      cases hth : v.there k with
      | false =>
        have e1 : (v.entE k).1 = 0 := by rw [HENc.out.1, hth]; rfl
        have e2 : erV (v.entF k) = .iface 87 (.int .i64 1) := by rw [HENc.out.2, hth]; rfl
        rw [e1, e2] at HKc
        rw [hth] at HTHc
        clear HENc e1 e2 hth HEA c0 c1 c2 c3 c4
        generalize bytesOf (v.readS k) = S at HRIc HRRc
        generalize erV (v.readF k) = ef at HRIc HSMc
        generalize v.readF k = f at HRRc HSMc
        have HBL := toHid hbel
        clear hbel
        go_wp2_with fail
        refine (HKc.out _ HBL.out).mono ?_
        rintro e w1 ⟨rfl, hb1⟩
        have HB1 := toHid hb1
        clear hb1
        go_wp2_with fail
        refine (HRIc.out _ HB1.out).mono ?_
        rintro e w2 ⟨rfl, hb2⟩
        have HB2 := toHid hb2
        clear hb2
        go_wp2_with fail
        refine (HRRc.out _ HB2.out).mono ?_
        rintro e w3 ⟨rfl, hb3⟩
        have HB3 := toHid hb3
        clear hb3
        go_wp2_with fail
        refine (HSMc.out _).mono ?_
        rintro e w' ⟨rfl, hw⟩
        have hw' := hw.symm
        subst hw'
        clear hw
        go_wp2_with fail
        refine (HTHc.out _ HB3.out).mono ?_
        rintro e w' ⟨rfl, hw⟩
        have hw' := hw.symm
        subst hw'
        clear hw
        go_wp2_with fail
        refine (HS1.out _).mono ?_
        rintro e w' ⟨rfl, hw⟩
        have hw' := hw.symm
        subst hw'
        clear hw
        go_wp2
        go_roundw
        case rel =>
          have fin : ∃ k' : Int, -1 ≤ k' ∧ k' ≤ hc + 1 ∧ Value.int .i64 (k + 1) = .int .i64 k' ∧ Below w.heap.size w w3 := ⟨k + 1, by omega, by omega, rfl, HB3.out⟩
          first | exact fin | ((repeat apply Exists.intro); exact ⟨fin, rfl⟩)
        case measure => simp [intOf]; omega
      | true =>
        obtain ⟨t0', t1'⟩ := IV.there_of hth
        obtain ⟨cn, rfl⟩ : ∃ cn : Nat, k = (cn : Int) := ⟨k.toNat, by omega⟩
        obtain ⟨g, cap, hv, hgl, t0⟩ := HEA.out cn t1'
        rw [hv] at c4
        have e1 : (v.entE (cn : Int)).1 = (v.ent (cn : Int)).1 := by rw [HENc.out.1, hth]; rfl
        have e2 : erV (v.entF (cn : Int)) = .nilIface := by rw [HENc.out.2, hth]; rfl
        rw [e1, e2] at HKc
        rw [hth] at HTHc
        clear HENc e1 e2 hth HEA c0 c1 c2 c3 HS1 hv
        generalize bytesOf (v.readS (cn : Int)) = S at HRIc HRRc
        generalize erV (v.readF (cn : Int)) = ef at HRIc HSMc
        generalize v.readF (cn : Int) = f at HRRc HSMc
        generalize (v.ent (cn : Int)).1 = y0 at HKc t0
        generalize v.t.length = n at c4 t1'
        have HBL := toHid hbel
        clear hbel
        go_wp2_with fail
        refine (HKc.out _ HBL.out).mono ?_
        rintro e w1 ⟨rfl, hb1⟩
        have HB1 := toHid hb1
        clear hb1
        go_wp2_with fail
        refine (HRIc.out _ HB1.out).mono ?_
        rintro e w2 ⟨rfl, hb2⟩
        have HB2 := toHid hb2
        clear hb2
        go_wp2_with fail
        refine (HRRc.out _ HB2.out).mono ?_
        rintro e w3 ⟨rfl, hb3⟩
        have HB3 := toHid hb3
        clear hb3
        go_wp2_with fail
        refine (HSMc.out _).mono ?_
        rintro e w' ⟨rfl, hw⟩
        have hw' := hw.symm
        subst hw'
        clear hw
        go_wp2_with fail
        refine (HTHc.out _ HB3.out).mono ?_
        rintro e w' ⟨rfl, hw⟩
        have hw' := hw.symm
        subst hw'
        clear hw
        have d4 : w3.cell? ⟨q.p, 4, none⟩ = some (.slice (some ⟨g, 0, none⟩) n cap) := (HB3.out.cell hpl).trans c4
        have dt : w3.cell? ⟨g, cn * 2, none⟩ = some (.int .i64 y0) := (HB3.out.cell hgl).trans t0
        go_wp2
        go_roundw
        case rel =>
          have fin : ∃ k' : Int, -1 ≤ k' ∧ k' ≤ hc + 1 ∧ Value.int .i64 ((cn : Int) + 1) = .int .i64 k' ∧ Below w.heap.size w w3 := ⟨(cn : Int) + 1, by omega, by omega, rfl, HB3.out⟩
          first | exact fin | ((repeat apply Exists.intro); exact ⟨fin, rfl⟩)
        case measure => simp [intOf]; omega
    · go_wp2
      go_ret
      exact ⟨rfl, hbel⟩
end Go.Proofs.YtjegaljdindfaabGreatDoor
