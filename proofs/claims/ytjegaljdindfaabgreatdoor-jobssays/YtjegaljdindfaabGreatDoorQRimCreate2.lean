/-
The document's own image, made anew of a head that may be.
-/
import Derived.Test.YtjegaljdindfaabGreatDoorQImgCreate
import Derived.Test.YtjegaljdindfaabGreatDoorQRimFill
import Derived.Test.YtjegaljdindfaabGreatDoorQRimCreate
namespace Go.Proofs.YtjegaljdindfaabGreatDoor
open Go.RowKit Go.Maps
attribute [local go_sem ↓] Go.wp_at_zero Go.wp_at_succ

theorem zeros_snoc (k : Nat) : entV (List.replicate (k + 1) (0, 0)) = entV (List.replicate k (0, 0)) ++ [.int .i64 0, .int .i64 0] := by
  rw [List.replicate_succ']; simp [entV]

/- A table that grows behind the image's own field. -/
structure Grows (w : World) (NI : Nat) (ptr : Value) (c p b : Int) (k : Nat) (v : Value) (wr : World) : Prop where
  blk : wr.heap[NI]? = some (.cells #[ptr, .int .i64 c, .int .i64 p, .int .i64 b, v, .slice none 0 0] 90 (0, 0))
  own : wr.ownsRow (NI + 1) 142 2 v k (entV (List.replicate k (0, 0)))
  bel : Below NI w wr

theorem Grows.push {w wr w3 : World} {NI : Nat} {ptr : Value} {c p b : Int} {k : Nat} {v : Value} (h : Grows w NI ptr c p b k v wr) (C : Obj) (g cap : Nat)
    (hown : w3.ownsRow (NI + 1) 142 2 (.slice (some ⟨g, 0, none⟩) (k + 1) cap) (k + 1) (entV (List.replicate k (0, 0)) ++ [.int .i64 0, .int .i64 0])) (hg : (wr.alloc C).grownBy w3 v.ownBlock) :
    Grows w NI ptr c p b (k + 1) (.slice (some ⟨g, 0, none⟩) (k + 1) cap) (w3.setCell ⟨NI, 4, none⟩ (.slice (some ⟨g, 0, none⟩) (k + 1) cap)) ∧ w3.cell? ⟨NI, 4, none⟩ = some v ∧ w3.frozen? ⟨NI, 4, none⟩ = false := by
  have hNl := lt_of_some h.blk
  have hne : some NI ≠ v.ownBlock := fun e => by have := (h.own.lt NI e.symm).1; omega
  have hb3 : w3.heap[NI]? = _ := (hg.block NI (by simp; omega) hne).trans ((Below.heap_alloc _ _ _ hNl).trans h.blk)
  have hbel : Below NI w w3 := (h.bel.alloc (by have := h.bel.size; omega) C).grown hg (by simp; omega) (fun r e => by have := (h.own.lt r e).1; omega)
  refine ⟨⟨?_, ?_, hbel.setCell (Nat.le_refl _) _⟩, ?_, frozen_of_row _ _ _ _ _ hb3⟩
  · rw [heap_setCell_same _ _ _ _ _ _ hb3]; rfl
  · rw [zeros_snoc]
    refine ownsRow_keep hown fun r e => heap_setCell_other _ _ _ _ (fun e2 => ?_)
    have := (hown.lt r e).1
    have e3 : r = NI := e2
    omega
  · rw [cell_of_row _ _ _ _ _ _ hb3]; rfl

theorem Grows.rim {B : Gd} {NI nc : Nat} {w wr : World} {q : Rh} {d : DV} {p b : Int} {v : Value} (hd : IsRefG B w q d) (hB : B.top ≤ w.heap.size) (hN : w.heap.size ≤ NI) (h : Grows w NI (.pointer (some ⟨q.p, 0, none⟩)) (nc : Int) p b nc v wr) :
    IsRim B wr ⟨NI, q, v, .slice none 0 0⟩ ⟨d, ⟨(nc : Int), p, b⟩, List.replicate nc (0, 0), []⟩ := by
  refine ⟨h.blk, B.fresh hB hN, hd.keep fun k hk => h.bel.block k (Nat.lt_of_lt_of_le (hd.lt k hk).2 hN), ?_, World.ownsRow_nil _ _ _ _, (fun k e => by cases e), (fun k e => B.fresh hB (by have := (h.own.lt k e).1; omega)), fun k e => by cases e⟩
  show wr.ownsRow 0 _ 2 v (List.replicate nc (0, 0)).length _
  rw [List.length_replicate]
  exact ownsRow_base h.own (Nat.zero_le _)

set_option maxRecDepth 100000 in
set_option maxHeartbeats 4000000 in
theorem created_good {B : Gd} {m : Nat} {q : Rh} {d : DV} (nc : Nat) (p b : Int) (w : World) (hd : IsRefG B w q d) (hf : d.fine d.fl.length m) (hm : m + 20 < 1000000000) (hB : B.top ≤ w.heap.size) (hk : HV.ok ⟨(nc : Int), p, b⟩ = true) (hn : needN ⟨(nc : Int), p, b⟩ ≤ d.fl.length) :
    Calls Tryz.prog 27 #[.pointer (some ⟨q.p, 0, none⟩), .agg #[.int .i64 (nc : Int), .int .i64 p, .int .i64 b]] w fun e w' =>
      ∃ r : Qh, r.d.p = q.p ∧ (∀ k, r.vt.ownBlock = some k → w.heap.size ≤ k) ∧ KeptR B w w' ∧ ((crF d ⟨(nc : Int), p, b⟩ = 0 ∧ e = .returned (.tuple #[.pointer (some ⟨r.p, 0, none⟩), .int .i64 0]) ∧ IsRim B w' r (crV d ⟨(nc : Int), p, b⟩)) ∨
        (crF d ⟨(nc : Int), p, b⟩ ≠ 0 ∧ e = .returned (.tuple #[.pointer none, .int .i64 (crF d ⟨(nc : Int), p, b⟩)]) ∧ ∃ dd : DV, IsRefG B w' r.d dd)) := by
  obtain ⟨c0, _, _, _, _, _⟩ := hd.cells
  have lq : q.p < w.heap.size := (hd.lt q.p (.inl rfl)).2
  have HCH := toHid (headFault_any (nc : Int) p b)
  have e1 : HV.fault ⟨(nc : Int), p, b⟩ = 0 := by unfold HV.fault; rw [hk]; rfl
  rw [e1] at HCH
  have HND := toHid (fun W => refNeed_any (nc : Int) p b W hk)
  have hbo := HV.of_ok hk
  simp only at hbo
  have HR : Hid (∀ W : World, Calls Tryz.prog 78 #[.int .i64 (nc : Int)] W fun e w' => e = .returned (.int .i64 (rowsN nc : Int)) ∧ w' = W) := fun W => refRows_any nc W (by omega)
  have hrn : rowsN nc ≤ 5 := by unfold rowsN; omega
  have hbeg : rowsN nc < d.fl.length := (begin_le hk hn).1
  obtain ⟨i0, hi0, hz0, hz1, hz2⟩ := info_parts info_ent
  have HTL : Hid ((crT ⟨(nc : Int), p, b⟩).length = nc) := by unfold Hid crT; rw [List.length_replicate]; rfl
  have HTT : Hid (crT ⟨(nc : Int), p, b⟩ = List.replicate nc (0, 0)) := rfl
  have HRO : Hid (∀ (k : Nat) (W : World) (g cap : Nat) (B0 : Nat), k < rowsN nc → W.ownsRow B0 142 2 (.slice (some ⟨g, 0, none⟩) nc cap) nc (entV (crT ⟨(nc : Int), p, b⟩)) → Calls Tryz.prog 79 #[.slice (some ⟨g, 0, none⟩) nc cap, .int .i64 (k : Int)] W fun e w' =>
      e = .returned (.tuple #[.string (rowS (crT ⟨(nc : Int), p, b⟩) (k : Int)), .int .i64 0]) ∧ Below W.heap.size W w') := fun k W g cap B0 hkn ho => by
    have := rowOf_any (some ⟨g, 0, none⟩) nc cap (crT ⟨(nc : Int), p, b⟩) (k : Int) W (ents_of_owns ho _ (by rw [List.take_of_length_le (by rw [entV_len, HTL.out]; exact Nat.le_refl _)]) (Nat.le_refl _) HTL.out) (by omega)
    rw [(crT_row ⟨(nc : Int), p, b⟩ hk k hkn).1] at this; exact this
  have HWR : Hid (∀ (k : Nat) (W : World) (r : Qh), k < rowsN nc → B.top ≤ W.heap.size → (d.rowsP (crT ⟨(nc : Int), p, b⟩) k).2 = 0 → IsRim B W r ⟨(d.rowsP (crT ⟨(nc : Int), p, b⟩) k).1, ⟨(nc : Int), p, b⟩, crT ⟨(nc : Int), p, b⟩, []⟩ → r.d.p = q.p →
      Calls Tryz.prog 80 #[.pointer (some ⟨q.p, 0, none⟩), .int .i64 (1 + (k : Int)), .string (rowS (crT ⟨(nc : Int), p, b⟩) (k : Int))] W fun e w' =>
      ∃ r2 : Qh, e = .returned (.int .i64 (d.rowsP (crT ⟨(nc : Int), p, b⟩) (k + 1)).2) ∧ Led B W r r2 ⟨(d.rowsP (crT ⟨(nc : Int), p, b⟩) (k + 1)).1, ⟨(nc : Int), p, b⟩, crT ⟨(nc : Int), p, b⟩, []⟩ w' ∧ r2.vt = r.vt) := fun k W r hkn hB0 h0 hi hrp => by
    have hfk := crD_fine hf hk hn (by omega) k (Nat.le_of_lt hkn)
    obtain ⟨hr1, hr2⟩ := crT_row ⟨(nc : Int), p, b⟩ hk k hkn
    have h1 := rWrite_any (1 + k) (rowS (crT ⟨(nc : Int), p, b⟩) (k : Int)) W hi.dev hfk (by omega) hB0 hr2 (by omega)
    rw [show (((1 + k : Nat) : Int)) = 1 + (k : Int) by omega, hrp] at h1
    refine h1.mono ?_
    rintro e w' ⟨q2, rfl, hp2, hd2, hk2, hv2⟩
    refine ⟨{ r with d := q2 }, by rw [DV.rowsP_yes h0], ?_, rfl⟩
    rw [DV.rowsP_yes h0]
    exact Led.dev hi hd2 (hp2.trans hrp.symm) hk2 hv2
  have HEN : Hid (∀ k, (d.rowsP (crT ⟨(nc : Int), p, b⟩) k).2 ≠ 0 → k ≤ rowsN nc → crD d ⟨(nc : Int), p, b⟩ = d.rowsP (crT ⟨(nc : Int), p, b⟩) k) := fun k hk0 hkn => DV.rowsP_no hk0 _ hkn
  have HFF : Hid (∀ k, (d.rowsP (crT ⟨(nc : Int), p, b⟩) k).2 = 0 ∨ 0 < (d.rowsP (crT ⟨(nc : Int), p, b⟩) k).2) := fun k => by
    induction k with
    | zero => exact .inl rfl
    | succ k ih =>
      rcases ih with h | h
      · rw [DV.rowsP_yes h]
        rcases DV.putF_cases (d.rowsP (crT ⟨(nc : Int), p, b⟩) k).1 with h2 | h2
        · exact .inl h2.1
        · exact .inr (by rw [h2.1]; show (0 : Int) < 7; decide)
      · right
        rw [DV.rowsP_no (k := k) (by omega) (k + 1) (by omega)]; exact h
  have HEQ : Hid (d.rowsP (crT ⟨(nc : Int), p, b⟩) (rowsN nc) = crD d ⟨(nc : Int), p, b⟩) := rfl
  have H00 : Hid (d.rowsP (crT ⟨(nc : Int), p, b⟩) 0 = (d, 0)) := rfl
  have HF := toHid (crF_of hk hn)
  obtain ⟨X, hX⟩ : ∃ X : ByteArray, X = sealS [83, 89, (nc : Int), p, b + 1] := ⟨_, rfl⟩
  have hX16 : X.size = 16 := by rw [hX]; exact HV.bytes_size ⟨(nc : Int), p, b⟩
  have HHS : Hid (∀ W : World, Calls Tryz.prog 82 #[.agg #[.int .i64 (nc : Int), .int .i64 p, .int .i64 b]] W fun e w' => e = .returned (.string X) ∧ Below W.heap.size W w') := fun W => by rw [hX]; exact headSector_any (nc : Int) p b W hk
  have h0ok := crV0_ok hf hk hn (by omega)
  have h0fl := h0ok.d.flushed
  have h0n : 0 < (crV0 d ⟨(nc : Int), p, b⟩).d.fl.length := h0ok.d.ok.n1
  have HV : Hid (crV d ⟨(nc : Int), p, b⟩ = if (crV0 d ⟨(nc : Int), p, b⟩).flush.d.putF = 0 then { (({ (crV0 d ⟨(nc : Int), p, b⟩).flush with d := (crV0 d ⟨(nc : Int), p, b⟩).flush.d.put 0 X.data.toList } : IV).flush) with h := ⟨(nc : Int), p, b⟩ } else { (crV0 d ⟨(nc : Int), p, b⟩).flush with d := (crV0 d ⟨(nc : Int), p, b⟩).flush.d.put 0 X.data.toList }) := by rw [hX]; rfl
  have HP0 : Hid ((crV0 d ⟨(nc : Int), p, b⟩).flush.d.putF = 0 ∨ (crV0 d ⟨(nc : Int), p, b⟩).flush.d.putF = 7) := by
    rcases DV.putF_cases (crV0 d ⟨(nc : Int), p, b⟩).flush.d with h7 | h7
    · exact .inl h7.1
    · exact .inr h7.1
  have HFL1 : Hid (∀ (W : World) (r : Qh), IsRim B W r (crV0 d ⟨(nc : Int), p, b⟩) → r.d.p = q.p → Calls Tryz.prog 81 #[.pointer (some ⟨q.p, 0, none⟩)] W fun e w' => ∃ r2 : Qh, e = .returned (.tuple #[]) ∧ Led B W r r2 (crV0 d ⟨(nc : Int), p, b⟩).flush w' ∧ r2.vt = r.vt) := fun W r hi hrp => by
    rw [← hrp]
    refine (refFlush_any W hi.dev.toIsRef h0ok.d.ok h0ok.d.sn).mono ?_
    rintro e w' ⟨rfl, hd2, hk2⟩
    exact ⟨_, rfl, Led.dev hi (hi.dev.nilled hd2) rfl hk2 (fun r e => by cases e), rfl⟩
  have HW2 : Hid (∀ (W : World) (r : Qh), IsRim B W r (crV0 d ⟨(nc : Int), p, b⟩).flush → B.top ≤ W.heap.size → r.d.p = q.p → Calls Tryz.prog 80 #[.pointer (some ⟨q.p, 0, none⟩), .int .i64 0, .string X] W fun e w' =>
      ∃ r2 : Qh, e = .returned (.int .i64 (crV0 d ⟨(nc : Int), p, b⟩).flush.d.putF) ∧ Led B W r r2 { (crV0 d ⟨(nc : Int), p, b⟩).flush with d := (crV0 d ⟨(nc : Int), p, b⟩).flush.d.put 0 X.data.toList } w' ∧ r2.vt = r.vt) := fun W r hi hb hrp => by
    rw [← hrp]
    refine (rWrite_any 0 X W hi.dev h0fl (by omega) hb hX16 h0n).mono ?_
    rintro e w' ⟨q2, rfl, hp2, hd2, hk2, hv2⟩
    exact ⟨{ r with d := q2 }, rfl, Led.dev hi hd2 hp2 hk2 hv2, rfl⟩
  have HFL2 : Hid (∀ (W : World) (r : Qh), IsRim B W r { (crV0 d ⟨(nc : Int), p, b⟩).flush with d := (crV0 d ⟨(nc : Int), p, b⟩).flush.d.put 0 X.data.toList } → r.d.p = q.p → Calls Tryz.prog 81 #[.pointer (some ⟨q.p, 0, none⟩)] W fun e w' => ∃ r2 : Qh, e = .returned (.tuple #[]) ∧ Led B W r r2 { (({ (crV0 d ⟨(nc : Int), p, b⟩).flush with d := (crV0 d ⟨(nc : Int), p, b⟩).flush.d.put 0 X.data.toList } : IV).flush) with h := ⟨(nc : Int), p, b⟩ } w' ∧ r2.vt = r.vt) := fun W r hi hrp => by
    rw [← hrp]
    have hfp := h0fl.put (i := 0) (s := X.data.toList) h0n (by simpa using hX16) (by omega)
    refine (refFlush_any W hi.dev.toIsRef hfp.ok hfp.sn).mono ?_
    rintro e w' ⟨rfl, hd2, hk2⟩
    exact ⟨_, rfl, Led.dev hi (hi.dev.nilled hd2) rfl hk2 (fun r e => by cases e), rfl⟩
  have HDK : Hid (∀ W : World, Below w.heap.size w W → IsRefG B W q d) := fun W hb => hd.keep fun k hk => hb.block k (hd.lt k hk).2
  have hlen : needN ⟨(nc : Int), p, b⟩ ≤ d.fl.length := hn
  generalize needN ⟨(nc : Int), p, b⟩ = nn at HND hlen
  have HV0 : Hid (∀ y : DV, y = (crD d ⟨(nc : Int), p, b⟩).1 → (⟨y, ⟨(nc : Int), p, b⟩, crT ⟨(nc : Int), p, b⟩, []⟩ : IV) = crV0 d ⟨(nc : Int), p, b⟩) := fun y hy => by rw [hy]; rfl
  clear hn hk e1 hf hbeg hd h0ok h0fl h0n hX hX16
  generalize crF d ⟨(nc : Int), p, b⟩ = F at HF ⊢
  generalize crV d ⟨(nc : Int), p, b⟩ = V at HV ⊢
  generalize (crV0 d ⟨(nc : Int), p, b⟩).flush.d.putF = pf at HF HV HP0 HW2
  generalize d.rowsP (crT ⟨(nc : Int), p, b⟩) = RP at HWR HEN HEQ H00 HFF
  generalize crD d ⟨(nc : Int), p, b⟩ = CD at HEN HEQ HF HV0
  generalize crV0 d ⟨(nc : Int), p, b⟩ = V0 at HV HV0 HFL1 HFL2 HW2
  obtain ⟨T, hT⟩ : ∃ T, T = crT ⟨(nc : Int), p, b⟩ := ⟨_, rfl⟩
  rw [← hT] at HRO HWR HTL HTT HV0
  clear hT
  generalize hrr : rowsN nc = rn at HR hrn HWR HEN HEQ HRO
  clear hrr
  have HB1 : Hid (Below w.heap.size w (w.alloc (.cells #[.int .i64 (nc : Int), .int .i64 p, .int .i64 b] 60))) := (Below.refl _ _).alloc (Nat.le_refl _) _
  have HX1 : Hid ((w.alloc (.cells #[.int .i64 (nc : Int), .int .i64 p, .int .i64 b] 60)).heap[w.heap.size]? = some (.cells #[.int .i64 (nc : Int), .int .i64 p, .int .i64 b] 60 (0, 0))) := heap_alloc_new _ _
  go_enter Tryz.func27, Tryz.ntmps27
  go_wp2
  generalize w.alloc (.cells #[.int .i64 (nc : Int), .int .i64 p, .int .i64 b] 60) = wA at HB1 HX1 ⊢
  have hNl : w.heap.size < wA.heap.size := lt_of_some HX1.out
  have hql : q.p < wA.heap.size := by omega
  have y0 : wA.cell? ⟨w.heap.size, 0, none⟩ = some (.int .i64 (nc : Int)) := by rw [cell_of_row _ _ _ _ _ _ HX1.out]; rfl
  have y1 : wA.cell? ⟨w.heap.size, 1, none⟩ = some (.int .i64 p) := by rw [cell_of_row _ _ _ _ _ _ HX1.out]; rfl
  have y2 : wA.cell? ⟨w.heap.size, 2, none⟩ = some (.int .i64 b) := by rw [cell_of_row _ _ _ _ _ _ HX1.out]; rfl
  have y3 : wA.cell? ⟨q.p, 0, none⟩ = some (.slice (some ⟨q.bf, 0, none⟩) d.fl.length q.cf) := (HB1.out.cell (p := ⟨q.p, 0, none⟩) lq).trans c0
  go_region_held3 (fun W => Below wA.heap.size wA W ∧ W.cell? ⟨w.heap.size, 0, none⟩ = some (.int .i64 (nc : Int)) ∧ W.cell? ⟨w.heap.size, 1, none⟩ = some (.int .i64 p) ∧ W.cell? ⟨w.heap.size, 2, none⟩ = some (.int .i64 b) ∧ W.cell? ⟨q.p, 0, none⟩ = some (.slice (some ⟨q.bf, 0, none⟩) d.fl.length q.cf))
    (first | (exact ⟨Below.drew (Below.refl _ _), y0, y1, y2, y3⟩) | assumption | (exact ⟨by assumption, (Below.cell (by assumption) hNl).trans y0, (Below.cell (by assumption) hNl).trans y1, (Below.cell (by assumption) hNl).trans y2, (Below.cell (by assumption) hql).trans y3⟩))
    (first
      | (go_at_call 76; refine (HCH.out _).mono ?_; rintro e wN ⟨rfl, hb'⟩; have hB' := Below.trans (by assumption : Below wA.heap.size wA _ ∧ _).1 (hb'.mono (by assumption : Below wA.heap.size wA _ ∧ _).1.size))
      | (go_at_call 77; refine (HND.out _).mono ?_; rintro e wM ⟨rfl, hb''⟩; have hB'' := Below.trans (by assumption : Below wA.heap.size wA _ ∧ _).1 (hb''.mono (by assumption : Below wA.heap.size wA _ ∧ _).1.size)))
  all_goals
    obtain ⟨hs0, z0, z1, z2, z3⟩ := (by assumption : Below wA.heap.size wA wM ∧ _)
    have HBW := toHid (HB1.out.trans (hs0.mono HB1.out.size))
    have HX2 : Hid (wM.heap[w.heap.size]? = some (.cells #[.int .i64 (nc : Int), .int .i64 p, .int .i64 b] 60 (0, 0))) := by unfold Hid; rw [hs0.block _ hNl]; exact HX1.out
    have hMl : w.heap.size < wM.heap.size := lt_of_some HX2.out
    have g1 : decide ((d.fl.length : Int) < (nn : Int)) = false := decide_eq_false (by omega)
    have g2 : ¬ d.fl.length < nn := by omega
    clear hs0 y0 y1 y2 y3 hNl hql HX1 HB1 HCH HND
    have HGR : Hid (Grows wM wM.heap.size (.pointer (some ⟨q.p, 0, none⟩)) (nc : Int) p b 0 (.slice none 0 0) (wM.alloc (.cells #[.pointer (some ⟨q.p, 0, none⟩), .int .i64 (nc : Int), .int .i64 p, .int .i64 b, .slice none 0 0, .slice none 0 0] 90))) := ⟨heap_alloc_new _ _, World.ownsRow_nil _ _ _ _, (Below.refl _ _).alloc (Nat.le_refl _) _⟩
    go_wp2
    generalize decide (d.fl.length < nn) = db
    clear g1 g2 z3
    go_loopw [7] (fun i wr => ∃ (k : Nat) (v : Value), k ≤ nc ∧ i = .int .i64 k ∧ Grows wM wM.heap.size (.pointer (some ⟨q.p, 0, none⟩)) (nc : Int) p b k v wr) (fun i _ => nc - (intOf i).toNat)
    case atStart => exact ⟨0, .slice none 0 0, Nat.zero_le _, rfl, HGR.out⟩
    case round =>
      obtain ⟨k, v, hkn, rfl, hg⟩ := hrel
      have x0 : wr.cell? ⟨w.heap.size, 0, none⟩ = some (.int .i64 (nc : Int)) := (hg.bel.cell (p := ⟨w.heap.size, 0, none⟩) hMl).trans z0
      have x1 : wr.cell? ⟨w.heap.size, 1, none⟩ = some (.int .i64 p) := (hg.bel.cell (p := ⟨w.heap.size, 1, none⟩) hMl).trans z1
      have x2 : wr.cell? ⟨w.heap.size, 2, none⟩ = some (.int .i64 b) := (hg.bel.cell (p := ⟨w.heap.size, 2, none⟩) hMl).trans z2
      have c4 : wr.cell? ⟨wM.heap.size, 4, none⟩ = some v := by rw [cell_of_row _ _ _ _ _ _ hg.blk]; rfl
      have hNI : wM.heap.size < wr.heap.size := lt_of_some hg.blk
      obtain ⟨a, cap, hv⟩ := ownsRow_shape hg.own
      by_cases hlt : k < nc
      · subst hv
        have HG := toHid hg
        have HO2 : Hid ((wr.alloc (.cells #[.int .i64 0, .int .i64 0] 142)).ownsRow (wM.heap.size + 1) 142 2 (.slice a k cap) k (entV (List.replicate k (0, 0)))) := hg.own.alloc _
        have HSA : Hid (wM.heap.size + 1 ≤ (wr.alloc (.cells #[.int .i64 0, .int .i64 0] 142)).heap.size) := by unfold Hid; simp; omega
        have HS2 : Hid ((wr.alloc (.cells #[.int .i64 0, .int .i64 0] 142)).heap.size = wr.heap.size + 1) := by unfold Hid; simp
        clear hg
        go_wp2_with (at_builtin; refine wpList_append_lies _ (by rfl) _ _ 88 (by rfl) (wM.heap.size + 1) 142 i0 (.agg #[.int .i64 0, .int .i64 0]) 2 16 Tryz.underlying88 hi0 hz0 hz1 hz2 rfl (by decide) (.slice a k cap) k (entV (List.replicate k (0, 0))) (by rfl) HO2.out ⟨wr.heap.size, 0, none⟩ 1 1 [.int .i64 0, .int .i64 0] (by rfl) (by rfl) (two_news _ _ _ _) (fun u hu => by simp at hu; subst hu; rfl) (by decide) (by unfold maxLen; omega) (by omega) HSA.out (wr.heap.size + 1) HS2.out ?_; intro g3 cap3 w3 hown hgrow hat hlt3
                     have hpu := HG.out.push _ g3 cap3 hown hgrow
                     have d4 := hpu.2.1
                     have f4 := hpu.2.2
                     have HG3 : Hid (Grows wM wM.heap.size (.pointer (some ⟨q.p, 0, none⟩)) (nc : Int) p b (k + 1) (.slice (some ⟨g3, 0, none⟩) (k + 1) cap3) (w3.setCell ⟨wM.heap.size, 4, none⟩ (.slice (some ⟨g3, 0, none⟩) (k + 1) cap3))) := hpu.1
                     clear hpu hown hgrow hat hlt3)
        go_roundw
        case rel =>
          have fin : ∃ (k1 : Nat) (v1 : Value), k1 ≤ nc ∧ Value.int .i64 ((k : Int) + 1) = .int .i64 k1 ∧ Grows wM wM.heap.size (.pointer (some ⟨q.p, 0, none⟩)) (nc : Int) p b k1 v1 (w3.setCell ⟨wM.heap.size, 4, none⟩ (.slice (some ⟨g3, 0, none⟩) (k + 1) cap3)) := ⟨k + 1, _, by omega, by go_num, HG3.out⟩
          first | exact fin | ((repeat apply Exists.intro); exact ⟨fin, rfl⟩)
        case measure => simp [intOf]; omega
      · have hke : k = nc := by omega
        subst hke
        have hri := hg.rim (HDK.out wM HBW.out) (Nat.le_trans hB HBW.out.size) (Nat.le_refl _)
        rw [← HTT.out] at hri
        obtain ⟨g, capg, hvg, hgB, _⟩ := hg.own.form (by omega)
        have HBG := toHid (HBW.out.trans (hg.bel.mono HBW.out.size))
        have HRI := toHid hri
        have HX3 : Hid (wr.heap[w.heap.size]? = some (.cells #[.int .i64 (k : Int), .int .i64 p, .int .i64 b] 60 (0, 0))) := by unfold Hid; rw [hg.bel.block _ hMl]; exact HX2.out
        have HGW : Hid (w.heap.size ≤ g) := by unfold Hid; omega
        obtain ⟨NI, hNI2⟩ : ∃ NI, NI = wM.heap.size := ⟨_, rfl⟩
        have HNI : Hid (w.heap.size < NI) := by unfold Hid; rw [hNI2]; exact hMl
        rw [hvg] at HRI
        rw [← hNI2] at HRI
        clear hri hg hv hvg hgB c4 x1 x2 hNI z0 z1 z2 HX2
        go_wp2
        clear x0
        rw [← hNI2]
        clear hNI2
        obtain ⟨wS, hwS⟩ : ∃ wS, wS = wr := ⟨wr, rfl⟩
        have HLS : Hid (Led B wS ⟨NI, q, .slice (some ⟨g, 0, none⟩) k capg, .slice none 0 0⟩ ⟨NI, q, .slice (some ⟨g, 0, none⟩) k capg, .slice none 0 0⟩ ⟨(RP 0).1, ⟨(k : Int), p, b⟩, T, []⟩ wr) := by rw [hwS, H00.out]; exact Led.refl HRI.out
        have HBS : Hid (Below w.heap.size w wS) := by rw [hwS]; exact HBG
        have HXS : Hid (wS.heap[w.heap.size]? = some (.cells #[.int .i64 (k : Int), .int .i64 p, .int .i64 b] 60 (0, 0))) := by rw [hwS]; exact HX3
        clear hwS HBG HX3 HRI
        go_loopw [8] (fun i wr => ∃ (j : Nat) (r : Qh), j ≤ rn ∧ i = .int .i64 j ∧ (RP j).2 = 0 ∧ r.vt = .slice (some ⟨g, 0, none⟩) k capg ∧ Led B wS ⟨NI, q, .slice (some ⟨g, 0, none⟩) k capg, .slice none 0 0⟩ r ⟨(RP j).1, ⟨(k : Int), p, b⟩, T, []⟩ wr) (fun i _ => rn - (intOf i).toNat)
        case atStart => exact ⟨0, _, Nat.zero_le _, rfl, by rw [H00.out], rfl, HLS.out⟩
        case round =>
          obtain ⟨wq, ewq⟩ : ∃ wq, wq = wr := ⟨wr, rfl⟩
          subst ewq
          obtain ⟨j, r, hjn, rfl, hf0, hrt, hl⟩ := hrel
          have hx4 := hl.kept.box HXS.out (by decide)
          have x0 : wq.cell? ⟨w.heap.size, 0, none⟩ = some (.int .i64 (k : Int)) := by rw [cell_of_row _ _ _ _ _ _ hx4]; rfl
          have x1 : wq.cell? ⟨w.heap.size, 1, none⟩ = some (.int .i64 p) := by rw [cell_of_row _ _ _ _ _ _ hx4]; rfl
          have x2 : wq.cell? ⟨w.heap.size, 2, none⟩ = some (.int .i64 b) := by rw [cell_of_row _ _ _ _ _ _ hx4]; rfl
          have hrp : r.p = NI := hl.p
          have c4 : wq.cell? ⟨NI, 4, none⟩ = some (.slice (some ⟨g, 0, none⟩) k capg) := by have := hl.rim.cells.2.2.2.2.1; rw [hrp, hrt] at this; exact this
          have HL := toHid hl
          have HRT := toHid hrt
          by_cases hlt2 : j < rn
          · have how : wq.ownsRow 0 142 2 (.slice (some ⟨g, 0, none⟩) k capg) k (entV T) := by have := hl.rim.own; rw [hrt, show (⟨(RP j).1, ⟨(k : Int), p, b⟩, T, []⟩ : IV).t.length = k from HTL.out] at this; exact this
            have HR1 := toHid (HRO.out j wq g capg 0 hlt2 how)
            have HWJ : Hid (∀ W : World, Below wq.heap.size wq W → Calls Tryz.prog 80 #[.pointer (some ⟨q.p, 0, none⟩), .int .i64 (1 + (j : Int)), .string (rowS T (j : Int))] W fun e w' =>
                ∃ r2 : Qh, e = .returned (.int .i64 (RP (j + 1)).2) ∧ Led B W r r2 ⟨(RP (j + 1)).1, ⟨(k : Int), p, b⟩, T, []⟩ w' ∧ r2.vt = r.vt) := fun W hb => HWR.out j W r hlt2 (Nat.le_trans hB (Nat.le_trans HBS.out.size (Nat.le_trans hl.kept.size hb.size))) hf0 (hl.rim.below hb) hl.dp
            clear hl hrt hx4 hrp how x1 x2 hf0 HWR HRO
            have hj1 : IntKind.i64.wrap (1 + (j : Int)) = 1 + (j : Int) := IntWalk.i64_in _ (by omega)
            generalize rowS T (j : Int) = RS at HR1 HWJ
            go_wp2_with (go_at_call 78; refine (HR.out _).mono ?_; rintro e w' ⟨rfl, hw⟩; have hw' := hw.symm; subst hw'; clear hw)
            refine HR1.out.mono ?_
            rintro e w5 ⟨rfl, hb5⟩
            have HW5 := toHid (HWJ.out w5 hb5)
            have HL5 := toHid (HL.out.trans (Led.below HL.out.rim hb5))
            clear hb5 HWJ HR1 HL
            go_wp2_with fail
            refine HW5.out.mono ?_
            rintro e w6 ⟨r6, rfl, hl6, hr6⟩
            have HL6 := toHid (HL5.out.trans hl6)
            have HR6 : Hid (r6.vt = .slice (some ⟨g, 0, none⟩) k capg) := hr6.trans HRT.out
            clear hl6 hr6 HW5 HL5
            by_cases hz : (RP (j + 1)).2 = 0
            · have HZ := toHid hz
              rw [hz]
              clear hz
              go_wp2
              go_roundw
              case rel =>
                have fin : ∃ (j1 : Nat) (r1 : Qh), j1 ≤ rn ∧ Value.int .i64 ((j : Int) + 1) = .int .i64 j1 ∧ (RP j1).2 = 0 ∧ r1.vt = .slice (some ⟨g, 0, none⟩) k capg ∧ Led B wS ⟨NI, q, .slice (some ⟨g, 0, none⟩) k capg, .slice none 0 0⟩ r1 ⟨(RP j1).1, ⟨(k : Int), p, b⟩, T, []⟩ w6 := ⟨j + 1, r6, by omega, by go_num, HZ.out, HR6.out, HL6.out⟩
                first | exact fin | ((repeat apply Exists.intro); exact ⟨fin, rfl⟩)
              case measure => simp [intOf]; omega
            · have HE := HEN.out (j + 1) hz (by omega)
              have HF3 : Hid (F = (RP (j + 1)).2) := by unfold Hid; rw [HF.out, HE, if_neg hz]
              have HNZ := toHid hz
              have hpos : 0 < (RP (j + 1)).2 := by rcases HFF.out (j + 1) with h | h; exact absurd h hz; exact h
              generalize (RP (j + 1)).2 = fj at hpos HF3 HNZ ⊢
              have g5 : decide (0 < fj) = true := decide_eq_true hpos
              clear hz HE
              go_wp2
              go_ret2
              refine ⟨r6, HL6.out.dp, fun r e => ?_, KeptR.trans (KeptR.of_below HBS.out) HL6.out.kept, .inr ⟨?_, ?_, _, HL6.out.rim.dev⟩⟩
              · rw [HR6.out] at e
                have : g = r := by simpa [Value.ownBlock] using e
                rw [← this]; exact HGW.out
              · rw [HF3.out]; exact HNZ.out
              · rw [HF3.out]; rfl
          · have hje : j = rn := by omega
            subst hje
            have hi5 := hl.rim
            rw [HV0.out (RP j).1 (by rw [HEQ.out])] at hi5
            have HF1 := toHid (HFL1.out wq r hi5 hl.dp)
            have HF4 : Hid (F = pf) := by unfold Hid; rw [HF.out, ← HEQ.out, if_pos hf0]
            have HL5 : Hid (Led B wS ⟨NI, q, .slice (some ⟨g, 0, none⟩) k capg, .slice none 0 0⟩ r V0 wq) := ⟨hl.p, hl.dp, hl.vt, hi5, hl.kept⟩
            clear hl hi5 hf0 hrt hrp c4 HWR HRO HL HFL1 HEN HEQ HF HV0 HFF hx4
            go_wp2_with (go_at_call 78; refine (HR.out _).mono ?_; rintro e w' ⟨rfl, hw⟩; have hw' := hw.symm; subst hw'; clear hw)
            refine HF1.out.mono ?_
            rintro e w6 ⟨r6, rfl, hl6, hr6⟩
            have HL6 := toHid (HL5.out.trans hl6)
            have HR6 : Hid (r6.vt = .slice (some ⟨g, 0, none⟩) k capg) := hr6.trans HRT.out
            have hx6 := (HL5.out.trans hl6).kept.box HXS.out (by decide)
            have u0 : w6.cell? ⟨w.heap.size, 0, none⟩ = some (.int .i64 (k : Int)) := by rw [cell_of_row _ _ _ _ _ _ hx6]; rfl
            have u1 : w6.cell? ⟨w.heap.size, 1, none⟩ = some (.int .i64 p) := by rw [cell_of_row _ _ _ _ _ _ hx6]; rfl
            have u2 : w6.cell? ⟨w.heap.size, 2, none⟩ = some (.int .i64 b) := by rw [cell_of_row _ _ _ _ _ _ hx6]; rfl
            clear hl6 hr6 hx6 HL5 HF1 x0 x1 x2
            go_wp2_with fail
            refine (HHS.out _).mono ?_
            rintro e w7 ⟨rfl, hb7⟩
            have HL7 := toHid (HL6.out.trans (Led.below HL6.out.rim hb7))
            have HW7 := toHid (HW2.out w7 r6 (HL6.out.rim.below hb7) (Nat.le_trans hB (Nat.le_trans HBS.out.size (HL6.out.trans (Led.below HL6.out.rim hb7)).kept.size)) HL6.out.dp)
            clear hb7 HL6 u0 u1 u2 HHS HW2
            go_wp2_with fail
            refine HW7.out.mono ?_
            rintro e w8 ⟨r8, rfl, hl8, hr8⟩
            have HL8 := toHid (HL7.out.trans hl8)
            have HR8 : Hid (r8.vt = .slice (some ⟨g, 0, none⟩) k capg) := hr8.trans HR6.out
            clear hl8 hr8 HW7 HL7
            by_cases hz : pf = 0
            · have HZ := toHid hz
              have HVV : Hid (V = { (({ V0.flush with d := V0.flush.d.put 0 X.data.toList } : IV).flush) with h := ⟨(k : Int), p, b⟩ }) := by unfold Hid; rw [HV.out, if_pos hz]
              have HF8 := toHid (HFL2.out w8 r8 HL8.out.rim HL8.out.dp)
              rw [hz]
              clear hz HV HFL2 HP0
              go_wp2_with fail
              refine HF8.out.mono ?_
              rintro e w9 ⟨r9, rfl, hl9, hr9⟩
              have HL9 := toHid (HL8.out.trans hl9)
              have HR9 : Hid (r9.vt = .slice (some ⟨g, 0, none⟩) k capg) := hr9.trans HR8.out
              clear hl9 hr9 HF8 HL8
              go_wp2
              go_ret2
              refine ⟨r9, HL9.out.dp, fun r e => ?_, KeptR.trans (KeptR.of_below HBS.out) HL9.out.kept, .inl ⟨HF4.out.trans HZ.out, ?_, ?_⟩⟩
              · rw [HR9.out] at e
                have : g = r := by simpa [Value.ownBlock] using e
                rw [← this]; exact HGW.out
              · rw [show r9.p = NI from HL9.out.p]; rfl
              · rw [HVV.out]; exact HL9.out.rim
            · have HNZ := toHid hz
              have h7 : pf = 7 := by rcases HP0.out with h | h; exact absurd h hz; exact h
              have HF7 : Hid (F = 7) := HF4.out.trans h7
              rw [h7]
              clear hz h7 HP0 HFL2 HF4 HNZ
              go_wp2
              go_ret2
              refine ⟨r8, HL8.out.dp, fun r e => ?_, KeptR.trans (KeptR.of_below HBS.out) HL8.out.kept, .inr ⟨?_, ?_, _, HL8.out.rim.dev⟩⟩
              · rw [HR8.out] at e
                have : g = r := by simpa [Value.ownBlock] using e
                rw [← this]; exact HGW.out
              · rw [HF7.out]; decide
              · rw [HF7.out]; rfl
end Go.Proofs.YtjegaljdindfaabGreatDoor
