/-
The document's own image: one that is made anew.
-/
import Derived.Test.YtncjnjlakhohgaaGreatQRimOpen
import Derived.Test.YtncjnjlakhohgaaGreatQRimRead
import Derived.Test.YtncjnjlakhohgaaGreatQImgCreate2
namespace Go.Proofs.YtncjnjlakhohgaaGreat
open Go.RowKit Go.Maps
attribute [local go_sem ↓] Go.wp_at_zero Go.wp_at_succ

set_option maxRecDepth 100000 in
set_option maxHeartbeats 8000000 in
theorem created_bad {B : Nat} {q : Rh} {d : DV} (c p b : Int) (w : World) (hd : IsRef B w q d) (hn : ¬ (HV.ok ⟨c, p, b⟩ = true ∧ needN ⟨c, p, b⟩ ≤ d.fl.length)) :
    Calls Tryz.prog 10 #[.pointer (some ⟨q.p, 0, none⟩), .agg #[.int .i64 c, .int .i64 p, .int .i64 b]] w fun e w' => e = .returned (.tuple #[.pointer none, .int .i64 1]) ∧ Below w.heap.size w w' := by
  obtain ⟨c0, _, _, _, _, _⟩ := hd.cells
  have lq : q.p < w.heap.size := (hd.lt q.p (.inl rfl)).2
  have HCH := toHid (headFault_any c p b)
  have HB1 : Hid (Below w.heap.size w (w.alloc (.cells #[.int .i64 c, .int .i64 p, .int .i64 b] 23))) := (Below.refl _ _).alloc (Nat.le_refl _) _
  have HX1 : Hid ((w.alloc (.cells #[.int .i64 c, .int .i64 p, .int .i64 b] 23)).heap[w.heap.size]? = some (.cells #[.int .i64 c, .int .i64 p, .int .i64 b] 23 (0, 0))) := heap_alloc_new _ _
  cases hk : HV.ok ⟨c, p, b⟩ with
  | false =>
    have e1 : HV.fault ⟨c, p, b⟩ = 1 := by unfold HV.fault; rw [hk]; rfl
    have g0 : decide (0 < HV.fault ⟨c, p, b⟩) = true := by rw [e1]; decide
    clear hd hn hk e1
    generalize HV.fault ⟨c, p, b⟩ = f at HCH g0
    go_enter Tryz.func10, Tryz.ntmps10
    go_wp2
    generalize w.alloc (.cells #[.int .i64 c, .int .i64 p, .int .i64 b] 23) = wA at HB1 HX1 ⊢
    have hNl : w.heap.size < wA.heap.size := lt_of_some HX1.out
    have y0 : wA.cell? ⟨w.heap.size, 0, none⟩ = some (.int .i64 c) := by rw [cell_of_row _ _ _ _ _ _ HX1.out]; rfl
    have y1 : wA.cell? ⟨w.heap.size, 1, none⟩ = some (.int .i64 p) := by rw [cell_of_row _ _ _ _ _ _ HX1.out]; rfl
    have y2 : wA.cell? ⟨w.heap.size, 2, none⟩ = some (.int .i64 b) := by rw [cell_of_row _ _ _ _ _ _ HX1.out]; rfl
    have hSA : Below wA.heap.size wA wA.drew ∧ wA.drew.cell? ⟨w.heap.size, 0, none⟩ = some (.int .i64 c) ∧ wA.drew.cell? ⟨w.heap.size, 1, none⟩ = some (.int .i64 p) ∧ wA.drew.cell? ⟨w.heap.size, 2, none⟩ = some (.int .i64 b) := ⟨Below.drew (Below.refl _ _), y0, y1, y2⟩
    refine wp_region_noPanic ?_
    refine wp_region_held_drew (S := fun W => Below wA.heap.size wA W ∧ W.cell? ⟨w.heap.size, 0, none⟩ = some (.int .i64 c) ∧ W.cell? ⟨w.heap.size, 1, none⟩ = some (.int .i64 p) ∧ W.cell? ⟨w.heap.size, 2, none⟩ = some (.int .i64 b)) (by kernel_rfl) hSA (fun hHeld => ?_)
    refine wpAnyH_take (i := 0) (oi := _) (v := ?_) rfl (by kernel_rfl) (by kernel_rfl) (by kernel_rfl) (fun _ _ _ h => h) (Or.inl ⟨by rfl, ?_⟩) hSA ?_
    rotate_left
    · (intro w hSw; go_simp; try with_reducible rfl)
    (try simp only [Act.put, List.getElem_toArray, List.getElem_cons_zero, List.setIfInBounds_toArray, List.set_cons_zero, List.set_cons_succ])
    refine wpAnyH_ready (rs := [1]) (by kernel_rfl) (by simp) ?_
    refine AllReadyH.cons (o := _) rfl (fun K hK => ?_) ?_
    · go_simp
      refine (HCH.out _).mono ?_
      rintro e wN ⟨rfl, hb'⟩
      have hB' : Below wA.heap.size wA wN := (Below.drew (Below.refl _ _)).trans hb'
      have hSN : Below wA.heap.size wA wN ∧ wN.cell? ⟨w.heap.size, 0, none⟩ = some (.int .i64 c) ∧ wN.cell? ⟨w.heap.size, 1, none⟩ = some (.int .i64 p) ∧ wN.cell? ⟨w.heap.size, 2, none⟩ = some (.int .i64 b) := ⟨hB', (hB'.cell (p := ⟨w.heap.size, 0, none⟩) hNl).trans y0, (hB'.cell (p := ⟨w.heap.size, 1, none⟩) hNl).trans y1, (hB'.cell (p := ⟨w.heap.size, 2, none⟩) hNl).trans y2⟩
      try go_wp2_with fail
      refine hK.out _ _ hSN (fun _ => ?_)
      clear hK K
      (try simp only [Act.put, List.getElem_toArray, List.getElem_cons_succ, List.getElem_cons_zero, List.setIfInBounds_toArray, List.set_cons_zero, List.set_cons_succ])
      refine wpAnyH_take (i := 2) (oi := _) (v := ?_) rfl (by kernel_rfl) (by kernel_rfl) (by kernel_rfl) (fun _ _ _ h => h) (Or.inl ⟨by rfl, ?_⟩) hSN ?_
      rotate_left
      · (intro w hSw; go_simp; try with_reducible rfl)
      (try simp only [Act.put, List.getElem_toArray, List.getElem_cons_succ, List.getElem_cons_zero, List.setIfInBounds_toArray, List.set_cons_zero, List.set_cons_succ])
      refine wpAnyH_take (i := 3) (oi := _) (v := ?_) rfl (by kernel_rfl) (by kernel_rfl) (by kernel_rfl) (fun _ _ _ h => h) (Or.inl ⟨by rfl, ?_⟩) hSN ?_
      rotate_left
      · (intro w hSw; go_simp; try with_reducible rfl)
      (try simp only [Act.put, List.getElem_toArray, List.getElem_cons_succ, List.getElem_cons_zero, List.setIfInBounds_toArray, List.set_cons_zero, List.set_cons_succ])
      refine wpAnyH_take (i := 4) (oi := _) (v := undef) rfl (by kernel_rfl) (by kernel_rfl) (by kernel_rfl) (fun _ _ _ h => h) (Or.inr ⟨by kernel_rfl, rfl⟩) hSN ?_
      (try simp only [Act.put, List.getElem_toArray, List.getElem_cons_succ, List.getElem_cons_zero, List.setIfInBounds_toArray, List.set_cons_zero, List.set_cons_succ])
      refine wpAnyH_take (i := 5) (oi := _) (v := undef) rfl (by kernel_rfl) (by kernel_rfl) (by kernel_rfl) (fun _ _ _ h => h) (Or.inr ⟨by kernel_rfl, rfl⟩) hSN ?_
      (try simp only [Act.put, List.getElem_toArray, List.getElem_cons_succ, List.getElem_cons_zero, List.setIfInBounds_toArray, List.set_cons_zero, List.set_cons_succ])
      refine wpAnyH_take (i := 6) (oi := _) (v := undef) rfl (by kernel_rfl) (by kernel_rfl) (by kernel_rfl) (fun _ _ _ h => h) (Or.inr ⟨by kernel_rfl, rfl⟩) hSN ?_
      (try simp only [Act.put, List.getElem_toArray, List.getElem_cons_succ, List.getElem_cons_zero, List.setIfInBounds_toArray, List.set_cons_zero, List.set_cons_succ])
      refine wpAnyH_take (i := 7) (oi := _) (v := undef) rfl (by kernel_rfl) (by kernel_rfl) (by kernel_rfl) (fun _ _ _ h => h) (Or.inr ⟨by kernel_rfl, rfl⟩) hSN ?_
      (try simp only [Act.put, List.getElem_toArray, List.getElem_cons_succ, List.getElem_cons_zero, List.setIfInBounds_toArray, List.set_cons_zero, List.set_cons_succ])
      refine wpAnyH_take (i := 8) (oi := _) (v := undef) rfl (by kernel_rfl) (by kernel_rfl) (by kernel_rfl) (fun _ _ _ h => h) (Or.inr ⟨by kernel_rfl, rfl⟩) hSN ?_
      (try simp only [Act.put, List.getElem_toArray, List.getElem_cons_succ, List.getElem_cons_zero, List.setIfInBounds_toArray, List.set_cons_zero, List.set_cons_succ])
      refine wpAnyH_take (i := 9) (oi := _) (v := undef) rfl (by kernel_rfl) (by kernel_rfl) (by kernel_rfl) (fun _ _ _ h => h) (Or.inr ⟨by kernel_rfl, rfl⟩) hSN ?_
      (try simp only [Act.put, List.getElem_toArray, List.getElem_cons_succ, List.getElem_cons_zero, List.setIfInBounds_toArray, List.set_cons_zero, List.set_cons_succ])
      refine wpAnyH_take (i := 10) (oi := _) (v := undef) rfl (by kernel_rfl) (by kernel_rfl) (by kernel_rfl) (fun _ _ _ h => h) (Or.inr ⟨by kernel_rfl, rfl⟩) hSN ?_
      (try simp only [Act.put, List.getElem_toArray, List.getElem_cons_succ, List.getElem_cons_zero, List.setIfInBounds_toArray, List.set_cons_zero, List.set_cons_succ])
      refine wpAnyH_take (i := 11) (oi := _) (v := undef) rfl (by kernel_rfl) (by kernel_rfl) (by kernel_rfl) (fun _ _ _ h => h) (Or.inr ⟨by kernel_rfl, rfl⟩) hSN ?_
      (try simp only [Act.put, List.getElem_toArray, List.getElem_cons_succ, List.getElem_cons_zero, List.setIfInBounds_toArray, List.set_cons_zero, List.set_cons_succ])
      refine wpAnyH_take (i := 12) (oi := _) (v := ?_) rfl (by kernel_rfl) (by kernel_rfl) (by kernel_rfl) (fun _ _ _ h => h) (Or.inl ⟨by rfl, ?_⟩) hSN ?_
      rotate_left
      · (intro w hSw; go_simp; try with_reducible rfl)
      (try simp only [Act.put, List.getElem_toArray, List.getElem_cons_succ, List.getElem_cons_zero, List.setIfInBounds_toArray, List.set_cons_zero, List.set_cons_succ])
      refine wpAnyH_done (by kernel_rfl) ?_ _
      refine NoPanic.normal ?_
      have HBW := toHid (HB1.out.trans (hB'.mono HB1.out.size))
      clear y0 y1 y2 hNl hb' hB' hSN hSA
      go_wp2
      go_ret2
      exact ⟨rfl, HBW.out⟩
    · exact AllReadyH.nil
  | true =>
    have e1 : HV.fault ⟨c, p, b⟩ = 0 := by unfold HV.fault; rw [hk]; rfl
    rw [e1] at HCH
    have hlt : d.fl.length < needN ⟨c, p, b⟩ := by
      by_cases hx : needN ⟨c, p, b⟩ ≤ d.fl.length
      · exact absurd ⟨hk, hx⟩ hn
      · omega
    have HND := toHid (fun W => refNeed_any c p b W hk)
    generalize needN ⟨c, p, b⟩ = nn at HND hlt
    clear hd hn hk e1
    go_enter Tryz.func10, Tryz.ntmps10
    go_wp2
    generalize w.alloc (.cells #[.int .i64 c, .int .i64 p, .int .i64 b] 23) = wA at HB1 HX1 ⊢
    have hNl : w.heap.size < wA.heap.size := lt_of_some HX1.out
    have hql : q.p < wA.heap.size := by omega
    have y0 : wA.cell? ⟨w.heap.size, 0, none⟩ = some (.int .i64 c) := by rw [cell_of_row _ _ _ _ _ _ HX1.out]; rfl
    have y1 : wA.cell? ⟨w.heap.size, 1, none⟩ = some (.int .i64 p) := by rw [cell_of_row _ _ _ _ _ _ HX1.out]; rfl
    have y2 : wA.cell? ⟨w.heap.size, 2, none⟩ = some (.int .i64 b) := by rw [cell_of_row _ _ _ _ _ _ HX1.out]; rfl
    have y3 : wA.cell? ⟨q.p, 0, none⟩ = some (.slice (some ⟨q.bf, 0, none⟩) d.fl.length q.cf) := (HB1.out.cell (p := ⟨q.p, 0, none⟩) lq).trans c0
    go_region_held3 (fun W => Below wA.heap.size wA W ∧ W.cell? ⟨w.heap.size, 0, none⟩ = some (.int .i64 c) ∧ W.cell? ⟨w.heap.size, 1, none⟩ = some (.int .i64 p) ∧ W.cell? ⟨w.heap.size, 2, none⟩ = some (.int .i64 b) ∧ W.cell? ⟨q.p, 0, none⟩ = some (.slice (some ⟨q.bf, 0, none⟩) d.fl.length q.cf))
      (first | (exact ⟨Below.drew (Below.refl _ _), y0, y1, y2, y3⟩) | assumption | (exact ⟨by assumption, (Below.cell (by assumption) hNl).trans y0, (Below.cell (by assumption) hNl).trans y1, (Below.cell (by assumption) hNl).trans y2, (Below.cell (by assumption) hql).trans y3⟩))
      (first
        | (go_at_call 33; refine (HCH.out _).mono ?_; rintro e wN ⟨rfl, hb'⟩; have hB' := Below.trans (by assumption : Below wA.heap.size wA _ ∧ _).1 (hb'.mono (by assumption : Below wA.heap.size wA _ ∧ _).1.size))
        | (go_at_call 13; refine (HND.out _).mono ?_; rintro e wM ⟨rfl, hb''⟩; have hB'' := Below.trans (by assumption : Below wA.heap.size wA _ ∧ _).1 (hb''.mono (by assumption : Below wA.heap.size wA _ ∧ _).1.size)))
    all_goals
      obtain ⟨hs0, z0, z1, z2, z3⟩ := (by assumption : Below wA.heap.size wA wM ∧ _)
      have HBW := toHid (HB1.out.trans (hs0.mono HB1.out.size))
      have g1 : decide ((d.fl.length : Int) < (nn : Int)) = true := decide_eq_true (by omega)
      clear hs0 y0 y1 y2 hNl
      go_wp2
      go_ret2
      exact ⟨rfl, HBW.out⟩
end Go.Proofs.YtncjnjlakhohgaaGreat
