/-
The document's own image: an entry that is set.
-/
import Derived.Test.YtjegaljdindfaabGreatDoorQRimActs
import Derived.BigRegion
namespace Go.Proofs.YtjegaljdindfaabGreatDoor
open Go.RowKit Go.Maps
attribute [local go_sem ↓] Go.wp_at_zero Go.wp_at_succ

theorem ownsRow_setE {w : World} {B g n cap : Nat} {ts : List (Int × Int)} (ho : w.ownsRow B 142 2 (.slice (some ⟨g, 0, none⟩) n cap) n (entV ts)) (hn : ts.length = n) (c : Nat) (k p : Int) :
    ((w.setCell ⟨g, c * 2, none⟩ (.int .i64 k)).setCell ⟨g, c * 2 + 1, none⟩ (.int .i64 p)).ownsRow B 142 2 (.slice (some ⟨g, 0, none⟩) n cap) n (entV (ts.set c (k, p))) := by
  obtain ⟨hbB, cur, hh, hc1, hc2, hc3, hc4⟩ := ownsRow_block ho
  refine ⟨by rw [entV_len, List.length_set, hn], .inr ⟨g, cap, (cur.setIfInBounds (c * 2) (.int .i64 k)).setIfInBounds (c * 2 + 1) (.int .i64 p), rfl, hbB, ?_, hc1, hc2, by simpa using hc3, ?_⟩⟩
  · rw [heap_setCell_same _ _ _ _ _ _ (heap_setCell_same w g _ _ _ _ hh)]
  · rw [entV_set, ← hc4]
    simp only [Array.toList_setIfInBounds, List.take_set]

theorem rowS_div (t : List (Int × Int)) (c : Nat) : rowS t ((c : Int) / 8) = rowS t ((c / 8 : Nat) : Int) ∧ rowF t ((c : Int) / 8) = rowF t ((c / 8 : Nat) : Int) := by
  have e : (c : Int) / 8 = ((c / 8 : Nat) : Int) := by omega
  rw [e]; exact ⟨rfl, rfl⟩

theorem IsRim.sets {B : Gd} {w : World} {q : Qh} {v : IV} (h : IsRim B w q v) {g cap : Nat} {T : List (Int × Int)} (hl : T.length = v.t.length) (ho : w.ownsRow 0 142 2 (.slice (some ⟨g, 0, none⟩) v.t.length cap) v.t.length (entV T)) (hg : ¬ B.g g) :
    IsRim B (w.setCell ⟨q.p, 4, none⟩ (.slice (some ⟨g, 0, none⟩) v.t.length cap)) { q with vt := .slice (some ⟨g, 0, none⟩) v.t.length cap } { v with t := T } ∧ KeptR B w (w.setCell ⟨q.p, 4, none⟩ (.slice (some ⟨g, 0, none⟩) v.t.length cap)) :=
  h.setP 4 (.slice (some ⟨g, 0, none⟩) v.t.length cap) (q2 := { q with vt := .slice (some ⟨g, 0, none⟩) v.t.length cap }) (v2 := { v with t := T }) rfl rfl rfl rfl (by show w.ownsRow 0 _ 2 _ T.length (entV T); rw [hl]; exact ho) h.held h.ne (fun k e => by
    have : g = k := by simpa [Value.ownBlock] using e
    rw [← this]; exact hg) h.hB

/- A place more is held. -/
theorem IsRim.heldd {B : Gd} {w W w6 : World} {q : Qh} {v : IV} (h : IsRim B w q v) (hb : Below w.heap.size w W) (hg : W.grownBy w6 q.vh.ownBlock) (x g cap : Nat) (hown : w6.ownsRow 0 3 1 (.slice (some ⟨g, 0, none⟩) (v.held.length + 1) cap) (v.held.length + 1) (natV v.held ++ [.int .i64 (x : Int)]))
    (hat : q.vh.ownBlock = some g ∨ w.heap.size ≤ g) (hBw : B.top ≤ w.heap.size) :
    IsRim B (w6.setCell ⟨q.p, 5, none⟩ (.slice (some ⟨g, 0, none⟩) (v.held.length + 1) cap)) { q with vh := .slice (some ⟨g, 0, none⟩) (v.held.length + 1) cap } { v with held := v.held ++ [x] } ∧ KeptR B w (w6.setCell ⟨q.p, 5, none⟩ (.slice (some ⟨g, 0, none⟩) (v.held.length + 1) cap)) := by
  have hw : ∀ k, k < w.heap.size → q.vh.ownBlock ≠ some k → w6.heap[k]? = w.heap[k]? := fun k hk hn => by
    rw [hg.block k (Nat.lt_of_lt_of_le hk hb.size) (Ne.symm hn), hb.block k hk]
  have n1 : q.vh.ownBlock ≠ some q.p := fun e => by
    obtain ⟨c2, e2⟩ := ownsRow_kind h.held _ e
    rw [h.blk] at e2; cases e2
  have n2 : ∀ k, q.vt.ownBlock = some k → q.vh.ownBlock ≠ some k := fun k hk e => by
    obtain ⟨c1, e1⟩ := ownsRow_kind h.own k hk
    obtain ⟨c2, e2⟩ := ownsRow_kind h.held k e
    rw [e1] at e2; cases e2
  have n3 : ∀ k, q.d.fp k → q.vh.ownBlock ≠ some k := fun k e hk => by
    obtain ⟨c2, e2⟩ := ownsRow_kind h.held k hk
    rcases e with e | e | e | e
    · subst e
      have := h.dev.blk
      rw [e2] at this; cases this
    · subst e
      obtain ⟨_, c3, e3, _⟩ := ownsRow_block h.dev.of
      rw [e2] at e3; cases e3
    · exact h.ne k hk e
    · obtain ⟨c3, e3⟩ := ownsRow_kind h.dev.o2 k e
      rw [e2] at e3; cases e3
  have hbp : w6.heap[q.p]? = _ := (hw q.p (lt_of_some h.blk) n1).trans h.blk
  have p1 : ∀ k, q.d.fp k → k ≠ q.p := fun k hk e => by
    obtain ⟨cur2, t, e1, p⟩ := h.dev.kinds _ hk
    rw [e, h.blk] at e1
    cases e1
    rcases p with p | p | p <;> cases p
  have p2 : ∀ k, q.vt.ownBlock = some k → k ≠ q.p := fun k hk e => by
    obtain ⟨c2, e2⟩ := ownsRow_kind h.own k hk
    rw [e, h.blk] at e2; cases e2
  refine ⟨⟨?_, h.pB, h.dev.keep fun k hk => ?_, ownsRow_keep h.own fun k hk => ?_, ?_, ?_, h.tB, fun k hk => ?_⟩, ?_⟩
  · rw [heap_setCell_same _ _ _ _ _ _ hbp]; rfl
  · rw [heap_setCell_other _ _ _ _ (p1 k hk)]; exact hw k (h.dev.lt k hk).2 (n3 k hk)
  · rw [heap_setCell_other _ _ _ _ (p2 k hk)]; exact hw k (h.own.lt k hk).2 (n2 k hk)
  · show World.ownsRow _ 0 _ 1 _ (v.held ++ [x]).length (natV (v.held ++ [x]))
    have e1 : (v.held ++ [x]).length = v.held.length + 1 := by simp
    have e2 : natV (v.held ++ [x]) = natV v.held ++ [.int .i64 (x : Int)] := by simp [natV]
    rw [e1, e2]
    refine ownsRow_keep hown fun k hk => heap_setCell_other _ _ _ _ (fun e => ?_)
    obtain ⟨c2, e2⟩ := ownsRow_kind hown k hk
    rw [show k = q.p from e, hbp] at e2; cases e2
  · intro k hk e
    have : g = k := by simpa [Value.ownBlock] using hk
    subst this
    rcases hat with h1 | h1
    · exact h.ne g h1 e
    · have := (h.dev.o1.lt g e).2; omega
  · have : g = k := by simpa [Value.ownBlock] using hk
    subst this
    rcases hat with h1 | h1
    · exact h.hB g h1
    · exact B.fresh hBw h1
  · refine ⟨hg.os.trans hb.os, hg.tape.trans hb.tape, hg.output.trans hb.output, ?_, fun k hk hs => ?_⟩
    · have h1 := hb.size
      have h2 := hg.size
      simp only [World.setCell]
      have : (w6.setCell ⟨q.p, 5, none⟩ (.slice (some ⟨g, 0, none⟩) (v.held.length + 1) cap)).heap.size = w6.heap.size := by simp [World.setCell]
      simp only [World.setCell] at this
      omega
    · have k1 : k ≠ q.p := fun e => hs ⟨by rw [e]; exact h.pB, _, _, by rw [e]; exact h.blk, .inr (.inr (.inr rfl))⟩
      have k2 : q.vh.ownBlock ≠ some k := fun e => by
        obtain ⟨c2, e2⟩ := ownsRow_kind h.held k e
        exact hs ⟨h.hB k e, _, _, e2, .inr (.inr (.inl rfl))⟩
      rw [heap_setCell_other _ _ _ _ k1]
      exact hw k hk k2

set_option maxRecDepth 100000 in
set_option maxHeartbeats 2000000 in
theorem set_rim {B : Gd} {m : Nat} {q : Qh} {v : IV} (c : Nat) (k p : Int) (w : World) (h : IsRim B w q v) (hok : v.ok m) (hm : m < 1000000000) (hB : B.top ≤ w.heap.size) (hc : c < v.t.length) (he : entB k p v.h.p = true) :
    Calls Tryz.prog 86 #[.pointer (some ⟨q.p, 0, none⟩), .int .i64 (c : Int), .agg #[.int .i64 k, .int .i64 p]] w (DidR B w q (v.set c (k, p)) v.d.putF) := by
  have hbo := HV.of_ok hok.h
  have hlen := hok.len
  have hrl := rows_lt hc
  obtain ⟨hrF, hrS⟩ := row_good (ts := v.t.set c (k, p)) hok.h (by rw [List.length_set]; exact hok.len) (ents_set hok.ents c (k, p) he) (c / 8) (by rw [List.length_set]; exact hrl)
  have hbl := (begin_le hok.h hok.need).1
  rw [show v.h.c.toNat = v.t.length by omega] at hbl
  obtain ⟨d1, d2⟩ := rowS_div (v.t.set c (k, p)) c
  have HRO : Hid (∀ (W : World) (g cap : Nat), W.ownsRow w.heap.size 142 2 (.slice (some ⟨g, 0, none⟩) v.t.length cap) v.t.length (entV (v.t.set c (k, p))) → Calls Tryz.prog 79 #[.slice (some ⟨g, 0, none⟩) v.t.length cap, .int .i64 ((c : Int) / 8)] W fun e w' =>
      e = .returned (.tuple #[.string (rowS (v.t.set c (k, p)) ((c / 8 : Nat) : Int)), .int .i64 0]) ∧ Below W.heap.size W w') := fun W g cap ho => by
    have := rowOf_any (some ⟨g, 0, none⟩) v.t.length cap (v.t.set c (k, p)) ((c : Int) / 8) W (ents_of_owns ho _ (by rw [List.take_of_length_le (by rw [entV_len, List.length_set]; exact Nat.le_refl _)]) (Nat.le_refl _) List.length_set) (by omega)
    rw [d1, d2, hrF] at this; exact this
  have HWR : Hid (∀ (W : World), IsRim B W q v → B.top ≤ W.heap.size → Calls Tryz.prog 80 #[.pointer (some ⟨q.d.p, 0, none⟩), .int .i64 (1 + (c : Int) / 8), .string (rowS (v.t.set c (k, p)) ((c / 8 : Nat) : Int))] W fun e w' =>
      ∃ q' : Qh, e = .returned (.int .i64 v.d.putF) ∧ Led B W q q' { v with d := v.setD c (k, p) } w' ∧ q'.vt = q.vt ∧ q'.vh = q.vh) := fun W hi hb => by
    have h1 := rWrite_any (1 + c / 8) (rowS (v.t.set c (k, p)) ((c / 8 : Nat) : Int)) W hi.dev hok.d hm hb hrS (by omega)
    rw [show (((1 + c / 8 : Nat) : Int)) = 1 + (c : Int) / 8 by omega] at h1
    refine h1.mono ?_
    rintro e w' ⟨q2, rfl, hp2, hd2, hk2, hv2⟩
    exact ⟨{ q with d := q2 }, rfl, Led.dev hi hd2 hp2 hk2 hv2, rfl, rfl⟩
  have hew : entB (v.t.getD c (0, 0)).1 (v.t.getD c (0, 0)).2 v.h.p = true := by rw [List.getD_eq_getElem?_getD, List.getElem?_eq_getElem hc]; exact hok.ents _ (List.getElem_mem hc)
  have HPF : Hid (v.d.putF = 0 ∨ v.d.putF = 7) := by
    rcases DV.putF_cases v.d with h7 | h7
    · exact .inl h7.1
    · exact .inr h7.1
  have HV0 : Hid (v.d.putF = 0 → v.set c (k, p) = ⟨v.setD c (k, p), v.h, v.t.set c (k, p), if (v.t.getD c (0, 0)).1 = 2 then v.held ++ [(v.t.getD c (0, 0)).2.toNat] else v.held⟩) := fun h0 => by unfold IV.set; rw [if_pos h0]
  have HV1 : Hid (v.d.putF ≠ 0 → v.set c (k, p) = { v with d := v.setD c (k, p) }) := fun h0 => by unfold IV.set; rw [if_neg h0]
  have hfew := hok.few
  have HI := toHid h
  obtain ⟨g0, cap0, hvt, hg0, t0, t1⟩ := h.entAt hc
  obtain ⟨_, a5, cap5, hvh⟩ := rim_shape h
  have c4 := h.cells.2.2.2.2.1
  rw [hvt] at c4
  have HVT := toHid hvt
  have HVH := toHid hvh
  have lp : q.p < w.heap.size := lt_of_some h.blk
  have hcap0 : Hid (∀ j u, (entV v.t)[j]? = some u → (w.alloc (.cells #[.int .i64 k, .int .i64 p] 142)).cell? ((⟨g0, 0, none⟩ : Addr).add j) = some u) := fun j u hj => by
    have ho := h.own
    rw [hvt] at ho
    have := ownsRow_news ho j u hj
    rw [World.cell?_alloc_lt _ _ _ (World.block_lt_of_cell? w _ this)]; exact this
  have hp40 := hbo.2.2.2.1
  have hc1 : (c : Int) < (v.t.length : Int) := by omega
  have hvl : v.t.length ≤ 32 := by omega
  have hcq : (c : Int) / 8 ≤ 4 := by omega
  have hcq0 : 0 ≤ (c : Int) / 8 := by omega
  obtain ⟨i0, hi0, hz0, hz1, hz2⟩ := info_parts info_ent
  obtain ⟨i1, hi1, hx0, hx1, hx2⟩ := info_parts info_int
  clear h hok hbl hrF hrS hrl hlen hbo he hvt hvh d1 d2
  generalize v.d.putF = pf at HWR HPF HV0 HV1 ⊢
  generalize v.set c (k, p) = V at HV0 HV1 ⊢
  generalize rowS (v.t.set c (k, p)) ((c / 8 : Nat) : Int) = RS at HRO HWR
  generalize hy0 : (v.t.getD c (0, 0)).1 = y0 at t0 hew HV0
  generalize hy1 : (v.t.getD c (0, 0)).2 = y1 at t1 hew HV0
  have HY0 := toHid hy0
  have HY1 := toHid hy1
  clear hy0 hy1
  have HEL : Hid ((entV v.t).length = v.t.length * 2) := entV_len _
  have HEO : Hid (∀ u ∈ entV v.t, u.oneCell' = true) := entV_one _
  generalize hn : v.t.length = n at c4 hc hc1 hvl HRO HEL
  have HN := toHid hn
  clear hn
  have hsz1 : (w.alloc (.cells #[.int .i64 k, .int .i64 p] 142)).heap.size = w.heap.size + 1 := by simp
  have HSZ := toHid hsz1
  have HSA : Hid (w.heap.size ≤ (w.alloc (.cells #[.int .i64 k, .int .i64 p] 142)).heap.size) := by unfold Hid; rw [hsz1]; omega
  clear hsz1
  have HNB : Hid ((w.alloc (.cells #[.int .i64 k, .int .i64 p] 142)).heap[w.heap.size]? = some (.cells #[.int .i64 k, .int .i64 p] 142 (0, 0))) := heap_alloc_new _ _
  have HBA : Hid (Below w.heap.size w (w.alloc (.cells #[.int .i64 k, .int .i64 p] 142))) := (Below.refl _ _).alloc (Nat.le_refl _) _
  have HEA := toHid (entV_at v.t c (by rw [HN.out]; exact hc))
  go_enter Tryz.func86, Tryz.ntmps86
  go_wp2_with (at_builtin; refine wpList_append_lies _ (by rfl) _ _ 88 (by rfl) w.heap.size 142 i0 (.agg #[.int .i64 0, .int .i64 0]) 2 16 Tryz.underlying88 hi0 hz0 hz1 hz2 rfl (by decide) (.slice none 0 0) 0 [] (by rfl) (World.ownsRow_nil _ _ _ _) ⟨g0, 0, none⟩ n cap0 (entV v.t) (by rfl) HEL.out hcap0.out HEO.out (by omega) (by unfold maxLen; omega) (by omega) HSA.out (w.heap.size + 1) HSZ.out ?_; intro G capG w1 hown hgrow hat hltG; rw [Nat.zero_add, List.nil_append] at hown
               have hbx : w1.heap[w.heap.size]? = some (.cells #[.int .i64 k, .int .i64 p] 142 (0, 0)) := (hgrow.block _ (by rw [HSZ.out]; omega) (fun e => by cases e)).trans HNB.out
               have b0 : w1.cell? ⟨w.heap.size, 0, none⟩ = some (.int .i64 k) := by rw [cell_of_row _ _ _ _ _ _ hbx]; rfl
               have b1 : w1.cell? ⟨w.heap.size, 1, none⟩ = some (.int .i64 p) := by rw [cell_of_row _ _ _ _ _ _ hbx]; rfl
               have s0 := (hown.cellAt (c * 2) (by omega)).trans HEA.out.1
               have s1 := (hown.cellAt (c * 2 + 1) (by omega)).trans HEA.out.2
               have f0 := hown.frozenAt (c * 2)
               have f1 := hown.frozenAt (c * 2 + 1)
               have HOW : Hid (w1.ownsRow w.heap.size 142 2 (.slice (some ⟨G, 0, none⟩) n capG) n (entV v.t)) := hown
               have HBG : Hid (Below w.heap.size w w1) := HBA.out.grown hgrow HSA.out (fun k e => by cases e)
               have HGB : Hid (w.heap.size ≤ G) := (ownsRow_block hown).1
               clear hown hgrow hat hltG hbx)
  have HOT : Hid (((w1.setCell ⟨G, c * 2, none⟩ (.int .i64 k)).setCell ⟨G, c * 2 + 1, none⟩ (.int .i64 p)).ownsRow w.heap.size 142 2 (.slice (some ⟨G, 0, none⟩) n capG) n (entV (v.t.set c (k, p)))) := ownsRow_setE HOW.out HN.out c k p
  have HB2 : Hid (Below w.heap.size w ((w1.setCell ⟨G, c * 2, none⟩ (.int .i64 k)).setCell ⟨G, c * 2 + 1, none⟩ (.int .i64 p))) := (HBG.out.setCell (p := ⟨G, c * 2, none⟩) HGB.out _).setCell (p := ⟨G, c * 2 + 1, none⟩) HGB.out _
  clear b0 b1 s0 s1 f0 f1 HOW HBG HNB HBA HSA HEA HSZ hcap0 HEL HEO c4 t0 t1 hi0 hz0 hz1 hz2
  generalize (w1.setCell ⟨G, c * 2, none⟩ (.int .i64 k)).setCell ⟨G, c * 2 + 1, none⟩ (.int .i64 p) = w2 at HOT HB2 ⊢
  refine (HRO.out w2 G capG HOT.out).mono ?_
  rintro e w3 ⟨rfl, hb3⟩
  have HB3 := toHid (HB2.out.trans (hb3.mono HB2.out.size))
  have HOT3 : Hid (w3.ownsRow w.heap.size 142 2 (.slice (some ⟨G, 0, none⟩) n capG) n (entV (v.t.set c (k, p)))) := ownsRow_keep HOT.out fun r e => hb3.block r (HOT.out.lt r e).2
  have hi3 := HI.out.below HB3.out
  have c0 := hi3.cells.1
  have HW3 := toHid (HWR.out w3 hi3 (Nat.le_trans hB HB3.out.size))
  have HL3 := toHid (Led.below HI.out HB3.out)
  clear hb3 hi3 HRO HWR HOT HB2
  go_wp2_with fail
  refine HW3.out.mono ?_
  rintro e w4 ⟨q4, rfl, hl4, hvt4, hvh4⟩
  have HL4 : Hid (Led B w q q4 { v with d := v.setD c (k, p) } w4) := HL3.out.trans hl4
  obtain ⟨cG, hcG⟩ := ownsRow_kind HOT3.out G rfl
  have HOT4 : Hid (w4.ownsRow w.heap.size 142 2 (.slice (some ⟨G, 0, none⟩) n capG) n (entV (v.t.set c (k, p)))) := ownsRow_keep HOT3.out fun r e => by
    have : G = r := by simpa [Value.ownBlock] using e
    subst this
    rw [hl4.kept.box hcG (by decide)]; exact hcG.symm
  have HVT4 : Hid (q4.vt = .slice (some ⟨g0, 0, none⟩) v.t.length cap0) := by unfold Hid; rw [hvt4]; exact HVT.out
  have HVH4 : Hid (q4.vh = .slice a5 v.held.length cap5) := by unfold Hid; rw [hvh4]; exact HVH.out
  clear hl4 hvt4 hvh4 HW3 HL3 HOT3 HB3 c0 hcG
  by_cases hpf : pf = 0
  · have HV := toHid (HV0.out hpf)
    have HPZ := toHid hpf
    rw [hpf]
    clear HV0 HV1 HPF hpf
    have hr4 := HL4.out.rim
    have hp4 : q4.p = q.p := HL4.out.p
    have c4 : w4.cell? ⟨q.p, 4, none⟩ = some (.slice (some ⟨g0, 0, none⟩) n cap0) := by have := hr4.cells.2.2.2.2.1; rw [hp4, HVT4.out, HN.out] at this; exact this
    have c5 : w4.cell? ⟨q.p, 5, none⟩ = some (.slice a5 v.held.length cap5) := by have := hr4.cells.2.2.2.2.2.1; rw [hp4, HVH4.out] at this; exact this
    have f4 : w4.frozen? ⟨q.p, 4, none⟩ = false := by have := hr4.cells.2.2.2.2.2.2 4; rw [hp4] at this; exact this
    have f5 : w4.frozen? ⟨q.p, 5, none⟩ = false := by have := hr4.cells.2.2.2.2.2.2 5; rw [hp4] at this; exact this
    obtain ⟨g9, cap9, hv9, _, t0, t1⟩ := hr4.entAt (c := c) (by show c < v.t.length; rw [HN.out]; exact hc)
    rw [HVT4.out] at hv9
    injection hv9 with e1 e2 e3
    injection e1 with e1
    injection e1 with e1
    subst e1
    rw [show (({ v with d := v.setD c (k, p) } : IV).t.getD c (0, 0)).1 = y0 from HY0.out] at t0
    rw [show (({ v with d := v.setD c (k, p) } : IV).t.getD c (0, 0)).2 = y1 from HY1.out] at t1
    have hB4 : B.top ≤ w.heap.size := hB
    have k0 : (0 : Int) ≤ (c : Int) := by omega
    have lp4 : q.p < w4.heap.size := by have := lt_of_some hr4.blk; rw [hp4] at this; exact this
    have hgl4 : w.heap.size ≤ w4.heap.size := HL4.out.kept.size
    by_cases h2 : y0 = 2
    · have g2 : (y0 == 2) = true := by simpa using h2
      have hwq : 0 ≤ y1 ∧ y1 < 1000 := by
        rcases entB_of hew with h4 | h4
        · omega
        · omega
      obtain ⟨z, rfl⟩ : ∃ z : Nat, y1 = (z : Int) := ⟨y1.toNat, by omega⟩
      have HBA : Hid (Below w4.heap.size w4 (w4.alloc (.cells #[.int .i64 (z : Int)] 3)).drew) := ((Below.refl _ _).alloc (Nat.le_refl _) _).drew
      have HO5 : Hid ((w4.alloc (.cells #[.int .i64 (z : Int)] 3)).drew.ownsRow 0 3 1 (.slice a5 v.held.length cap5) v.held.length (natV v.held)) := by
        have := hr4.held
        rw [HVH4.out] at this
        exact ownsRow_keep this fun r e => HBA.out.block r (this.lt r e).2
      have HNB5 : Hid ((w4.alloc (.cells #[.int .i64 (z : Int)] 3)).drew.heap[w4.heap.size]? = some (.cells #[.int .i64 (z : Int)] 3 (0, 0))) := heap_alloc_new _ _
      have HS5 : Hid ((w4.alloc (.cells #[.int .i64 (z : Int)] 3)).drew.heap.size = w4.heap.size + 1) := by unfold Hid; show (w4.alloc _).heap.size = _; simp
      have HBS : Hid (0 ≤ (w4.alloc (.cells #[.int .i64 (z : Int)] 3)).drew.heap.size) := Nat.zero_le _
      have HLP : Hid (q.p < (w4.alloc (.cells #[.int .i64 (z : Int)] 3)).drew.heap.size) := by unfold Hid; rw [HS5.out]; omega
      have HNE : Hid (some q.p ≠ (Value.slice a5 v.held.length cap5).ownBlock) := by
        unfold Hid
        intro e
        have := hr4.held
        rw [HVH4.out] at this
        obtain ⟨c2, e2⟩ := ownsRow_kind this q.p e.symm
        have := hr4.blk
        rw [hp4, e2] at this; cases this
      have HC5 : Hid ((w4.alloc (.cells #[.int .i64 (z : Int)] 3)).drew.cell? ⟨q.p, 5, none⟩ = some (.slice a5 v.held.length cap5)) := (HBA.out.cell (p := ⟨q.p, 5, none⟩) lp4).trans c5
      have HFZ5 : Hid ((w4.alloc (.cells #[.int .i64 (z : Int)] 3)).drew.frozen? ⟨q.p, 5, none⟩ = false) := by
        unfold Hid
        rw [World.frozen?_of_block (w := w4) (HBA.out.block q.p lp4)]; exact f5
      have c5a : (w4.alloc (.cells #[.int .i64 (z : Int)] 3)).cell? ⟨q.p, 5, none⟩ = some (.slice a5 v.held.length cap5) := HC5.out
      have HMX : Hid (v.held.length + 1 ≤ maxLen) := by unfold Hid maxLen; omega
      have HV2 : Hid (V = ⟨v.setD c (k, p), v.h, v.t.set c (k, p), v.held ++ [z]⟩) := by
        unfold Hid; rw [HV.out, if_pos h2]; simp
      clear HV h2 hew hwq f5 hr4
      go_wp2
      go_region_law (refine step_append_lies _ (by rfl) _ _ 31 (by rfl) 0 3 i1 (.int .i64 0) 1 8 Tryz.underlying31 hi1 hx0 hx1 hx2 rfl (by decide) (.slice a5 v.held.length cap5) v.held.length (natV v.held) (by rfl) HO5.out ⟨w4.heap.size, 0, none⟩ 1 1 [.int .i64 (z : Int)] (by rfl) (by rfl) (World.news_of_block HNB5.out) (fun u hu => by simp at hu; subst hu; rfl) (by decide) HMX.out (by omega) HBS.out (w4.heap.size + 1) HS5.out ?_; intro g cap w6 hown hgrow hat hlt; have q5 := (hgrow.cell_far ⟨q.p, 5, none⟩ HLP.out HNE.out).trans HC5.out; have q6 := (hgrow.frozen_far ⟨q.p, 5, none⟩ HLP.out HNE.out).trans HFZ5.out)
      all_goals
        clear q5 q6
        have hr4 := HL4.out.rim
        have hgrow' : (w4.alloc (.cells #[.int .i64 (z : Int)] 3)).drew.grownBy w6 q4.vh.ownBlock := by rw [HVH4.out]; exact hgrow
        have hat' : q4.vh.ownBlock = some g ∨ w4.heap.size ≤ g := by
          rw [HVH4.out]
          rcases hat with h | h
          · exact .inl h
          · exact .inr (by omega)
        obtain ⟨hi7, hk7⟩ := hr4.heldd HBA.out hgrow' z g cap hown hat' (Nat.le_trans hB4 hgl4)
        rw [show q4.p = q.p from hp4] at hi7 hk7
        have HOT7 : Hid ((w6.setCell ⟨q.p, 5, none⟩ (.slice (some ⟨g, 0, none⟩) (v.held.length + 1) cap)).ownsRow w.heap.size 142 2 (.slice (some ⟨G, 0, none⟩) n capG) n (entV (v.t.set c (k, p)))) := by
          obtain ⟨cG, hcG⟩ := ownsRow_kind HOT4.out G rfl
          refine ownsRow_keep HOT4.out fun r e => ?_
          have : G = r := by simpa [Value.ownBlock] using e
          subst this
          rw [hk7.box hcG (by decide)]; exact hcG.symm
        obtain ⟨hi8, hk8⟩ := hi7.sets (g := G) (cap := capG) (T := v.t.set c (k, p)) List.length_set (by show World.ownsRow _ 0 _ 2 (.slice (some ⟨G, 0, none⟩) v.t.length capG) v.t.length _; rw [HN.out]; exact ownsRow_base HOT7.out (Nat.zero_le _)) (B.fresh hB HGB.out)
        have HL8 : Hid (Led B w q { q4 with vh := .slice (some ⟨g, 0, none⟩) (v.held.length + 1) cap, vt := .slice (some ⟨G, 0, none⟩) n capG } V ((w6.setCell ⟨q.p, 5, none⟩ (.slice (some ⟨g, 0, none⟩) (v.held.length + 1) cap)).setCell ⟨q.p, 4, none⟩ (.slice (some ⟨G, 0, none⟩) n capG))) := by
          refine ⟨HL4.out.p, HL4.out.dp, fun r e => ?_, ?_, ?_⟩
          · have : G = r := by simpa [Value.ownBlock] using e
            subst this
            exact .inr HGB.out
          · rw [HV2.out]
            have := hi8
            simp only [HN.out] at this
            rw [← hp4] at this ⊢
            exact this
          · have := KeptR.trans (KeptR.trans HL4.out.kept hk7) hk8
            simp only [HN.out] at this
            exact this
        have d4 : (w6.setCell ⟨q.p, 5, none⟩ (.slice (some ⟨g, 0, none⟩) (v.held.length + 1) cap)).cell? ⟨q.p, 4, none⟩ = some (.slice (some ⟨g0, 0, none⟩) n cap0) := by
          have := hi7.cells.2.2.2.2.1
          simp only [HVT4.out, HN.out] at this
          exact this
        have d5 : (w6.setCell ⟨q.p, 5, none⟩ (.slice (some ⟨g, 0, none⟩) (v.held.length + 1) cap)).frozen? ⟨q.p, 4, none⟩ = false := by
          have := hi7.cells.2.2.2.2.2.2 4
          exact this
        clear hi7 hk7 hi8 hk8 hgrow hgrow' hown hat hat' hlt hr4 c4 c5 c5a f4 t0 t1
        generalize w6.setCell ⟨q.p, 5, none⟩ (.slice (some ⟨g, 0, none⟩) (v.held.length + 1) cap) = w7 at HL8 d4 d5 ⊢
        go_wp2
        go_ret
        exact ⟨_, by rw [HPZ.out]; rfl, HL8.out⟩
    · have g2 : (y0 == 2) = false := by simpa using h2
      have HV2 : Hid (V = ⟨v.setD c (k, p), v.h, v.t.set c (k, p), v.held⟩) := by
        unfold Hid; rw [HV.out, if_neg h2]
      obtain ⟨hi8, hk8⟩ := hr4.sets (g := G) (cap := capG) (T := v.t.set c (k, p)) List.length_set (by show World.ownsRow _ 0 _ 2 (.slice (some ⟨G, 0, none⟩) v.t.length capG) v.t.length _; rw [HN.out]; exact ownsRow_base HOT4.out (Nat.zero_le _)) (B.fresh hB HGB.out)
      have HL8 : Hid (Led B w q { q4 with vt := .slice (some ⟨G, 0, none⟩) n capG } V (w4.setCell ⟨q.p, 4, none⟩ (.slice (some ⟨G, 0, none⟩) n capG))) := by
        refine ⟨HL4.out.p, HL4.out.dp, fun r e => ?_, ?_, ?_⟩
        · have : G = r := by simpa [Value.ownBlock] using e
          subst this
          exact .inr HGB.out
        · rw [HV2.out]
          have := hi8
          rw [show ({ v with d := v.setD c (k, p) } : IV).t.length = n from HN.out] at this
          rw [← hp4]
          exact this
        · have := KeptR.trans HL4.out.kept hk8
          rw [hp4, show ({ v with d := v.setD c (k, p) } : IV).t.length = n from HN.out] at this
          exact this
      clear hi8 hk8 hr4 HV h2 hew
      go_wp2
      go_ret
      exact ⟨_, by rw [HPZ.out]; rfl, HL8.out⟩
  · have HV := toHid (HV1.out hpf)
    have h7 : pf = 7 := by rcases HPF.out with h | h; exact absurd h hpf; exact h
    have H7 := toHid h7
    rw [h7]
    clear HV0 HV1 HPF hpf h7
    go_wp2
    go_ret
    exact ⟨q4, by rw [H7.out]; rfl, by rw [HV.out]; exact HL4.out⟩
end Go.Proofs.YtjegaljdindfaabGreatDoor
