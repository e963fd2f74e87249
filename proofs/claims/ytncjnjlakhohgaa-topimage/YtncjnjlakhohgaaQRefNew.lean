/-
NewDev and Crash of the document's own device.
-/
import Derived.Test.YtncjnjlakhohgaaQRefFlush
namespace Go.Proofs.Ytncjnjlakhohgaa
open Go.RowKit
attribute [local go_sem ↓] Go.wp_at_zero Go.wp_at_succ

theorem flS_rep (k : Nat) : flS (List.replicate (k + 1) noughts) = flS (List.replicate k noughts) ++ [.string (bytesOf noughts)] := by
  simp [flS, List.replicate_succ']

/- A new one that is being filled. -/
structure Growing (B : Nat) (w : World) (N : Nat) (v : Value) (k : Nat) (wr : Int) : Prop where
  blk : w.heap[N]? = some (.cells #[v, .slice none 0 0, .slice none 0 0, .int .i64 (-1), .int .i64 wr] 55 (0, 0))
  own : w.ownsRow B 9 1 v k (flS (List.replicate k noughts))

theorem Growing.step {B N k : Nat} {w wn w2 : World} {v : Value} {wr : Int} (h : Growing B w N v k wr) (hb : Below w.heap.size w wn) (C : Obj) (g cap : Nat)
    (hown : w2.ownsRow B 9 1 (.slice (some ⟨g, 0, none⟩) (k + 1) cap) (k + 1) (flS (List.replicate k noughts) ++ [.string (bytesOf noughts)])) (hg : (wn.alloc C).grownBy w2 v.ownBlock) :
    Growing B (w2.setCell ⟨N, 0, none⟩ (.slice (some ⟨g, 0, none⟩) (k + 1) cap)) N (.slice (some ⟨g, 0, none⟩) (k + 1) cap) (k + 1) wr ∧ w2.cell? ⟨N, 0, none⟩ = some v ∧ w2.frozen? ⟨N, 0, none⟩ = false := by
  have hNl := lt_of_some h.blk
  have hvn : v.ownBlock ≠ some N := fun e => by
    obtain ⟨cur, hh⟩ := ownsRow_kind h.own _ e
    rw [h.blk] at hh; cases hh
  have hN2 : w2.heap[N]? = some (.cells #[v, .slice none 0 0, .slice none 0 0, .int .i64 (-1), .int .i64 wr] 55 (0, 0)) := by
    rw [hg.block N (by have := hb.size; simp; omega) (Ne.symm hvn), Below.heap_alloc _ _ _ (by have := hb.size; omega), hb.block N hNl]; exact h.blk
  have hgN : g ≠ N := fun e => by
    obtain ⟨_, cur, hh, _⟩ := ownsRow_block hown
    rw [e, hN2] at hh; cases hh
  refine ⟨⟨?_, ?_⟩, ?_, frozen_of_row _ _ _ _ _ hN2⟩
  · rw [heap_setCell_same w2 N 0 _ _ _ hN2]; rfl
  · rw [flS_rep]
    exact ownsRow_keep hown (fun r e => by
      have : g = r := by simpa [Value.ownBlock] using e
      subst this
      exact heap_setCell_other _ _ _ _ hgN)
  · rw [cell_of_row w2 N _ _ _ _ hN2]; rfl

set_option maxRecDepth 100000 in
set_option maxHeartbeats 1000000 in
theorem newDev_any (n : Nat) (w : World) (h1 : 1 ≤ n) (h2 : n ≤ 200) :
    Calls Try.prog 24 #[.int .i64 (n : Int)] w fun e w' =>
      ∃ q : Rh, e = .returned (.pointer (some ⟨q.p, 0, none⟩)) ∧ IsRef w.heap.size w' q (DV.made (List.replicate n noughts) 0) ∧ Below w.heap.size w w' := by
  obtain ⟨i2, hi2, hy0, hy1, hy2⟩ := info_parts info_str
  go_enter Try.func24, Try.ntmps24
  go_wp2
  go_loopw [4] (fun i wr => ∃ (k : Nat) (v : Value), k ≤ n ∧ i = .int .i64 k ∧ Growing w.heap.size wr w.heap.size v k 0 ∧ Below w.heap.size w wr) (fun i _ => n - (intOf i).toNat)
  case atStart => exact ⟨0, .slice none 0 0, Nat.zero_le _, rfl, ⟨heap_alloc_new w _, World.ownsRow_nil _ _ _ _⟩, (Below.refl _ _).alloc (Nat.le_refl _) _⟩
  case round =>
    obtain ⟨k, v, hk, rfl, hgw, hbel⟩ := hrel
    have c0 : wr.cell? ⟨w.heap.size, 0, none⟩ = some v := by rw [cell_of_row _ _ _ _ _ _ hgw.blk]; rfl
    have hNl := lt_of_some hgw.blk
    have HG : Hid (Growing w.heap.size wr w.heap.size v k 0) := hgw
    have HB : Hid (Below w.heap.size w wr) := hbel
    have hbs := hbel.size
    have HM : Hid (k + 1 ≤ maxLen) := by unfold Hid maxLen; omega
    clear hgw hbel
    by_cases hlt : k < n
    · go_wp2
      go_region_law (first
        | (refine step_append_lies _ (by rfl) _ _ 22 (by rfl) w.heap.size 9 i2 (.string ⟨#[]⟩) 1 16 Try.underlying22 hi2 hy0 hy1 hy2 rfl (by decide) v k (flS (List.replicate k noughts)) (by rfl) HOW.out ⟨wn.heap.size, 0, none⟩ 1 1 [.string (bytesOf noughts)] (by rfl) (by rfl) (cell_one_new _ _ _) (fun u hu => by simp at hu; subst hu; rfl) (by decide) HM.out (by omega) HZ.out (wn.heap.size + 1) (by simp) ?_; intro g cap w2 hown hgrow hat hlt2
           have hst := HG.out.step HBN.out _ g cap hown hgrow
           have cs := hst.2.1
           have fs := hst.2.2
           have HG2 : Hid (Growing w.heap.size (w2.setCell ⟨w.heap.size, 0, none⟩ (.slice (some ⟨g, 0, none⟩) (k + 1) cap)) w.heap.size (.slice (some ⟨g, 0, none⟩) (k + 1) cap) (k + 1) 0) := hst.1
           have HB2 : Hid (Below w.heap.size w (w2.setCell ⟨w.heap.size, 0, none⟩ (.slice (some ⟨g, 0, none⟩) (k + 1) cap))) := (((HB.out.trans (HBN.out.mono hbs)).alloc (by have := HBN.out.size; omega) _).grown hgrow HZ.out (fun r e => (HG.out.own.lt r e).1)).setCell (Nat.le_refl _) _
           clear hst hown hgrow hat hlt2)
        | (go_simp; go_at_call 36; refine (noughts_any _).mono ?_; rintro e wn ⟨rfl, hbn⟩
           have cn : wn.cell? ⟨w.heap.size, 0, none⟩ = some v := by rw [hbn.cell hNl]; exact c0
           have hwn : w.heap.size < wn.heap.size := Nat.lt_of_lt_of_le hNl hbn.size
           have cna : (wn.alloc (.cells #[.string (bytesOf noughts)] 9)).cell? ⟨w.heap.size, 0, none⟩ = some v := by rw [World.cell?_alloc_past _ _ _ hwn]; exact cn
           have HBN : Hid (Below wr.heap.size wr wn) := ⟨hbn.os, hbn.tape, hbn.output, hbn.size, hbn.block⟩
           have hns := hbn.size
           have HOW : Hid ((wn.alloc (.cells #[.string (bytesOf noughts)] 9)).ownsRow w.heap.size 9 1 v k (flS (List.replicate k noughts))) := (ownsRow_keep HG.out.own (fun r e => HBN.out.block r (HG.out.own.lt r e).2)).alloc _
           have HZ : Hid (w.heap.size ≤ (wn.alloc (.cells #[.string (bytesOf noughts)] 9)).heap.size) := by unfold Hid; have := HBN.out.size; simp; omega
           clear hbn))
      all_goals go_wp2
      all_goals exact ⟨⟨k + 1, _, by omega, by go_num, HG2.out, HB2.out⟩, by simp [intOf]; omega⟩
    · have hkn : k = n := by omega
      subst hkn
      go_wp2
      go_ret
      obtain ⟨g, cap, rfl, _, _⟩ := HG.out.own.form h1
      refine ⟨⟨w.heap.size, g, cap, .slice none 0 0, .slice none 0 0⟩, rfl, ⟨Nat.le_refl _, ?_, ?_, World.ownsRow_nil _ _ _ _, World.ownsRow_nil _ _ _ _, fun e => by cases e⟩, HB.out⟩
      · show wr.heap[w.heap.size]? = some (.cells #[.slice (some ⟨g, 0, none⟩) (List.replicate k noughts).length cap, .slice none 0 0, .slice none 0 0, .int .i64 (-1), .int .i64 ((0 : Nat) : Int)] 55 (0, 0))
        rw [List.length_replicate]; exact HG.out.blk
      · show wr.ownsRow w.heap.size 9 1 (.slice (some ⟨g, 0, none⟩) (List.replicate k noughts).length cap) (List.replicate k noughts).length (flS (List.replicate k noughts))
        rw [List.length_replicate]; exact HG.out.own

theorem keepTo_ge (pend : List (Nat × List UInt8)) (ks : List Bool) (l : List (List UInt8)) (k j : Nat) (h : ks.length ≤ k) : keepTo pend ks l (k + j) = keepTo pend ks l k := by
  induction j with
  | zero => rfl
  | succ j ih =>
    rw [show k + (j + 1) = (k + j) + 1 by omega, keepTo_no (by rw [List.getD_eq_getElem?_getD, List.getElem?_eq_none (by omega)]; rfl), ih]

theorem flS_len (l : List (List UInt8)) : (flS l).length = l.length := by simp [flS]
theorem flS_one (l : List (List UInt8)) : ∀ u ∈ flS l, u.oneCell' = true := by
  intro u hu
  obtain ⟨x, _, rfl⟩ := List.mem_map.1 hu
  rfl

set_option maxRecDepth 100000 in
set_option maxHeartbeats 1000000 in
theorem refCrash_any {B : Nat} {q : Rh} {d : DV} (ka : Option Addr) (kl kc : Nat) (ks : List Bool) (w : World) (hd : IsRef B w q d) (hok : d.ok) (hK : Bools w ka kl ks) (hkl : kl ≤ maxLen) :
    Calls Try.prog 34 #[.pointer (some ⟨q.p, 0, none⟩), .slice ka kl kc] w fun e w' =>
      ∃ q' : Rh, e = .returned (.pointer (some ⟨q'.p, 0, none⟩)) ∧ IsRef w.heap.size w' q' (DV.made (keepTo d.pend ks d.fl d.pend.length) d.wr) ∧ Below w.heap.size w w' := by
  unfold maxLen at hkl
  obtain ⟨c0, c1, c2, c3, c4, fz⟩ := hd.cells
  obtain ⟨a1, k1, e1⟩ := ownsRow_shape hd.o1
  obtain ⟨a2, k2, e2⟩ := ownsRow_shape hd.o2
  have HE1 : Hid (q.v1 = .slice a1 d.pend.length k1) := e1
  have HE2 : Hid (q.v2 = .slice a2 d.pend.length k2) := e2
  rw [e1] at c1
  rw [e2] at c2
  have HD : Hid (IsRef B w q d) := hd
  have HL : Hid (∀ x ∈ d.pend, x.1 < d.fl.length ∧ x.2.length = 16) := hok.l3
  have HK : Hid (Bools w ka kl ks) := hK
  have h1 := hok.n1
  have h200 := hok.n2
  have hpw := hok.few
  have hpw2 := hok.few2
  have hpl : q.p < w.heap.size := (hd.lt q.p (.inl rfl)).2
  have hfl := (hd.lt q.bf (.inr (.inl rfl))).2
  obtain ⟨i2, hi2, hy0, hy1, hy2⟩ := info_parts info_str
  have HB0 : Hid (Below w.heap.size w (w.alloc (.cells #[.slice none 0 0, .slice none 0 0, .slice none 0 0, .int .i64 (-1), .int .i64 (d.wr : Int)] 55))) := (Below.refl _ _).alloc (Nat.le_refl _) _
  have HN0 : Hid ((w.alloc (.cells #[.slice none 0 0, .slice none 0 0, .slice none 0 0, .int .i64 (-1), .int .i64 (d.wr : Int)] 55)).heap[w.heap.size]? = some (.cells #[.slice none 0 0, .slice none 0 0, .slice none 0 0, .int .i64 (-1), .int .i64 (d.wr : Int)] 55 (0, 0))) := heap_alloc_new w _
  have HZ0 : Hid ((w.alloc (.cells #[.slice none 0 0, .slice none 0 0, .slice none 0 0, .int .i64 (-1), .int .i64 (d.wr : Int)] 55)).heap.size = w.heap.size + 1) := by unfold Hid; simp
  have HNW : Hid (∀ j u, (flS d.fl)[j]? = some u → (w.alloc (.cells #[.slice none 0 0, .slice none 0 0, .slice none 0 0, .int .i64 (-1), .int .i64 (d.wr : Int)] 55)).cell? ((⟨q.bf, 0, none⟩ : Addr).add j) = some u) := fun j u hj => by
    have := ownsRow_news hd.of j u hj
    rw [World.cell?_alloc_lt _ _ _ (World.block_lt_of_cell? w _ this)]; exact this
  have HMX : Hid (0 + d.fl.length ≤ maxLen) := by unfold Hid maxLen; omega
  have HLn : Hid ((flS d.fl).length = d.fl.length * 1) := by unfold Hid; rw [flS_len]; omega
  have c0' : (w.alloc (.cells #[.slice none 0 0, .slice none 0 0, .slice none 0 0, .int .i64 (-1), .int .i64 (d.wr : Int)] 55)).cell? ⟨q.p, 0, none⟩ = some (.slice (some ⟨q.bf, 0, none⟩) d.fl.length q.cf) := by rw [HB0.out.cell hpl]; exact c0
  have n0 : (w.alloc (.cells #[.slice none 0 0, .slice none 0 0, .slice none 0 0, .int .i64 (-1), .int .i64 (d.wr : Int)] 55)).cell? ⟨w.heap.size, 0, none⟩ = some (.slice none 0 0) := by rw [cell_of_row _ _ _ _ _ _ HN0.out]; rfl
  clear hd hok hK fz e1 e2 c3
  go_enter Try.func34, Try.ntmps34
  go_wp2
  generalize w.alloc (.cells #[.slice none 0 0, .slice none 0 0, .slice none 0 0, .int .i64 (-1), .int .i64 (d.wr : Int)] 55) = w0 at HB0 HN0 HZ0 HNW c0' n0 ⊢
  have HBB : Hid (w.heap.size ≤ w0.drew.heap.size) := by unfold Hid; show _ ≤ w0.heap.size; rw [HZ0.out]; omega
  have HZD : Hid (w0.drew.heap.size = w.heap.size + 1) := HZ0.out
  go_region_law (refine step_append_lies _ (by rfl) _ _ 22 (by rfl) w.heap.size 9 i2 (.string ⟨#[]⟩) 1 16 Try.underlying22 hi2 hy0 hy1 hy2 rfl (by decide) (.slice none 0 0) 0 [] (by rfl) (World.ownsRow_nil _ _ _ _) ⟨q.bf, 0, none⟩ d.fl.length q.cf (flS d.fl) (by rfl) HLn.out HNW.out (flS_one _) (by omega) HMX.out (by omega) HBB.out (w.heap.size + 1) HZD.out ?_; intro g cap w1 hown hgrow hat hlt; have hN1 : w1.heap[w.heap.size]? = some (.cells #[.slice none 0 0, .slice none 0 0, .slice none 0 0, .int .i64 (-1), .int .i64 (d.wr : Int)] 55 (0, 0)) := (hgrow.block w.heap.size (by rw [HZD.out]; omega) (fun e => by cases e)).trans HN0.out; have nc := cell_of_row w1 w.heap.size 0 _ _ _ hN1; have nf := frozen_of_row w1 w.heap.size 0 _ _ hN1; have HN1 : Hid (w1.heap[w.heap.size]? = some (.cells #[.slice none 0 0, .slice none 0 0, .slice none 0 0, .int .i64 (-1), .int .i64 (d.wr : Int)] 55 (0, 0))) := hN1; clear hN1)
  all_goals
    go_wp2
    rw [Nat.zero_add, List.nil_append] at hown
    have HR : Hid (RefIn w.heap.size (w1.setCell ⟨w.heap.size, 0, none⟩ (.slice (some ⟨g, 0, none⟩) d.fl.length cap)) ⟨w.heap.size, g, cap, .slice none 0 0, .slice none 0 0⟩ d.fl 0 [] 0 [] (-1) (d.wr : Int)) := by
      refine ⟨Nat.le_refl _, ?_, ?_, World.ownsRow_nil _ _ _ _, World.ownsRow_nil _ _ _ _, fun e => by cases e⟩
      · show (w1.setCell ⟨w.heap.size, 0, none⟩ (.slice (some ⟨g, 0, none⟩) d.fl.length cap)).heap[w.heap.size]? = _
        rw [heap_setCell_same w1 _ 0 _ _ _ HN1.out]; rfl
      · exact ownsRow_keep hown (fun r e => by
          have : g = r := by simpa [Value.ownBlock] using e
          subst this
          exact heap_setCell_other _ _ _ _ (fun e2 => by
            obtain ⟨_, cur, hh, _⟩ := ownsRow_block hown
            have e3 : g = w.heap.size := e2
            rw [e3, HN1.out] at hh; cases hh))
    have HBL : Hid (Below w.heap.size w (w1.setCell ⟨w.heap.size, 0, none⟩ (.slice (some ⟨g, 0, none⟩) d.fl.length cap))) := (HB0.out.drew.grown hgrow HBB.out (fun r e => by cases e)).setCell (Nat.le_refl _) _
    clear hown hgrow hat hlt nc nf HN1 HB0 HN0 HZ0 HNW c0' n0 HBB HZD
    go_loopw [6] (fun i wr => ∃ k : Nat, k ≤ d.pend.length ∧ k ≤ kl ∧ i = .int .i64 k ∧ RefIn w.heap.size wr ⟨w.heap.size, g, cap, .slice none 0 0, .slice none 0 0⟩ (keepTo d.pend ks d.fl k) 0 [] 0 [] (-1) (d.wr : Int) ∧ Below w.heap.size w wr) (fun i _ => d.pend.length - (intOf i).toNat)
    case atStart => exact ⟨0, Nat.zero_le _, Nat.zero_le _, rfl, HR.out, HBL.out⟩
    case round =>
      obtain ⟨k, hk, hk2, rfl, hr, hbel⟩ := hrel
      have c1' : wr.cell? ⟨q.p, 1, none⟩ = some (.slice a1 d.pend.length k1) := by rw [hbel.cell hpl]; exact c1
      have c2' : wr.cell? ⟨q.p, 2, none⟩ = some (.slice a2 d.pend.length k2) := by rw [hbel.cell hpl]; exact c2
      have n0 := hr.cell0
      rw [keepTo_len] at n0
      have HRk : Hid (RefIn w.heap.size wr ⟨w.heap.size, g, cap, .slice none 0 0, .slice none 0 0⟩ (keepTo d.pend ks d.fl k) 0 [] 0 [] (-1) (d.wr : Int)) := hr
      have HBk : Hid (Below w.heap.size w wr) := hbel
      by_cases hlt : k < d.pend.length
      · by_cases hlt2 : k < kl
        · obtain ⟨g1, z1, f1, q1, hg1, _⟩ := ownsRow_cell HD.out.o1 k hlt
          obtain ⟨g2, z2, f2, q2, hg2, _⟩ := ownsRow_cell HD.out.o2 k hlt
          rw [HE1.out] at f1
          rw [HE2.out] at f2
          cases f1
          cases f2
          rw [atS_at _ _ hlt, ← hbel.cell (p := ⟨g1, k, none⟩) hg1] at q1
          rw [whS_at _ _ hlt, ← hbel.cell (p := ⟨g2, k, none⟩) hg2] at q2
          have hxm : d.pend.getD k (0, []) ∈ d.pend := by
            rw [List.getD_eq_getElem?_getD, List.getElem?_eq_getElem hlt]; exact List.getElem_mem _
          have hx1 := (HL.out _ hxm).1
          obtain ⟨kb, ko, rfl, hkc⟩ := (HK.out.below hbel).2 k hlt2
          have cf := hr.of.cellAt (d.pend.getD k (0, [])).1 (by rw [keepTo_len]; omega)
          rw [flS_at _ _ (by rw [keepTo_len]; exact hx1)] at cf
          have ff := hr.of.frozenAt (d.pend.getD k (0, [])).1
          have HY : Hid (ks.getD k false = true → keepTo d.pend ks d.fl (k + 1) = (keepTo d.pend ks d.fl k).set (d.pend.getD k (0, [])).1 (d.pend.getD k (0, [])).2) := fun e => keepTo_yes e
          have HNo : Hid (ks.getD k false = false → keepTo d.pend ks d.fl (k + 1) = keepTo d.pend ks d.fl k) := fun e => keepTo_no e
          clear hxm hr hbel c1 c2
          generalize d.pend.getD k (0, []) = x at q1 q2 hx1 cf ff HY
          have hxi0 : (0 : Int) ≤ (x.1 : Int) := by omega
          have hxi1 : (x.1 : Int) < (d.fl.length : Int) := by omega
          have hki0 : (0 : Int) ≤ (k : Int) := by omega
          have hki1 : (k : Int) < (d.pend.length : Int) := by omega
          cases hb : ks.getD k false with
          | true =>
            rw [hb] at hkc
            have HX := HY.out hb
            have HXX : Hid (keepTo d.pend ks d.fl (k + 1) = (keepTo d.pend ks d.fl k).set x.1 x.2) := HX
            clear HX hb HY HNo
            go_wp2
            go_region
            go_wp2
            go_roundw
            case rel =>
              have fin : ∃ k' : Nat, k' ≤ d.pend.length ∧ k' ≤ kl ∧ Value.int .i64 ((k : Int) + 1) = .int .i64 k' ∧ RefIn w.heap.size ((wr.setCell ⟨g, x.1, none⟩ (.string (bytesOf x.2))).drew) ⟨w.heap.size, g, cap, .slice none 0 0, .slice none 0 0⟩ (keepTo d.pend ks d.fl k') 0 [] 0 [] (-1) (d.wr : Int) ∧ Below w.heap.size w ((wr.setCell ⟨g, x.1, none⟩ (.string (bytesOf x.2))).drew) :=
                ⟨k + 1, by omega, by omega, by go_num, by rw [HXX.out]; exact (HRk.out.setF x.1 x.2).drew, (HBk.out.setCell (ownsRow_block HRk.out.of).1 _).drew⟩
              first | exact fin | ((repeat apply Exists.intro); exact ⟨fin, rfl⟩)
            case measure => simp [intOf]; omega
          | false =>
            rw [hb] at hkc
            have HXX : Hid (keepTo d.pend ks d.fl (k + 1) = keepTo d.pend ks d.fl k) := HNo.out hb
            clear hb HY HNo
            go_wp2
            go_roundw
            case rel =>
              have fin : ∃ k' : Nat, k' ≤ d.pend.length ∧ k' ≤ kl ∧ Value.int .i64 ((k : Int) + 1) = .int .i64 k' ∧ RefIn w.heap.size wr ⟨w.heap.size, g, cap, .slice none 0 0, .slice none 0 0⟩ (keepTo d.pend ks d.fl k') 0 [] 0 [] (-1) (d.wr : Int) ∧ Below w.heap.size w wr :=
                ⟨k + 1, by omega, by omega, by go_num, by rw [HXX.out]; exact HRk.out, HBk.out⟩
              first | exact fin | ((repeat apply Exists.intro); exact ⟨fin, rfl⟩)
            case measure => simp [intOf]; omega
        · have hd2 : decide ((k : Int) < kl) = false := by simp; omega
          have HX : Hid (keepTo d.pend ks d.fl d.pend.length = keepTo d.pend ks d.fl k) := by
            unfold Hid
            rw [show d.pend.length = k + (d.pend.length - k) by omega, keepTo_ge _ _ _ _ _ (by rw [HK.out.1]; omega)]
          clear hr hbel
          go_wp2
          go_ret
          refine ⟨⟨w.heap.size, g, cap, .slice none 0 0, .slice none 0 0⟩, rfl, ?_, HBk.out⟩
          rw [HX.out]
          exact ⟨HRk.out.pB, HRk.out.blk, HRk.out.of, HRk.out.o1, HRk.out.o2, HRk.out.ne⟩
      · have hkn : k = d.pend.length := by omega
        subst hkn
        have hd2 : decide ((d.pend.length : Int) < (d.pend.length : Int)) = false := by simp
        clear hr hbel
        go_wp2
        go_ret
        exact ⟨⟨w.heap.size, g, cap, .slice none 0 0, .slice none 0 0⟩, rfl, ⟨HRk.out.pB, HRk.out.blk, HRk.out.of, HRk.out.o1, HRk.out.o2, HRk.out.ne⟩, HBk.out⟩
end Go.Proofs.Ytncjnjlakhohgaa
