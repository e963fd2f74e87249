/-
A write on a device whatever it meets; a copy of a device.
-/
import Derived.Test.YtmallmchibdkgaaDevWrite2
namespace Go.Proofs.Ytmallmchibdkgaa
open Go.RowKit
attribute [local go_sem ↓] Go.wp_at_zero Go.wp_at_succ

def DV.ticked (d : DV) : DV := if d.fail = -1 then d else d.failing (d.fail - 1)

theorem DV.ticked_fl (d : DV) : d.ticked.fl = d.fl := by unfold DV.ticked; split <;> rfl
theorem DV.ticked_wr (d : DV) : d.ticked.wr = d.wr := by unfold DV.ticked; split <;> rfl

set_option maxRecDepth 100000 in
set_option maxHeartbeats 400000 in
theorem fails_tick {B : Nat} {h : Hd} {d : DV} (w : World) (hd : IsDev B w h d) (hn : 0 < d.fail) :
    Calls Try.prog 60 #[.pointer (some ⟨h.p, 0, none⟩)] w fun e w' => e = .returned (.bool false) ∧ w' = w.setCell ⟨h.p, 4, none⟩ (.int .i64 (d.fail - 1)) := by
  obtain ⟨c0, c1, c2, c3, c4, fz⟩ := hd.cells
  have hm := hd.ok.f2
  have g1 : (d.fail == -1) = false := beq_eq_false_iff_ne.2 (by omega)
  have HE : Hid ((d.fail - 1 == -1) = false) := beq_eq_false_iff_ne.2 (by omega)
  clear hd
  go_enter Try.func60, Try.ntmps60
  go_wp2
  go_ret
  exact ⟨ret_b HE.out, rfl⟩

theorem write_ok {B : Nat} {h : Hd} {d : DV} (i : Nat) (s : ByteArray) (w : World) (hd : IsDev B w h d) (hB : B ≤ w.heap.size) (hs : s.size = 16) (hi : i < d.fl.length) (hw : d.wr < 1000000000) (hf : d.fail ≠ 0) :
    Calls Try.prog 24 #[.pointer (some ⟨h.p, 0, none⟩), .int .i64 (i : Int), .string s] w fun e w' =>
      ∃ v : Value, e = .returned .nilIface ∧ IsDev B w' { h with v2 := v } (d.ticked.wrote i s.data.toList) ∧ Kept h.fp w w' ∧ ∀ k, v.ownBlock = some k → h.v2.ownBlock = some k ∨ w.heap.size ≤ k := by
  have HH : Hid (Calls Try.prog 59 #[.pointer (some ⟨h.p, 0, none⟩), .int .i64 (i : Int)] w fun e w' => e = .returned (.bool true) ∧ w' = w) := by
    have := has_any (i : Int) w hd
    rw [show d.has (i : Int) = true by unfold DV.has; simp; omega] at this
    exact this
  by_cases h1 : d.fail = -1
  · have e : d.ticked = d := by unfold DV.ticked; rw [if_pos h1]
    rw [e]
    refine (write_go i s w w hd hB hs hi hw HH (fails_never w hd h1)).mono ?_
    rintro e w' ⟨v, rfl, a, b, c⟩
    exact ⟨v, rfl, a, b, fun k hk => by rcases c with c | c <;> rw [c] at hk; exact .inl hk; right; simp at hk; omega⟩
  · have h2 := hd.ok.f1
    have h3 := hd.ok.f2
    have e : d.ticked = d.failing (d.fail - 1) := by unfold DV.ticked; rw [if_neg h1]
    rw [e]
    have hsz : (w.setCell ⟨h.p, 4, none⟩ (.int .i64 (d.fail - 1))).heap.size = w.heap.size := by simp [World.setCell]
    refine (write_go i s w (w.setCell ⟨h.p, 4, none⟩ (.int .i64 (d.fail - 1))) (hd.failing (by omega) (by omega)) (by rw [hsz]; exact hB) hs hi hw HH (fails_tick w hd (by omega))).mono ?_
    rintro e w' ⟨v, rfl, a, b, c⟩
    refine ⟨v, rfl, a, ((Kept.refl _ w).setCell (.inl (.inl rfl)) _).trans b, fun k hk => ?_⟩
    rw [hsz] at c
    rcases c with c | c <;> rw [c] at hk
    · exact .inl hk
    · right; simp at hk; omega

theorem cloneWr_both {B : Nat} {h : Hd} {d : DV} (w : World) (hd : IsDev B w h d) :
    Calls Try.prog 64 #[h.v2] w fun e w' =>
      ∃ a c, e = .returned (.slice a d.pend.length c) ∧ w'.ownsRow w.heap.size 113 17 (.slice a d.pend.length c) d.pend.length (wrsV d.pend) ∧ Below w.heap.size w w' ∧ (d.pend = [] → (Value.slice a d.pend.length c) = .slice none 0 0) := by
  by_cases hp : d.pend = []
  · rw [hd.pn hp]
    refine (cloneWr_nil w).mono ?_
    rintro e w' ⟨rfl, rfl⟩
    rw [hp]
    exact ⟨none, 0, rfl, World.ownsRow_nil _ _ _ _, Below.refl _ _, fun _ => rfl⟩
  · have h1 : 1 ≤ d.pend.length := List.length_pos_iff.2 hp
    obtain ⟨g, cap, hv, _, _⟩ := hd.op.form h1
    have ho := hd.op
    rw [hv] at ho ⊢
    refine (cloneWr_any d.pend w h1 (by have := hd.ok.few; have := hd.ok.few2; omega) (fun x hx => (hd.ok.l3 x hx).2) ho).mono ?_
    rintro e w' ⟨g', cap', rfl, a, b⟩
    exact ⟨_, _, rfl, a, b, fun q => absurd q hp⟩

/- A copy: the same in all, apart. -/
set_option maxRecDepth 100000 in
set_option maxHeartbeats 1000000 in
theorem copy_any {B : Nat} {h : Hd} {d : DV} (w : World) (hd : IsDev B w h d) :
    Calls Try.prog 34 #[.pointer (some ⟨h.p, 0, none⟩)] w fun e w' =>
      ∃ h' : Hd, e = .returned (.pointer (some ⟨h'.p, 0, none⟩)) ∧ IsDev w.heap.size w' h' d ∧ Below w.heap.size w w' := by
  obtain ⟨c0, c1, c2, c3, c4, fz⟩ := hd.cells
  have hpl : h.p < w.heap.size := (hd.lt _ (.inl rfl)).2
  have HD : Hid (IsDev B w h d) := hd
  obtain ⟨va, vc, hv2⟩ := hd.v2
  have HV : Hid (h.v2 = .slice va d.pend.length vc) := hv2
  rw [hv2] at c2
  have h1 := hd.ok.n1
  have h200 := hd.ok.n2
  have HB0 : Hid (Below w.heap.size w (w.alloc (.cells #[.slice (some ⟨h.bf, 0, none⟩) d.fl.length h.cf, .slice (some ⟨h.bs, 0, none⟩) d.fl.length h.cs, .slice va d.pend.length vc, .int .i64 (d.wr : Int), .int .i64 d.fail] 110))) := (Below.refl _ _).alloc (Nat.le_refl _) _
  have HN0 : Hid ((w.alloc (.cells #[.slice (some ⟨h.bf, 0, none⟩) d.fl.length h.cf, .slice (some ⟨h.bs, 0, none⟩) d.fl.length h.cs, .slice va d.pend.length vc, .int .i64 (d.wr : Int), .int .i64 d.fail] 110)).heap[w.heap.size]? = some (.cells #[.slice (some ⟨h.bf, 0, none⟩) d.fl.length h.cf, .slice (some ⟨h.bs, 0, none⟩) d.fl.length h.cs, .slice va d.pend.length vc, .int .i64 (d.wr : Int), .int .i64 d.fail] 110 (0, 0))) := heap_alloc_new w _
  have HC0 : Hid ((w.alloc (.cells #[.slice (some ⟨h.bf, 0, none⟩) d.fl.length h.cf, .slice (some ⟨h.bs, 0, none⟩) d.fl.length h.cs, .slice va d.pend.length vc, .int .i64 (d.wr : Int), .int .i64 d.fail] 110)).heap.size = w.heap.size + 1) := by unfold Hid; simp
  have c0' : (w.alloc (.cells #[.slice (some ⟨h.bf, 0, none⟩) d.fl.length h.cf, .slice (some ⟨h.bs, 0, none⟩) d.fl.length h.cs, .slice va d.pend.length vc, .int .i64 (d.wr : Int), .int .i64 d.fail] 110)).cell? ⟨h.p, 0, none⟩ = some (.slice (some ⟨h.bf, 0, none⟩) d.fl.length h.cf) := by rw [HB0.out.cell hpl]; exact c0
  clear hd fz hv2
  go_enter Try.func34, Try.ntmps34
  go_wp2_with fail
  generalize w.alloc (.cells #[.slice (some ⟨h.bf, 0, none⟩) d.fl.length h.cf, .slice (some ⟨h.bs, 0, none⟩) d.fl.length h.cs, .slice va d.pend.length vc, .int .i64 (d.wr : Int), .int .i64 d.fail] 110) = w0 at HB0 HN0 HC0 c0' ⊢
  clear c0'
  have keep0 : ∀ W : World, Below w.heap.size w W → IsDev B W h d := fun W hb => HD.out.keep fun k hk => hb.block k (HD.out.lt k hk).2
  have HK : Hid (∀ W : World, Below w.heap.size w W → IsDev B W h d) := keep0
  clear keep0
  have hs0 : w.heap.size < w0.heap.size := by rw [HC0.out]; omega
  refine (cloneSec_any d.fl w0 h1 h200 HD.out.ok.l1 (HK.out w0 HB0.out).of).mono ?_
  rintro e w1 ⟨g1, k1, rfl, ho1, hb1⟩
  have HB1 : Hid (Below w.heap.size w (w1.setCell ⟨w.heap.size, 0, none⟩ (.slice (some ⟨g1, 0, none⟩) d.fl.length k1))) := (HB0.out.trans (hb1.mono (by omega))).setCell (Nat.le_refl _) _
  have hN1 : w1.heap[w.heap.size]? = _ := (hb1.block w.heap.size hs0).trans HN0.out
  have HN1 : Hid ((w1.setCell ⟨w.heap.size, 0, none⟩ (.slice (some ⟨g1, 0, none⟩) d.fl.length k1)).heap[w.heap.size]? = some (.cells #[.slice (some ⟨g1, 0, none⟩) d.fl.length k1, .slice (some ⟨h.bs, 0, none⟩) d.fl.length h.cs, .slice va d.pend.length vc, .int .i64 (d.wr : Int), .int .i64 d.fail] 110 (0, 0))) := by
    unfold Hid; rw [heap_setCell_same w1 _ 0 _ _ _ hN1]; rfl
  have HO1 : Hid ((w1.setCell ⟨w.heap.size, 0, none⟩ (.slice (some ⟨g1, 0, none⟩) d.fl.length k1)).ownsRow w0.heap.size 105 16 (.slice (some ⟨g1, 0, none⟩) d.fl.length k1) d.fl.length (secsV d.fl)) := ownsRow_keep ho1 (fun q e => by
    have : g1 = q := by simpa [Value.ownBlock] using e
    subst this
    have := (ownsRow_block ho1).1
    exact heap_setCell_other _ _ _ _ (show g1 ≠ w.heap.size by omega))
  have fN1 := frozen_of_row w1 w.heap.size 0 _ _ hN1
  have cN1 := cell_of_row w1 w.heap.size 0 _ _ _ hN1
  have c1' : (w1.setCell ⟨w.heap.size, 0, none⟩ (.slice (some ⟨g1, 0, none⟩) d.fl.length k1)).cell? ⟨h.p, 1, none⟩ = some (.slice (some ⟨h.bs, 0, none⟩) d.fl.length h.cs) := by rw [HB1.out.cell hpl]; exact c1
  have c2' : (w1.setCell ⟨w.heap.size, 0, none⟩ (.slice (some ⟨g1, 0, none⟩) d.fl.length k1)).cell? ⟨h.p, 2, none⟩ = some (.slice va d.pend.length vc) := by rw [HB1.out.cell hpl]; exact c2
  have hs1 : w0.heap.size ≤ (w1.setCell ⟨w.heap.size, 0, none⟩ (.slice (some ⟨g1, 0, none⟩) d.fl.length k1)).heap.size := by have := hb1.size; simpa [World.setCell] using this
  have hg1 : g1 < (w1.setCell ⟨w.heap.size, 0, none⟩ (.slice (some ⟨g1, 0, none⟩) d.fl.length k1)).heap.size := by
    obtain ⟨_, cur, hh, _⟩ := ownsRow_block HO1.out; exact lt_of_some hh
  clear ho1 hb1 HN0 HC0 HB0 hN1 c0
  go_wp2_with fail
  generalize w1.setCell ⟨w.heap.size, 0, none⟩ (.slice (some ⟨g1, 0, none⟩) d.fl.length k1) = W1 at HB1 HN1 HO1 c1' c2' hs1 hg1 ⊢
  clear c1' fN1 cN1
  have hseen : (HD.out.ok.same) = HD.out.ok.same := rfl
  have hos := (HK.out W1 HB1.out).os
  rw [← HD.out.ok.same] at hos
  have hcl := cloneSec_any d.seen W1 (by rw [HD.out.ok.same]; exact h1) (by rw [HD.out.ok.same]; exact h200) HD.out.ok.l2 hos
  rw [HD.out.ok.same] at hcl
  clear hseen hos
  refine hcl.mono ?_
  rintro e w2 ⟨g2, k2, rfl, ho2, hb2⟩
  clear hcl
  have HB2 : Hid (Below w.heap.size w (w2.setCell ⟨w.heap.size, 1, none⟩ (.slice (some ⟨g2, 0, none⟩) d.fl.length k2))) := (HB1.out.trans (hb2.mono (by omega))).setCell (Nat.le_refl _) _
  have hN2 : w2.heap[w.heap.size]? = _ := (hb2.block w.heap.size (by omega)).trans HN1.out
  have HN2 : Hid ((w2.setCell ⟨w.heap.size, 1, none⟩ (.slice (some ⟨g2, 0, none⟩) d.fl.length k2)).heap[w.heap.size]? = some (.cells #[.slice (some ⟨g1, 0, none⟩) d.fl.length k1, .slice (some ⟨g2, 0, none⟩) d.fl.length k2, .slice va d.pend.length vc, .int .i64 (d.wr : Int), .int .i64 d.fail] 110 (0, 0))) := by
    unfold Hid; rw [heap_setCell_same w2 _ 1 _ _ _ hN2]; rfl
  have hg1B := (ownsRow_block HO1.out).1
  have hg2B := (ownsRow_block ho2).1
  have HO1b : Hid ((w2.setCell ⟨w.heap.size, 1, none⟩ (.slice (some ⟨g2, 0, none⟩) d.fl.length k2)).ownsRow w0.heap.size 105 16 (.slice (some ⟨g1, 0, none⟩) d.fl.length k1) d.fl.length (secsV d.fl)) := ownsRow_keep HO1.out (fun q e => by
    have : g1 = q := by simpa [Value.ownBlock] using e
    subst this
    rw [heap_setCell_other _ _ _ _ (show g1 ≠ w.heap.size by omega)]; exact hb2.block g1 hg1)
  have HO2 : Hid ((w2.setCell ⟨w.heap.size, 1, none⟩ (.slice (some ⟨g2, 0, none⟩) d.fl.length k2)).ownsRow W1.heap.size 105 16 (.slice (some ⟨g2, 0, none⟩) d.fl.length k2) d.fl.length (secsV d.seen)) := ownsRow_keep ho2 (fun q e => by
    have : g2 = q := by simpa [Value.ownBlock] using e
    subst this
    exact heap_setCell_other _ _ _ _ (show g2 ≠ w.heap.size by omega))
  have fN2 := frozen_of_row w2 w.heap.size 1 _ _ hN2
  have cN2 := cell_of_row w2 w.heap.size 1 _ _ _ hN2
  have c2'' : (w2.setCell ⟨w.heap.size, 1, none⟩ (.slice (some ⟨g2, 0, none⟩) d.fl.length k2)).cell? ⟨h.p, 2, none⟩ = some (.slice va d.pend.length vc) := by rw [HB2.out.cell hpl]; exact c2
  have hs2 : W1.heap.size ≤ (w2.setCell ⟨w.heap.size, 1, none⟩ (.slice (some ⟨g2, 0, none⟩) d.fl.length k2)).heap.size := by have := hb2.size; simpa [World.setCell] using this
  have hg2 : g2 < (w2.setCell ⟨w.heap.size, 1, none⟩ (.slice (some ⟨g2, 0, none⟩) d.fl.length k2)).heap.size := by
    obtain ⟨_, cur, hh, _⟩ := ownsRow_block HO2.out; exact lt_of_some hh
  clear ho2 hb2 HN1 HB1 hN2 c1 c2' HO1
  go_wp2_with fail
  generalize w2.setCell ⟨w.heap.size, 1, none⟩ (.slice (some ⟨g2, 0, none⟩) d.fl.length k2) = W2 at HB2 HN2 HO1b HO2 c2'' hs2 hg2 ⊢
  clear c2'' fN2 cN2
  have hclw := cloneWr_both W2 (HK.out W2 HB2.out)
  rw [HV.out] at hclw
  refine hclw.mono ?_
  rintro e w3 ⟨a3, k3, rfl, ho3, hb3, hpn⟩
  clear hclw
  have HB3 : Hid (Below w.heap.size w (w3.setCell ⟨w.heap.size, 2, none⟩ (.slice a3 d.pend.length k3))) := (HB2.out.trans (hb3.mono (by omega))).setCell (Nat.le_refl _) _
  have hN3 : w3.heap[w.heap.size]? = _ := (hb3.block w.heap.size (by omega)).trans HN2.out
  have HFIN : Hid (IsDev w.heap.size (w3.setCell ⟨w.heap.size, 2, none⟩ (.slice a3 d.pend.length k3)) ⟨w.heap.size, g1, k1, g2, k2, .slice a3 d.pend.length k3⟩ d) := by
    refine ⟨HD.out.ok, Nat.le_refl _, ?_, ?_, ?_, ?_, show g1 ≠ g2 by omega, hpn⟩
    · show (w3.setCell ⟨w.heap.size, 2, none⟩ (.slice a3 d.pend.length k3)).heap[w.heap.size]? = _
      rw [heap_setCell_same w3 _ 2 _ _ _ hN3]; rfl
    · exact ownsRow_base (ownsRow_keep HO1b.out (fun q e => by
        have : g1 = q := by simpa [Value.ownBlock] using e
        subst this
        rw [heap_setCell_other _ _ _ _ (show g1 ≠ w.heap.size by omega)]; exact hb3.block g1 (by omega))) (by omega)
    · exact ownsRow_base (ownsRow_keep HO2.out (fun q e => by
        have : g2 = q := by simpa [Value.ownBlock] using e
        subst this
        rw [heap_setCell_other _ _ _ _ (show g2 ≠ w.heap.size by omega)]; exact hb3.block g2 hg2)) (by omega)
    · exact ownsRow_base (ownsRow_keep ho3 (fun q e => by
        have := (ho3.lt q e).1
        exact heap_setCell_other _ _ _ _ (show q ≠ w.heap.size by omega))) (by omega)
  have fN3 := frozen_of_row w3 w.heap.size 2 _ _ hN3
  have cN3 := cell_of_row w3 w.heap.size 2 _ _ _ hN3
  clear ho3 hb3 HN2 HB2 hN3 c2 HO1b HO2 hpn
  go_wp2
  go_ret
  exact ⟨⟨w.heap.size, g1, k1, g2, k2, .slice a3 d.pend.length k3⟩, rfl, HFIN.out, HB3.out⟩
end Go.Proofs.Ytmallmchibdkgaa
