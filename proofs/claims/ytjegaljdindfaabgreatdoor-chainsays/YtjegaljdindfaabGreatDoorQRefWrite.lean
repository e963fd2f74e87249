/-
A write on the document's own device that goes well.
-/
import Derived.Test.YtjegaljdindfaabGreatDoorQRefWalks
namespace Go.Proofs.YtjegaljdindfaabGreatDoor
open Go.RowKit
attribute [local go_sem ↓] Go.wp_at_zero Go.wp_at_succ

structure RefIn (B : Nat) (w : World) (q : Rh) (fl : List (List UInt8)) (n1 : Nat) (l1 : List Value) (n2 : Nat) (l2 : List Value) (fail wr : Int) : Prop where
  pB : B ≤ q.p
  blk : w.heap[q.p]? = some (.cells #[.slice (some ⟨q.bf, 0, none⟩) fl.length q.cf, q.v1, q.v2, .int .i64 fail, .int .i64 wr] 140 (0, 0))
  of : w.ownsRow B 9 1 (.slice (some ⟨q.bf, 0, none⟩) fl.length q.cf) fl.length (flS fl)
  o1 : w.ownsRow B 3 1 q.v1 n1 l1
  o2 : w.ownsRow B 9 1 q.v2 n2 l2
  ne : q.v2.ownBlock ≠ some q.bf

theorem IsRef.inn {B : Nat} {w : World} {q : Rh} {d : DV} (h : IsRef B w q d) : RefIn B w q d.fl d.pend.length (atS d.pend) d.pend.length (whS d.pend) d.fail (d.wr : Int) :=
  ⟨h.pB, h.blk, h.of, h.o1, h.o2, h.ne⟩

theorem RefIn.cells {B : Nat} {w : World} {q : Rh} {fl : List (List UInt8)} {n1 n2 : Nat} {l1 l2 : List Value} {fail wr : Int} (h : RefIn B w q fl n1 l1 n2 l2 fail wr) :
    w.cell? ⟨q.p, 1, none⟩ = some q.v1 ∧ w.cell? ⟨q.p, 2, none⟩ = some q.v2 ∧ w.cell? ⟨q.p, 4, none⟩ = some (.int .i64 wr) ∧ ∀ j, w.frozen? ⟨q.p, j, none⟩ = false := by
  have hb := h.blk
  refine ⟨?_, ?_, ?_, fun j => frozen_of_row w q.p j _ _ hb⟩ <;> rw [cell_of_row w q.p _ _ _ _ hb] <;> rfl

theorem RefIn.apart {B : Nat} {w : World} {q : Rh} {fl : List (List UInt8)} {n1 n2 : Nat} {l1 l2 : List Value} {fail wr : Int} (h : RefIn B w q fl n1 l1 n2 l2 fail wr) :
    q.bf ≠ q.p ∧ q.v1.ownBlock ≠ some q.p ∧ q.v2.ownBlock ≠ some q.p ∧ q.v1.ownBlock ≠ some q.bf ∧ (∀ k, q.v1.ownBlock = some k → q.v2.ownBlock ≠ some k) ∧ q.p < w.heap.size ∧ q.bf < w.heap.size := by
  obtain ⟨_, cf, hf2, _⟩ := ownsRow_block h.of
  have hp := h.blk
  refine ⟨fun e => ?_, fun e => ?_, fun e => ?_, fun e => ?_, fun k e1 e2 => ?_, lt_of_some hp, lt_of_some hf2⟩
  · rw [← e, hf2] at hp; cases hp
  · obtain ⟨cur, hh⟩ := ownsRow_kind h.o1 _ e; rw [hh] at hp; cases hp
  · obtain ⟨cur, hh⟩ := ownsRow_kind h.o2 _ e; rw [hh] at hp; cases hp
  · obtain ⟨cur, hh⟩ := ownsRow_kind h.o1 _ e; rw [hh] at hf2; cases hf2
  · obtain ⟨c1, h1⟩ := ownsRow_kind h.o1 _ e1
    obtain ⟨c2, h2⟩ := ownsRow_kind h.o2 _ e2
    rw [h1] at h2; cases h2

/- Behind an append to the list of places. -/
theorem RefIn.app1 {B : Nat} {w w1 : World} {q : Rh} {fl : List (List UInt8)} {n1 n2 : Nat} {l1 l2 : List Value} {fail wr : Int} (h : RefIn B w q fl n1 l1 n2 l2 fail wr) (C : Obj) (u : Value) (v : Value)
    (hown : w1.ownsRow B 3 1 v (n1 + 1) (l1 ++ [u])) (hg : (w.alloc C).grownBy w1 q.v1.ownBlock) :
    RefIn B (w1.setCell ⟨q.p, 1, none⟩ v) { q with v1 := v } fl (n1 + 1) (l1 ++ [u]) n2 l2 fail wr := by
  obtain ⟨a1, a2, a3, a4, a5, hpl, hfl⟩ := h.apart
  have hk : ∀ k, k < w.heap.size → q.v1.ownBlock ≠ some k → w1.heap[k]? = w.heap[k]? := fun k hk hn => by
    rw [hg.block k (by simp; omega) (Ne.symm hn), Below.heap_alloc _ _ _ hk]
  have hp1 : w1.heap[q.p]? = _ := (hk q.p hpl a2).trans h.blk
  refine ⟨h.pB, ?_, ?_, ?_, ?_, h.ne⟩
  · show (w1.setCell ⟨q.p, 1, none⟩ v).heap[q.p]? = _
    rw [heap_setCell_same w1 q.p 1 _ _ _ hp1]; rfl
  · exact ownsRow_keep h.of (fun k e => by
      have : q.bf = k := by simpa [Value.ownBlock] using e
      subst this
      rw [heap_setCell_other _ _ _ _ a1, hk _ hfl a4])
  · exact ownsRow_keep hown (fun k e => heap_setCell_other _ _ _ _ (fun e2 => by
      obtain ⟨cur, hh⟩ := ownsRow_kind hown k e
      rw [e2, hp1] at hh; cases hh))
  · exact ownsRow_keep h.o2 (fun k e => by
      rw [heap_setCell_other _ _ _ _ (fun e2 => a3 (by rw [e]; exact congrArg some e2)), hk _ (h.o2.lt k e).2 (fun e2 => a5 k e2 e)])

/- Behind an append to the list of texts. -/
theorem RefIn.app2 {B : Nat} {w w1 : World} {q : Rh} {fl : List (List UInt8)} {n1 n2 : Nat} {l1 l2 : List Value} {fail wr : Int} (h : RefIn B w q fl n1 l1 n2 l2 fail wr) (C : Obj) (u : Value) (g cap : Nat)
    (hown : w1.ownsRow B 9 1 (.slice (some ⟨g, 0, none⟩) (n2 + 1) cap) (n2 + 1) (l2 ++ [u])) (hg : (w.alloc C).grownBy w1 q.v2.ownBlock) (hat : q.v2.ownBlock = some g ∨ g = w.heap.size + 1) :
    RefIn B (w1.setCell ⟨q.p, 2, none⟩ (.slice (some ⟨g, 0, none⟩) (n2 + 1) cap)) { q with v2 := .slice (some ⟨g, 0, none⟩) (n2 + 1) cap } fl n1 l1 (n2 + 1) (l2 ++ [u]) fail wr := by
  obtain ⟨a1, a2, a3, a4, a5, hpl, hfl⟩ := h.apart
  have hk : ∀ k, k < w.heap.size → q.v2.ownBlock ≠ some k → w1.heap[k]? = w.heap[k]? := fun k hk hn => by
    rw [hg.block k (by simp; omega) (Ne.symm hn), Below.heap_alloc _ _ _ hk]
  have hp1 : w1.heap[q.p]? = _ := (hk q.p hpl a3).trans h.blk
  refine ⟨h.pB, ?_, ?_, ?_, ?_, ?_⟩
  · show (w1.setCell ⟨q.p, 2, none⟩ _).heap[q.p]? = _
    rw [heap_setCell_same w1 q.p 2 _ _ _ hp1]; rfl
  · exact ownsRow_keep h.of (fun k e => by
      have : q.bf = k := by simpa [Value.ownBlock] using e
      subst this
      rw [heap_setCell_other _ _ _ _ a1, hk _ hfl h.ne])
  · exact ownsRow_keep h.o1 (fun k e => by
      rw [heap_setCell_other _ _ _ _ (fun e2 => a2 (by rw [e]; exact congrArg some e2)), hk _ (h.o1.lt k e).2 (a5 k e)])
  · exact ownsRow_keep hown (fun k e => heap_setCell_other _ _ _ _ (fun e2 => by
      obtain ⟨cur, hh⟩ := ownsRow_kind hown k e
      rw [e2, hp1] at hh; cases hh))
  · show some g ≠ some q.bf
    intro e
    have e' : g = q.bf := by simpa using e
    rcases hat with q1 | q1
    · exact h.ne (by rw [q1, e'])
    · omega

theorem RefIn.wr {B : Nat} {w : World} {q : Rh} {d : DV} (i : Nat) (s : List UInt8) (h : RefIn B w q d.fl (d.pend.length + 1) (atS d.pend ++ [.int .i64 (i : Int)]) (d.pend.length + 1) (whS d.pend ++ [.string (bytesOf s)]) d.fail (d.wr : Int)) :
    IsRef B (w.setCell ⟨q.p, 4, none⟩ (.int .i64 ((d.wr : Int) + 1))) q (d.wrote i s) := by
  obtain ⟨a1, a2, a3, a4, a5, hpl, hfl⟩ := h.apart
  have hl : (d.wrote i s).pend.length = d.pend.length + 1 := by show (d.pend ++ [(i, s)]).length = _; simp
  have e1 : atS (d.wrote i s).pend = atS d.pend ++ [.int .i64 (i : Int)] := by show atS (d.pend ++ [(i, s)]) = _; simp [atS]
  have e2 : whS (d.wrote i s).pend = whS d.pend ++ [.string (bytesOf s)] := by show whS (d.pend ++ [(i, s)]) = _; simp [whS]
  refine ⟨h.pB, ?_, ?_, ?_, ?_, h.ne⟩
  · rw [heap_setCell_same w q.p 4 _ _ _ h.blk]; rfl
  · exact ownsRow_keep h.of (fun k e => heap_setCell_other _ _ _ _ (by
      have : q.bf = k := by simpa [Value.ownBlock] using e
      rw [← this]; exact a1))
  · rw [hl, e1]; exact ownsRow_keep h.o1 (fun k e => heap_setCell_other _ _ _ _ (fun e2 => a2 (by rw [e]; exact congrArg some e2)))
  · rw [hl, e2]; exact ownsRow_keep h.o2 (fun k e => heap_setCell_other _ _ _ _ (fun e2 => a3 (by rw [e]; exact congrArg some e2)))

/- Its own cells behind an append to another block. -/
theorem RefIn.grow {B : Nat} {w w1 : World} {q : Rh} {fl : List (List UInt8)} {n1 n2 : Nat} {l1 l2 : List Value} {fail wr : Int} {C : Obj} {row : Option Nat} (h : RefIn B w q fl n1 l1 n2 l2 fail wr) (hg : (w.alloc C).grownBy w1 row) (hn : row ≠ some q.p) (j : Nat) :
    w1.cell? ⟨q.p, j, none⟩ = w.cell? ⟨q.p, j, none⟩ ∧ w1.frozen? ⟨q.p, j, none⟩ = false := by
  obtain ⟨_, _, _, _, _, hpl, _⟩ := h.apart
  have e : w1.heap[q.p]? = w.heap[q.p]? := by rw [hg.block q.p (by simp; omega) (Ne.symm hn), Below.heap_alloc _ _ _ hpl]
  exact ⟨World.cell?_of_block e, by rw [World.frozen?_of_block (w := w) e]; exact frozen_of_row _ _ _ _ _ h.blk⟩

theorem news_set (w : World) (p : Addr) (u : Value) (x : Value) (t : TypeId) : ∀ j y, [x][j]? = some y → ((w.setCell p u).alloc (.cells #[x] t)).cell? ((⟨w.heap.size, 0, none⟩ : Addr).add j) = some y := by
  have hs : (w.setCell p u).heap.size = w.heap.size := by simp [World.setCell]
  have := cell_one_new (w.setCell p u) x t
  rw [hs] at this
  exact this

theorem bytesOf_data (s : ByteArray) : bytesOf s.data.toList = s := by
  apply ByteArray.ext
  simp [bytesOf]

set_option maxRecDepth 100000 in
set_option maxHeartbeats 1000000 in
theorem refWrite_ok {B : Nat} {q : Rh} {d : DV} (i : Nat) (s : ByteArray) (w : World) (hd : IsRef B w q d) (hB : B ≤ w.heap.size) (hs : s.size = 16) (hi : i < d.fl.length) (hf : d.fail ≠ 0) (hf1 : -1 ≤ d.fail) (hf2 : d.fail ≤ 9223372036854775807) (hp : d.pend.length ≤ d.wr) (hw : d.wr < 1000000000) :
    Calls Tryz.prog 80 #[.pointer (some ⟨q.p, 0, none⟩), .int .i64 (i : Int), .string s] w fun e w' =>
      ∃ q' : Rh, e = .returned (.int .i64 0) ∧ q'.p = q.p ∧ IsRef B w' q' (d.ticked.wrote i s.data.toList) ∧ Kept q.fp w w' := by
  obtain ⟨c0, c1, c2, c3, c4, fz⟩ := hd.cells
  have fz1 := fz 1
  have fz2 := fz 2
  have fz3 := fz 3
  have fz4 := fz 4
  have g0 : decide ((i : Int) < 0) = false := by simp
  have g1 : decide ((d.fl.length : Int) ≤ (i : Int)) = false := by simp; omega
  have h16 : ((s.size : Int) != 16) = false := by simp; omega
  have g3 : (d.fail == 0) = false := beq_eq_false_iff_ne.2 hf
  obtain ⟨i1, hi1, hx0, hx1, hx2⟩ := info_parts info_int
  obtain ⟨i2, hi2, hy0, hy1, hy2⟩ := info_parts info_str
  obtain ⟨ap1, ap2, ap3, ap4, ap5⟩ := hd.apart
  have hpl : q.p < w.heap.size := (hd.lt q.p (.inl rfl)).2
  have HM : Hid (d.pend.length + 1 ≤ maxLen) := by unfold Hid maxLen; omega
  by_cases h1 : d.fail = -1
  · have g4 : decide (0 < d.fail) = false := by simp; omega
    obtain ⟨D, hD⟩ : ∃ D, D = d := ⟨_, rfl⟩
    have et : d.ticked = D := by rw [hD]; unfold DV.ticked; rw [if_pos h1]
    rw [et]
    have HR : Hid (RefIn B w q d.fl d.pend.length (atS d.pend) d.pend.length (whS d.pend) D.fail (d.wr : Int)) := by rw [hD]; exact hd.inn
    have HO1 : Hid ((w.alloc (.cells #[.int .i64 (i : Int)] 3)).ownsRow B 3 1 q.v1 d.pend.length (atS d.pend)) := HR.out.o1.alloc _
    have HC1 : Hid (w.cell? ⟨q.p, 1, none⟩ = some q.v1) := HR.out.cells.1
    have HC2 : Hid (w.cell? ⟨q.p, 2, none⟩ = some q.v2) := HR.out.cells.2.1
    have HC4 : Hid (w.cell? ⟨q.p, 4, none⟩ = some (.int .i64 (d.wr : Int))) := HR.out.cells.2.2.1
    have HZ1 : Hid ((w.alloc (.cells #[.int .i64 (i : Int)] 3)).heap.size = w.heap.size + 1) := by unfold Hid; simp
    have HB1 : Hid (B ≤ (w.alloc (.cells #[.int .i64 (i : Int)] 3)).heap.size) := by unfold Hid; rw [HZ1.out]; omega
    have HN1 : Hid (∀ j y, ([.int .i64 (i : Int)] : List Value)[j]? = some y → (w.alloc (.cells #[.int .i64 (i : Int)] 3)).cell? ((⟨w.heap.size, 0, none⟩ : Addr).add j) = some y) := cell_one_new _ _ _
    have HKP : Hid (Kept q.fp w (w.alloc (.cells #[.int .i64 (i : Int)] 3))) := (Kept.refl _ _).alloc _
    have HDf : Hid (D.fl = d.fl ∧ D.pend = d.pend ∧ D.wr = d.wr) := by rw [hD]; exact ⟨rfl, rfl, rfl⟩
    clear hd fz et hD
    go_enter Tryz.func80, Tryz.ntmps80
    go_wp2_with (first
      | (at_builtin; refine wpList_append_lies _ (by rfl) _ _ 31 (by rfl) B 3 i1 (.int .i64 0) 1 8 Tryz.underlying31 hi1 hx0 hx1 hx2 rfl (by decide) q.v1 d.pend.length (atS d.pend) (by rfl) HO1.out ⟨w.heap.size, 0, none⟩ 1 1 [.int .i64 (i : Int)] (by rfl) (by rfl) HN1.out (fun u hu => by simp at hu; subst hu; rfl) (by decide) HM.out (by omega) HB1.out (w.heap.size + 1) HZ1.out ?_
         intro g k w1 hown hgrow hat hlt
         have zz := fun j => HR.out.grow hgrow ap2 j
         have z1 := (zz 1).1.trans HC1.out
         have z2 := (zz 2).1.trans HC2.out
         have z4 := (zz 4).1.trans HC4.out
         have f1 := (zz 1).2
         have f2 := (zz 2).2
         have f4 := (zz 4).2
         have HR1 : Hid (RefIn B (w1.setCell ⟨q.p, 1, none⟩ (.slice (some ⟨g, 0, none⟩) (d.pend.length + 1) k)) { q with v1 := (.slice (some ⟨g, 0, none⟩) (d.pend.length + 1) k) } d.fl (d.pend.length + 1) (atS d.pend ++ [.int .i64 (i : Int)]) d.pend.length (whS d.pend) D.fail (d.wr : Int)) := HR.out.app1 _ _ _ hown hgrow
         have HO2 : Hid (((w1.setCell ⟨q.p, 1, none⟩ (.slice (some ⟨g, 0, none⟩) (d.pend.length + 1) k)).alloc (.cells #[.string s] 9)).ownsRow B 9 1 q.v2 d.pend.length (whS d.pend)) := HR1.out.o2.alloc _
         have HN2 : Hid (∀ j y, ([.string s] : List Value)[j]? = some y → ((w1.setCell ⟨q.p, 1, none⟩ (.slice (some ⟨g, 0, none⟩) (d.pend.length + 1) k)).alloc (.cells #[.string s] 9)).cell? ((⟨w1.heap.size, 0, none⟩ : Addr).add j) = some y) := news_set _ _ _ _ _
         have HZ2 : Hid (((w1.setCell ⟨q.p, 1, none⟩ (.slice (some ⟨g, 0, none⟩) (d.pend.length + 1) k)).alloc (.cells #[.string s] 9)).heap.size = w1.heap.size + 1) := by unfold Hid; simp [World.setCell]
         have hsg := hgrow.size
         have HB2 : Hid (B ≤ ((w1.setCell ⟨q.p, 1, none⟩ (.slice (some ⟨g, 0, none⟩) (d.pend.length + 1) k)).alloc (.cells #[.string s] 9)).heap.size) := by unfold Hid; rw [HZ2.out]; have := HZ1.out; omega
         have HK1 : Hid (Kept q.fp w (w1.setCell ⟨q.p, 1, none⟩ (.slice (some ⟨g, 0, none⟩) (d.pend.length + 1) k))) := (HKP.out.grown (w := w.alloc (.cells #[.int .i64 (i : Int)] 3)) hgrow (fun r e => .inl (.inr (.inr (.inl e))))).setCell (.inl (.inl rfl)) _
         clear zz hown hgrow hat hlt hsg)
      | (at_builtin; refine wpList_append_lies _ (by rfl) _ _ 138 (by rfl) B 9 i2 (.string ⟨#[]⟩) 1 16 Tryz.underlying138 hi2 hy0 hy1 hy2 rfl (by decide) q.v2 d.pend.length (whS d.pend) (by rfl) HO2.out ⟨w1.heap.size, 0, none⟩ 1 1 [.string s] (by rfl) (by rfl) HN2.out (fun u hu => by simp at hu; subst hu; rfl) (by decide) HM.out (by omega) HB2.out (w1.heap.size + 1) HZ2.out ?_
         intro g2 k2 w2 hown2 hgrow2 hat2 hlt2
         have yy := fun j => HR1.out.grow hgrow2 ap3 j
         have y2 : w2.cell? ⟨q.p, 2, none⟩ = some q.v2 := (yy 2).1.trans HR1.out.cells.2.1
         have y4 : w2.cell? ⟨q.p, 4, none⟩ = some (.int .i64 (d.wr : Int)) := (yy 4).1.trans HR1.out.cells.2.2.1
         have e2 : w2.frozen? ⟨q.p, 2, none⟩ = false := (yy 2).2
         have e4 : w2.frozen? ⟨q.p, 4, none⟩ = false := (yy 4).2
         have HR2 : Hid (RefIn B (w2.setCell ⟨q.p, 2, none⟩ (.slice (some ⟨g2, 0, none⟩) (d.pend.length + 1) k2)) { q with v1 := (.slice (some ⟨g, 0, none⟩) (d.pend.length + 1) k), v2 := .slice (some ⟨g2, 0, none⟩) (d.pend.length + 1) k2 } d.fl (d.pend.length + 1) (atS d.pend ++ [.int .i64 (i : Int)]) (d.pend.length + 1) (whS d.pend ++ [.string s]) D.fail (d.wr : Int)) := HR1.out.app2 _ _ g2 k2 hown2 hgrow2 (by rcases hat2 with q1 | q1; exact .inl q1; exact .inr (by rw [q1]; simp [World.setCell]))
         have HK2 : Hid (Kept q.fp w (w2.setCell ⟨q.p, 2, none⟩ (.slice (some ⟨g2, 0, none⟩) (d.pend.length + 1) k2))) := ((HK1.out.alloc _).grown hgrow2 (fun r e => .inl (.inr (.inr (.inr e))))).setCell (.inl (.inl rfl)) _
         clear yy hown2 hgrow2 hat2 hlt2))
    go_ret
    refine ⟨{ q with v1 := (.slice (some ⟨g, 0, none⟩) (d.pend.length + 1) k), v2 := .slice (some ⟨g2, 0, none⟩) (d.pend.length + 1) k2 }, rfl, rfl, ?_, HK2.out.setCell (.inl (.inl rfl)) _⟩
    have hfin := HR2.out
    obtain ⟨d1, d2, d3⟩ := HDf.out
    rw [← d1, ← d2, ← d3] at hfin
    rw [← d2, ← d3]
    rw [← bytesOf_data s] at hfin
    exact RefIn.wr (d := D) i s.data.toList hfin
  · have g4 : decide (0 < d.fail) = true := by simp; omega
    obtain ⟨D, hD⟩ : ∃ D, D = d.failing (d.fail - 1) := ⟨_, rfl⟩
    have et : d.ticked = D := by rw [hD]; unfold DV.ticked; rw [if_neg h1]
    rw [et]
    have HR : Hid (RefIn B (w.setCell ⟨q.p, 3, none⟩ (.int .i64 (d.fail - 1))) q d.fl d.pend.length (atS d.pend) d.pend.length (whS d.pend) D.fail (d.wr : Int)) := by rw [hD]; exact (hd.failing (d.fail - 1)).inn
    have HO1 : Hid (((w.setCell ⟨q.p, 3, none⟩ (.int .i64 (d.fail - 1))).alloc (.cells #[.int .i64 (i : Int)] 3)).ownsRow B 3 1 q.v1 d.pend.length (atS d.pend)) := HR.out.o1.alloc _
    have HC1 : Hid ((w.setCell ⟨q.p, 3, none⟩ (.int .i64 (d.fail - 1))).cell? ⟨q.p, 1, none⟩ = some q.v1) := HR.out.cells.1
    have HC2 : Hid ((w.setCell ⟨q.p, 3, none⟩ (.int .i64 (d.fail - 1))).cell? ⟨q.p, 2, none⟩ = some q.v2) := HR.out.cells.2.1
    have HC4 : Hid ((w.setCell ⟨q.p, 3, none⟩ (.int .i64 (d.fail - 1))).cell? ⟨q.p, 4, none⟩ = some (.int .i64 (d.wr : Int))) := HR.out.cells.2.2.1
    have HZ1 : Hid (((w.setCell ⟨q.p, 3, none⟩ (.int .i64 (d.fail - 1))).alloc (.cells #[.int .i64 (i : Int)] 3)).heap.size = w.heap.size + 1) := by unfold Hid; simp [World.setCell]
    have HB1 : Hid (B ≤ ((w.setCell ⟨q.p, 3, none⟩ (.int .i64 (d.fail - 1))).alloc (.cells #[.int .i64 (i : Int)] 3)).heap.size) := by unfold Hid; rw [HZ1.out]; omega
    have HN1 : Hid (∀ j y, ([.int .i64 (i : Int)] : List Value)[j]? = some y → ((w.setCell ⟨q.p, 3, none⟩ (.int .i64 (d.fail - 1))).alloc (.cells #[.int .i64 (i : Int)] 3)).cell? ((⟨w.heap.size, 0, none⟩ : Addr).add j) = some y) := news_set _ _ _ _ _
    have HKP : Hid (Kept q.fp w ((w.setCell ⟨q.p, 3, none⟩ (.int .i64 (d.fail - 1))).alloc (.cells #[.int .i64 (i : Int)] 3))) := ((Kept.refl _ _).setCell (.inl (.inl rfl)) _).alloc _
    have HDf : Hid (D.fl = d.fl ∧ D.pend = d.pend ∧ D.wr = d.wr) := by rw [hD]; exact ⟨rfl, rfl, rfl⟩
    clear hd fz et hD
    go_enter Tryz.func80, Tryz.ntmps80
    go_wp2_with (first
      | (at_builtin; refine wpList_append_lies _ (by rfl) _ _ 31 (by rfl) B 3 i1 (.int .i64 0) 1 8 Tryz.underlying31 hi1 hx0 hx1 hx2 rfl (by decide) q.v1 d.pend.length (atS d.pend) (by rfl) HO1.out ⟨w.heap.size, 0, none⟩ 1 1 [.int .i64 (i : Int)] (by rfl) (by rfl) HN1.out (fun u hu => by simp at hu; subst hu; rfl) (by decide) HM.out (by omega) HB1.out (w.heap.size + 1) HZ1.out ?_
         intro g k w1 hown hgrow hat hlt
         have zz := fun j => HR.out.grow hgrow ap2 j
         have z1 := (zz 1).1.trans HC1.out
         have z2 := (zz 2).1.trans HC2.out
         have z4 := (zz 4).1.trans HC4.out
         have f1 := (zz 1).2
         have f2 := (zz 2).2
         have f4 := (zz 4).2
         have HR1 : Hid (RefIn B (w1.setCell ⟨q.p, 1, none⟩ (.slice (some ⟨g, 0, none⟩) (d.pend.length + 1) k)) { q with v1 := (.slice (some ⟨g, 0, none⟩) (d.pend.length + 1) k) } d.fl (d.pend.length + 1) (atS d.pend ++ [.int .i64 (i : Int)]) d.pend.length (whS d.pend) D.fail (d.wr : Int)) := HR.out.app1 _ _ _ hown hgrow
         have HO2 : Hid (((w1.setCell ⟨q.p, 1, none⟩ (.slice (some ⟨g, 0, none⟩) (d.pend.length + 1) k)).alloc (.cells #[.string s] 9)).ownsRow B 9 1 q.v2 d.pend.length (whS d.pend)) := HR1.out.o2.alloc _
         have HN2 : Hid (∀ j y, ([.string s] : List Value)[j]? = some y → ((w1.setCell ⟨q.p, 1, none⟩ (.slice (some ⟨g, 0, none⟩) (d.pend.length + 1) k)).alloc (.cells #[.string s] 9)).cell? ((⟨w1.heap.size, 0, none⟩ : Addr).add j) = some y) := news_set _ _ _ _ _
         have HZ2 : Hid (((w1.setCell ⟨q.p, 1, none⟩ (.slice (some ⟨g, 0, none⟩) (d.pend.length + 1) k)).alloc (.cells #[.string s] 9)).heap.size = w1.heap.size + 1) := by unfold Hid; simp [World.setCell]
         have hsg := hgrow.size
         have HB2 : Hid (B ≤ ((w1.setCell ⟨q.p, 1, none⟩ (.slice (some ⟨g, 0, none⟩) (d.pend.length + 1) k)).alloc (.cells #[.string s] 9)).heap.size) := by unfold Hid; rw [HZ2.out]; have := HZ1.out; omega
         have HK1 : Hid (Kept q.fp w (w1.setCell ⟨q.p, 1, none⟩ (.slice (some ⟨g, 0, none⟩) (d.pend.length + 1) k))) := (HKP.out.grown (w := (w.setCell ⟨q.p, 3, none⟩ (.int .i64 (d.fail - 1))).alloc (.cells #[.int .i64 (i : Int)] 3)) hgrow (fun r e => .inl (.inr (.inr (.inl e))))).setCell (.inl (.inl rfl)) _
         clear zz hown hgrow hat hlt hsg)
      | (at_builtin; refine wpList_append_lies _ (by rfl) _ _ 138 (by rfl) B 9 i2 (.string ⟨#[]⟩) 1 16 Tryz.underlying138 hi2 hy0 hy1 hy2 rfl (by decide) q.v2 d.pend.length (whS d.pend) (by rfl) HO2.out ⟨w1.heap.size, 0, none⟩ 1 1 [.string s] (by rfl) (by rfl) HN2.out (fun u hu => by simp at hu; subst hu; rfl) (by decide) HM.out (by omega) HB2.out (w1.heap.size + 1) HZ2.out ?_
         intro g2 k2 w2 hown2 hgrow2 hat2 hlt2
         have yy := fun j => HR1.out.grow hgrow2 ap3 j
         have y2 : w2.cell? ⟨q.p, 2, none⟩ = some q.v2 := (yy 2).1.trans HR1.out.cells.2.1
         have y4 : w2.cell? ⟨q.p, 4, none⟩ = some (.int .i64 (d.wr : Int)) := (yy 4).1.trans HR1.out.cells.2.2.1
         have e2 : w2.frozen? ⟨q.p, 2, none⟩ = false := (yy 2).2
         have e4 : w2.frozen? ⟨q.p, 4, none⟩ = false := (yy 4).2
         have HR2 : Hid (RefIn B (w2.setCell ⟨q.p, 2, none⟩ (.slice (some ⟨g2, 0, none⟩) (d.pend.length + 1) k2)) { q with v1 := (.slice (some ⟨g, 0, none⟩) (d.pend.length + 1) k), v2 := .slice (some ⟨g2, 0, none⟩) (d.pend.length + 1) k2 } d.fl (d.pend.length + 1) (atS d.pend ++ [.int .i64 (i : Int)]) (d.pend.length + 1) (whS d.pend ++ [.string s]) D.fail (d.wr : Int)) := HR1.out.app2 _ _ g2 k2 hown2 hgrow2 (by rcases hat2 with q1 | q1; exact .inl q1; exact .inr (by rw [q1]; simp [World.setCell]))
         have HK2 : Hid (Kept q.fp w (w2.setCell ⟨q.p, 2, none⟩ (.slice (some ⟨g2, 0, none⟩) (d.pend.length + 1) k2))) := ((HK1.out.alloc _).grown hgrow2 (fun r e => .inl (.inr (.inr (.inr e))))).setCell (.inl (.inl rfl)) _
         clear yy hown2 hgrow2 hat2 hlt2))
    go_ret
    refine ⟨{ q with v1 := (.slice (some ⟨g, 0, none⟩) (d.pend.length + 1) k), v2 := .slice (some ⟨g2, 0, none⟩) (d.pend.length + 1) k2 }, rfl, rfl, ?_, HK2.out.setCell (.inl (.inl rfl)) _⟩
    have hfin := HR2.out
    obtain ⟨d1, d2, d3⟩ := HDf.out
    rw [← d1, ← d2, ← d3] at hfin
    rw [← d2, ← d3]
    rw [← bytesOf_data s] at hfin
    exact RefIn.wr (d := D) i s.data.toList hfin
end Go.Proofs.YtjegaljdindfaabGreatDoor
