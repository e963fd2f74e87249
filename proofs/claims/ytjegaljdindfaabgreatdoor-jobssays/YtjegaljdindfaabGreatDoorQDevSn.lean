/-
A write on the document's own device that goes well.
Flush, Crash and NewDev of the document's own device.
NewDev and Crash of the document's own device.
A device with a lower base; what is seen is what was flushed, and the pending writes over it.
-/
import Derived.Test.YtjegaljdindfaabGreatDoorQRefWalks
namespace Go.Proofs.YtjegaljdindfaabGreatDoor
open Go.RowKit
attribute [local go_sem ↓] Go.wp_at_zero Go.wp_at_succ

structure RefIn (B : Nat) (w : World) (q : Rh) (fl : List (List UInt8)) (n1 : Nat) (l1 : List Value) (n2 : Nat) (l2 : List Value) (fail wr : Int) : Prop where
  pB : B ≤ q.p
  blk : w.heap[q.p]? = some (.cells #[.slice (some ⟨q.bf, 0, none⟩) fl.length q.cf, q.v1, q.v2, .int .i64 fail, .int .i64 wr] 140 (0, 0))
  of : w.ownsRow B 9 1 (.slice (some ⟨q.bf, 0, none⟩) fl.length q.cf) fl.length (flS fl)
  o1 : w.ownsRow B 3 1 q.v1 n1 l1
  o2 : w.ownsRow B 9 1 q.v2 n2 l2
  ne : q.v2.ownBlock ≠ some q.bf

theorem IsRef.inn {B : Nat} {w : World} {q : Rh} {d : DV} (h : IsRef B w q d) : RefIn B w q d.fl d.pend.length (atS d.pend) d.pend.length (whS d.pend) d.fail (d.wr : Int) :=
  ⟨h.pB, h.blk, h.of, h.o1, h.o2, h.ne⟩

theorem RefIn.cells {B : Nat} {w : World} {q : Rh} {fl : List (List UInt8)} {n1 n2 : Nat} {l1 l2 : List Value} {fail wr : Int} (h : RefIn B w q fl n1 l1 n2 l2 fail wr) :
    w.cell? ⟨q.p, 1, none⟩ = some q.v1 ∧ w.cell? ⟨q.p, 2, none⟩ = some q.v2 ∧ w.cell? ⟨q.p, 4, none⟩ = some (.int .i64 wr) ∧ ∀ j, w.frozen? ⟨q.p, j, none⟩ = false := by
  have hb := h.blk
  refine ⟨?_, ?_, ?_, fun j => frozen_of_row w q.p j _ _ hb⟩ <;> rw [cell_of_row w q.p _ _ _ _ hb] <;> rfl

theorem RefIn.apart {B : Nat} {w : World} {q : Rh} {fl : List (List UInt8)} {n1 n2 : Nat} {l1 l2 : List Value} {fail wr : Int} (h : RefIn B w q fl n1 l1 n2 l2 fail wr) :
    q.bf ≠ q.p ∧ q.v1.ownBlock ≠ some q.p ∧ q.v2.ownBlock ≠ some q.p ∧ q.v1.ownBlock ≠ some q.bf ∧ (∀ k, q.v1.ownBlock = some k → q.v2.ownBlock ≠ some k) ∧ q.p < w.heap.size ∧ q.bf < w.heap.size := by
  obtain ⟨_, cf, hf2, _⟩ := ownsRow_block h.of
  have hp := h.blk
  refine ⟨fun e => ?_, fun e => ?_, fun e => ?_, fun e => ?_, fun k e1 e2 => ?_, lt_of_some hp, lt_of_some hf2⟩
  · rw [← e, hf2] at hp; cases hp
  · obtain ⟨cur, hh⟩ := ownsRow_kind h.o1 _ e; rw [hh] at hp; cases hp
  · obtain ⟨cur, hh⟩ := ownsRow_kind h.o2 _ e; rw [hh] at hp; cases hp
  · obtain ⟨cur, hh⟩ := ownsRow_kind h.o1 _ e; rw [hh] at hf2; cases hf2
  · obtain ⟨c1, h1⟩ := ownsRow_kind h.o1 _ e1
    obtain ⟨c2, h2⟩ := ownsRow_kind h.o2 _ e2
    rw [h1] at h2; cases h2

/- Behind an append to the list of places. -/
theorem RefIn.app1 {B : Nat} {w w1 : World} {q : Rh} {fl : List (List UInt8)} {n1 n2 : Nat} {l1 l2 : List Value} {fail wr : Int} (h : RefIn B w q fl n1 l1 n2 l2 fail wr) (C : Obj) (u : Value) (v : Value)
    (hown : w1.ownsRow B 3 1 v (n1 + 1) (l1 ++ [u])) (hg : (w.alloc C).grownBy w1 q.v1.ownBlock) :
    RefIn B (w1.setCell ⟨q.p, 1, none⟩ v) { q with v1 := v } fl (n1 + 1) (l1 ++ [u]) n2 l2 fail wr := by
  obtain ⟨a1, a2, a3, a4, a5, hpl, hfl⟩ := h.apart
  have hk : ∀ k, k < w.heap.size → q.v1.ownBlock ≠ some k → w1.heap[k]? = w.heap[k]? := fun k hk hn => by
    rw [hg.block k (by simp; omega) (Ne.symm hn), Below.heap_alloc _ _ _ hk]
  have hp1 : w1.heap[q.p]? = _ := (hk q.p hpl a2).trans h.blk
  refine ⟨h.pB, ?_, ?_, ?_, ?_, h.ne⟩
  · show (w1.setCell ⟨q.p, 1, none⟩ v).heap[q.p]? = _
    rw [heap_setCell_same w1 q.p 1 _ _ _ hp1]; rfl
  · exact ownsRow_keep h.of (fun k e => by
      have : q.bf = k := by simpa [Value.ownBlock] using e
      subst this
      rw [heap_setCell_other _ _ _ _ a1, hk _ hfl a4])
  · exact ownsRow_keep hown (fun k e => heap_setCell_other _ _ _ _ (fun e2 => by
      obtain ⟨cur, hh⟩ := ownsRow_kind hown k e
      rw [e2, hp1] at hh; cases hh))
  · exact ownsRow_keep h.o2 (fun k e => by
      rw [heap_setCell_other _ _ _ _ (fun e2 => a3 (by rw [e]; exact congrArg some e2)), hk _ (h.o2.lt k e).2 (fun e2 => a5 k e2 e)])

/- Behind an append to the list of texts. -/
theorem RefIn.app2 {B : Nat} {w w1 : World} {q : Rh} {fl : List (List UInt8)} {n1 n2 : Nat} {l1 l2 : List Value} {fail wr : Int} (h : RefIn B w q fl n1 l1 n2 l2 fail wr) (C : Obj) (u : Value) (g cap : Nat)
    (hown : w1.ownsRow B 9 1 (.slice (some ⟨g, 0, none⟩) (n2 + 1) cap) (n2 + 1) (l2 ++ [u])) (hg : (w.alloc C).grownBy w1 q.v2.ownBlock) (hat : q.v2.ownBlock = some g ∨ g = w.heap.size + 1) :
    RefIn B (w1.setCell ⟨q.p, 2, none⟩ (.slice (some ⟨g, 0, none⟩) (n2 + 1) cap)) { q with v2 := .slice (some ⟨g, 0, none⟩) (n2 + 1) cap } fl n1 l1 (n2 + 1) (l2 ++ [u]) fail wr := by
  obtain ⟨a1, a2, a3, a4, a5, hpl, hfl⟩ := h.apart
  have hk : ∀ k, k < w.heap.size → q.v2.ownBlock ≠ some k → w1.heap[k]? = w.heap[k]? := fun k hk hn => by
    rw [hg.block k (by simp; omega) (Ne.symm hn), Below.heap_alloc _ _ _ hk]
  have hp1 : w1.heap[q.p]? = _ := (hk q.p hpl a3).trans h.blk
  refine ⟨h.pB, ?_, ?_, ?_, ?_, ?_⟩
  · show (w1.setCell ⟨q.p, 2, none⟩ _).heap[q.p]? = _
    rw [heap_setCell_same w1 q.p 2 _ _ _ hp1]; rfl
  · exact ownsRow_keep h.of (fun k e => by
      have : q.bf = k := by simpa [Value.ownBlock] using e
      subst this
      rw [heap_setCell_other _ _ _ _ a1, hk _ hfl h.ne])
  · exact ownsRow_keep h.o1 (fun k e => by
      rw [heap_setCell_other _ _ _ _ (fun e2 => a2 (by rw [e]; exact congrArg some e2)), hk _ (h.o1.lt k e).2 (a5 k e)])
  · exact ownsRow_keep hown (fun k e => heap_setCell_other _ _ _ _ (fun e2 => by
      obtain ⟨cur, hh⟩ := ownsRow_kind hown k e
      rw [e2, hp1] at hh; cases hh))
  · show some g ≠ some q.bf
    intro e
    have e' : g = q.bf := by simpa using e
    rcases hat with q1 | q1
    · exact h.ne (by rw [q1, e'])
    · omega

theorem RefIn.wr {B : Nat} {w : World} {q : Rh} {d : DV} (i : Nat) (s : List UInt8) (h : RefIn B w q d.fl (d.pend.length + 1) (atS d.pend ++ [.int .i64 (i : Int)]) (d.pend.length + 1) (whS d.pend ++ [.string (bytesOf s)]) d.fail (d.wr : Int)) :
    IsRef B (w.setCell ⟨q.p, 4, none⟩ (.int .i64 ((d.wr : Int) + 1))) q (d.wrote i s) := by
  obtain ⟨a1, a2, a3, a4, a5, hpl, hfl⟩ := h.apart
  have hl : (d.wrote i s).pend.length = d.pend.length + 1 := by show (d.pend ++ [(i, s)]).length = _; simp
  have e1 : atS (d.wrote i s).pend = atS d.pend ++ [.int .i64 (i : Int)] := by show atS (d.pend ++ [(i, s)]) = _; simp [atS]
  have e2 : whS (d.wrote i s).pend = whS d.pend ++ [.string (bytesOf s)] := by show whS (d.pend ++ [(i, s)]) = _; simp [whS]
  refine ⟨h.pB, ?_, ?_, ?_, ?_, h.ne⟩
  · rw [heap_setCell_same w q.p 4 _ _ _ h.blk]; rfl
  · exact ownsRow_keep h.of (fun k e => heap_setCell_other _ _ _ _ (by
      have : q.bf = k := by simpa [Value.ownBlock] using e
      rw [← this]; exact a1))
  · rw [hl, e1]; exact ownsRow_keep h.o1 (fun k e => heap_setCell_other _ _ _ _ (fun e2 => a2 (by rw [e]; exact congrArg some e2)))
  · rw [hl, e2]; exact ownsRow_keep h.o2 (fun k e => heap_setCell_other _ _ _ _ (fun e2 => a3 (by rw [e]; exact congrArg some e2)))

/- Its own cells behind an append to another block. -/
theorem RefIn.grow {B : Nat} {w w1 : World} {q : Rh} {fl : List (List UInt8)} {n1 n2 : Nat} {l1 l2 : List Value} {fail wr : Int} {C : Obj} {row : Option Nat} (h : RefIn B w q fl n1 l1 n2 l2 fail wr) (hg : (w.alloc C).grownBy w1 row) (hn : row ≠ some q.p) (j : Nat) :
    w1.cell? ⟨q.p, j, none⟩ = w.cell? ⟨q.p, j, none⟩ ∧ w1.frozen? ⟨q.p, j, none⟩ = false := by
  obtain ⟨_, _, _, _, _, hpl, _⟩ := h.apart
  have e : w1.heap[q.p]? = w.heap[q.p]? := by rw [hg.block q.p (by simp; omega) (Ne.symm hn), Below.heap_alloc _ _ _ hpl]
  exact ⟨World.cell?_of_block e, by rw [World.frozen?_of_block (w := w) e]; exact frozen_of_row _ _ _ _ _ h.blk⟩

theorem news_set (w : World) (p : Addr) (u : Value) (x : Value) (t : TypeId) : ∀ j y, [x][j]? = some y → ((w.setCell p u).alloc (.cells #[x] t)).cell? ((⟨w.heap.size, 0, none⟩ : Addr).add j) = some y := by
  have hs : (w.setCell p u).heap.size = w.heap.size := by simp [World.setCell]
  have := cell_one_new (w.setCell p u) x t
  rw [hs] at this
  exact this

theorem bytesOf_data (s : ByteArray) : bytesOf s.data.toList = s := by
  apply ByteArray.ext
  simp [bytesOf]

set_option maxRecDepth 100000 in
set_option maxHeartbeats 1000000 in
theorem refWrite_ok {B : Nat} {q : Rh} {d : DV} (i : Nat) (s : ByteArray) (w : World) (hd : IsRef B w q d) (hB : B ≤ w.heap.size) (hs : s.size = 16) (hi : i < d.fl.length) (hf : d.fail ≠ 0) (hf1 : -1 ≤ d.fail) (hf2 : d.fail ≤ 9223372036854775807) (hp : d.pend.length ≤ d.wr) (hw : d.wr < 1000000000) :
    Calls Tryz.prog 80 #[.pointer (some ⟨q.p, 0, none⟩), .int .i64 (i : Int), .string s] w fun e w' =>
      ∃ q' : Rh, e = .returned (.int .i64 0) ∧ q'.p = q.p ∧ IsRef B w' q' (d.ticked.wrote i s.data.toList) ∧ Kept q.fp w w' := by
  obtain ⟨c0, c1, c2, c3, c4, fz⟩ := hd.cells
  have fz1 := fz 1
  have fz2 := fz 2
  have fz3 := fz 3
  have fz4 := fz 4
  have g0 : decide ((i : Int) < 0) = false := by simp
  have g1 : decide ((d.fl.length : Int) ≤ (i : Int)) = false := by simp; omega
  have h16 : ((s.size : Int) != 16) = false := by simp; omega
  have g3 : (d.fail == 0) = false := beq_eq_false_iff_ne.2 hf
  obtain ⟨i1, hi1, hx0, hx1, hx2⟩ := info_parts info_int
  obtain ⟨i2, hi2, hy0, hy1, hy2⟩ := info_parts info_str
  obtain ⟨ap1, ap2, ap3, ap4, ap5⟩ := hd.apart
  have hpl : q.p < w.heap.size := (hd.lt q.p (.inl rfl)).2
  have HM : Hid (d.pend.length + 1 ≤ maxLen) := by unfold Hid maxLen; omega
  by_cases h1 : d.fail = -1
  · have g4 : decide (0 < d.fail) = false := by simp; omega
    obtain ⟨D, hD⟩ : ∃ D, D = d := ⟨_, rfl⟩
    have et : d.ticked = D := by rw [hD]; unfold DV.ticked; rw [if_pos h1]
    rw [et]
    have HR : Hid (RefIn B w q d.fl d.pend.length (atS d.pend) d.pend.length (whS d.pend) D.fail (d.wr : Int)) := by rw [hD]; exact hd.inn
    have HO1 : Hid ((w.alloc (.cells #[.int .i64 (i : Int)] 3)).ownsRow B 3 1 q.v1 d.pend.length (atS d.pend)) := HR.out.o1.alloc _
    have HC1 : Hid (w.cell? ⟨q.p, 1, none⟩ = some q.v1) := HR.out.cells.1
    have HC2 : Hid (w.cell? ⟨q.p, 2, none⟩ = some q.v2) := HR.out.cells.2.1
    have HC4 : Hid (w.cell? ⟨q.p, 4, none⟩ = some (.int .i64 (d.wr : Int))) := HR.out.cells.2.2.1
    have HZ1 : Hid ((w.alloc (.cells #[.int .i64 (i : Int)] 3)).heap.size = w.heap.size + 1) := by unfold Hid; simp
    have HB1 : Hid (B ≤ (w.alloc (.cells #[.int .i64 (i : Int)] 3)).heap.size) := by unfold Hid; rw [HZ1.out]; omega
    have HN1 : Hid (∀ j y, ([.int .i64 (i : Int)] : List Value)[j]? = some y → (w.alloc (.cells #[.int .i64 (i : Int)] 3)).cell? ((⟨w.heap.size, 0, none⟩ : Addr).add j) = some y) := cell_one_new _ _ _
    have HKP : Hid (Kept q.fp w (w.alloc (.cells #[.int .i64 (i : Int)] 3))) := (Kept.refl _ _).alloc _
    have HDf : Hid (D.fl = d.fl ∧ D.pend = d.pend ∧ D.wr = d.wr) := by rw [hD]; exact ⟨rfl, rfl, rfl⟩
    clear hd fz et hD
    go_enter Tryz.func80, Tryz.ntmps80
    go_wp2_with (first
      | (at_builtin; refine wpList_append_lies _ (by rfl) _ _ 31 (by rfl) B 3 i1 (.int .i64 0) 1 8 Tryz.underlying31 hi1 hx0 hx1 hx2 rfl (by decide) q.v1 d.pend.length (atS d.pend) (by rfl) HO1.out ⟨w.heap.size, 0, none⟩ 1 1 [.int .i64 (i : Int)] (by rfl) (by rfl) HN1.out (fun u hu => by simp at hu; subst hu; rfl) (by decide) HM.out (by omega) HB1.out (w.heap.size + 1) HZ1.out ?_
         intro g k w1 hown hgrow hat hlt
         have zz := fun j => HR.out.grow hgrow ap2 j
         have z1 := (zz 1).1.trans HC1.out
         have z2 := (zz 2).1.trans HC2.out
         have z4 := (zz 4).1.trans HC4.out
         have f1 := (zz 1).2
         have f2 := (zz 2).2
         have f4 := (zz 4).2
         have HR1 : Hid (RefIn B (w1.setCell ⟨q.p, 1, none⟩ (.slice (some ⟨g, 0, none⟩) (d.pend.length + 1) k)) { q with v1 := (.slice (some ⟨g, 0, none⟩) (d.pend.length + 1) k) } d.fl (d.pend.length + 1) (atS d.pend ++ [.int .i64 (i : Int)]) d.pend.length (whS d.pend) D.fail (d.wr : Int)) := HR.out.app1 _ _ _ hown hgrow
         have HO2 : Hid (((w1.setCell ⟨q.p, 1, none⟩ (.slice (some ⟨g, 0, none⟩) (d.pend.length + 1) k)).alloc (.cells #[.string s] 9)).ownsRow B 9 1 q.v2 d.pend.length (whS d.pend)) := HR1.out.o2.alloc _
         have HN2 : Hid (∀ j y, ([.string s] : List Value)[j]? = some y → ((w1.setCell ⟨q.p, 1, none⟩ (.slice (some ⟨g, 0, none⟩) (d.pend.length + 1) k)).alloc (.cells #[.string s] 9)).cell? ((⟨w1.heap.size, 0, none⟩ : Addr).add j) = some y) := news_set _ _ _ _ _
         have HZ2 : Hid (((w1.setCell ⟨q.p, 1, none⟩ (.slice (some ⟨g, 0, none⟩) (d.pend.length + 1) k)).alloc (.cells #[.string s] 9)).heap.size = w1.heap.size + 1) := by unfold Hid; simp [World.setCell]
         have hsg := hgrow.size
         have HB2 : Hid (B ≤ ((w1.setCell ⟨q.p, 1, none⟩ (.slice (some ⟨g, 0, none⟩) (d.pend.length + 1) k)).alloc (.cells #[.string s] 9)).heap.size) := by unfold Hid; rw [HZ2.out]; have := HZ1.out; omega
         have HK1 : Hid (Kept q.fp w (w1.setCell ⟨q.p, 1, none⟩ (.slice (some ⟨g, 0, none⟩) (d.pend.length + 1) k))) := (HKP.out.grown (w := w.alloc (.cells #[.int .i64 (i : Int)] 3)) hgrow (fun r e => .inl (.inr (.inr (.inl e))))).setCell (.inl (.inl rfl)) _
         clear zz hown hgrow hat hlt hsg)
      | (at_builtin; refine wpList_append_lies _ (by rfl) _ _ 138 (by rfl) B 9 i2 (.string ⟨#[]⟩) 1 16 Tryz.underlying138 hi2 hy0 hy1 hy2 rfl (by decide) q.v2 d.pend.length (whS d.pend) (by rfl) HO2.out ⟨w1.heap.size, 0, none⟩ 1 1 [.string s] (by rfl) (by rfl) HN2.out (fun u hu => by simp at hu; subst hu; rfl) (by decide) HM.out (by omega) HB2.out (w1.heap.size + 1) HZ2.out ?_
         intro g2 k2 w2 hown2 hgrow2 hat2 hlt2
         have yy := fun j => HR1.out.grow hgrow2 ap3 j
         have y2 : w2.cell? ⟨q.p, 2, none⟩ = some q.v2 := (yy 2).1.trans HR1.out.cells.2.1
         have y4 : w2.cell? ⟨q.p, 4, none⟩ = some (.int .i64 (d.wr : Int)) := (yy 4).1.trans HR1.out.cells.2.2.1
         have e2 : w2.frozen? ⟨q.p, 2, none⟩ = false := (yy 2).2
         have e4 : w2.frozen? ⟨q.p, 4, none⟩ = false := (yy 4).2
         have HR2 : Hid (RefIn B (w2.setCell ⟨q.p, 2, none⟩ (.slice (some ⟨g2, 0, none⟩) (d.pend.length + 1) k2)) { q with v1 := (.slice (some ⟨g, 0, none⟩) (d.pend.length + 1) k), v2 := .slice (some ⟨g2, 0, none⟩) (d.pend.length + 1) k2 } d.fl (d.pend.length + 1) (atS d.pend ++ [.int .i64 (i : Int)]) (d.pend.length + 1) (whS d.pend ++ [.string s]) D.fail (d.wr : Int)) := HR1.out.app2 _ _ g2 k2 hown2 hgrow2 (by rcases hat2 with q1 | q1; exact .inl q1; exact .inr (by rw [q1]; simp [World.setCell]))
         have HK2 : Hid (Kept q.fp w (w2.setCell ⟨q.p, 2, none⟩ (.slice (some ⟨g2, 0, none⟩) (d.pend.length + 1) k2))) := ((HK1.out.alloc _).grown hgrow2 (fun r e => .inl (.inr (.inr (.inr e))))).setCell (.inl (.inl rfl)) _
         clear yy hown2 hgrow2 hat2 hlt2))
    go_ret
    refine ⟨{ q with v1 := (.slice (some ⟨g, 0, none⟩) (d.pend.length + 1) k), v2 := .slice (some ⟨g2, 0, none⟩) (d.pend.length + 1) k2 }, rfl, rfl, ?_, HK2.out.setCell (.inl (.inl rfl)) _⟩
    have hfin := HR2.out
    obtain ⟨d1, d2, d3⟩ := HDf.out
    rw [← d1, ← d2, ← d3] at hfin
    rw [← d2, ← d3]
    rw [← bytesOf_data s] at hfin
    exact RefIn.wr (d := D) i s.data.toList hfin
  · have g4 : decide (0 < d.fail) = true := by simp; omega
    obtain ⟨D, hD⟩ : ∃ D, D = d.failing (d.fail - 1) := ⟨_, rfl⟩
    have et : d.ticked = D := by rw [hD]; unfold DV.ticked; rw [if_neg h1]
    rw [et]
    have HR : Hid (RefIn B (w.setCell ⟨q.p, 3, none⟩ (.int .i64 (d.fail - 1))) q d.fl d.pend.length (atS d.pend) d.pend.length (whS d.pend) D.fail (d.wr : Int)) := by rw [hD]; exact (hd.failing (d.fail - 1)).inn
    have HO1 : Hid (((w.setCell ⟨q.p, 3, none⟩ (.int .i64 (d.fail - 1))).alloc (.cells #[.int .i64 (i : Int)] 3)).ownsRow B 3 1 q.v1 d.pend.length (atS d.pend)) := HR.out.o1.alloc _
    have HC1 : Hid ((w.setCell ⟨q.p, 3, none⟩ (.int .i64 (d.fail - 1))).cell? ⟨q.p, 1, none⟩ = some q.v1) := HR.out.cells.1
    have HC2 : Hid ((w.setCell ⟨q.p, 3, none⟩ (.int .i64 (d.fail - 1))).cell? ⟨q.p, 2, none⟩ = some q.v2) := HR.out.cells.2.1
    have HC4 : Hid ((w.setCell ⟨q.p, 3, none⟩ (.int .i64 (d.fail - 1))).cell? ⟨q.p, 4, none⟩ = some (.int .i64 (d.wr : Int))) := HR.out.cells.2.2.1
    have HZ1 : Hid (((w.setCell ⟨q.p, 3, none⟩ (.int .i64 (d.fail - 1))).alloc (.cells #[.int .i64 (i : Int)] 3)).heap.size = w.heap.size + 1) := by unfold Hid; simp [World.setCell]
    have HB1 : Hid (B ≤ ((w.setCell ⟨q.p, 3, none⟩ (.int .i64 (d.fail - 1))).alloc (.cells #[.int .i64 (i : Int)] 3)).heap.size) := by unfold Hid; rw [HZ1.out]; omega
    have HN1 : Hid (∀ j y, ([.int .i64 (i : Int)] : List Value)[j]? = some y → ((w.setCell ⟨q.p, 3, none⟩ (.int .i64 (d.fail - 1))).alloc (.cells #[.int .i64 (i : Int)] 3)).cell? ((⟨w.heap.size, 0, none⟩ : Addr).add j) = some y) := news_set _ _ _ _ _
    have HKP : Hid (Kept q.fp w ((w.setCell ⟨q.p, 3, none⟩ (.int .i64 (d.fail - 1))).alloc (.cells #[.int .i64 (i : Int)] 3))) := ((Kept.refl _ _).setCell (.inl (.inl rfl)) _).alloc _
    have HDf : Hid (D.fl = d.fl ∧ D.pend = d.pend ∧ D.wr = d.wr) := by rw [hD]; exact ⟨rfl, rfl, rfl⟩
    clear hd fz et hD
    go_enter Tryz.func80, Tryz.ntmps80
    go_wp2_with (first
      | (at_builtin; refine wpList_append_lies _ (by rfl) _ _ 31 (by rfl) B 3 i1 (.int .i64 0) 1 8 Tryz.underlying31 hi1 hx0 hx1 hx2 rfl (by decide) q.v1 d.pend.length (atS d.pend) (by rfl) HO1.out ⟨w.heap.size, 0, none⟩ 1 1 [.int .i64 (i : Int)] (by rfl) (by rfl) HN1.out (fun u hu => by simp at hu; subst hu; rfl) (by decide) HM.out (by omega) HB1.out (w.heap.size + 1) HZ1.out ?_
         intro g k w1 hown hgrow hat hlt
         have zz := fun j => HR.out.grow hgrow ap2 j
         have z1 := (zz 1).1.trans HC1.out
         have z2 := (zz 2).1.trans HC2.out
         have z4 := (zz 4).1.trans HC4.out
         have f1 := (zz 1).2
         have f2 := (zz 2).2
         have f4 := (zz 4).2
         have HR1 : Hid (RefIn B (w1.setCell ⟨q.p, 1, none⟩ (.slice (some ⟨g, 0, none⟩) (d.pend.length + 1) k)) { q with v1 := (.slice (some ⟨g, 0, none⟩) (d.pend.length + 1) k) } d.fl (d.pend.length + 1) (atS d.pend ++ [.int .i64 (i : Int)]) d.pend.length (whS d.pend) D.fail (d.wr : Int)) := HR.out.app1 _ _ _ hown hgrow
         have HO2 : Hid (((w1.setCell ⟨q.p, 1, none⟩ (.slice (some ⟨g, 0, none⟩) (d.pend.length + 1) k)).alloc (.cells #[.string s] 9)).ownsRow B 9 1 q.v2 d.pend.length (whS d.pend)) := HR1.out.o2.alloc _
         have HN2 : Hid (∀ j y, ([.string s] : List Value)[j]? = some y → ((w1.setCell ⟨q.p, 1, none⟩ (.slice (some ⟨g, 0, none⟩) (d.pend.length + 1) k)).alloc (.cells #[.string s] 9)).cell? ((⟨w1.heap.size, 0, none⟩ : Addr).add j) = some y) := news_set _ _ _ _ _
         have HZ2 : Hid (((w1.setCell ⟨q.p, 1, none⟩ (.slice (some ⟨g, 0, none⟩) (d.pend.length + 1) k)).alloc (.cells #[.string s] 9)).heap.size = w1.heap.size + 1) := by unfold Hid; simp [World.setCell]
         have hsg := hgrow.size
         have HB2 : Hid (B ≤ ((w1.setCell ⟨q.p, 1, none⟩ (.slice (some ⟨g, 0, none⟩) (d.pend.length + 1) k)).alloc (.cells #[.string s] 9)).heap.size) := by unfold Hid; rw [HZ2.out]; have := HZ1.out; omega
         have HK1 : Hid (Kept q.fp w (w1.setCell ⟨q.p, 1, none⟩ (.slice (some ⟨g, 0, none⟩) (d.pend.length + 1) k))) := (HKP.out.grown (w := (w.setCell ⟨q.p, 3, none⟩ (.int .i64 (d.fail - 1))).alloc (.cells #[.int .i64 (i : Int)] 3)) hgrow (fun r e => .inl (.inr (.inr (.inl e))))).setCell (.inl (.inl rfl)) _
         clear zz hown hgrow hat hlt hsg)
      | (at_builtin; refine wpList_append_lies _ (by rfl) _ _ 138 (by rfl) B 9 i2 (.string ⟨#[]⟩) 1 16 Tryz.underlying138 hi2 hy0 hy1 hy2 rfl (by decide) q.v2 d.pend.length (whS d.pend) (by rfl) HO2.out ⟨w1.heap.size, 0, none⟩ 1 1 [.string s] (by rfl) (by rfl) HN2.out (fun u hu => by simp at hu; subst hu; rfl) (by decide) HM.out (by omega) HB2.out (w1.heap.size + 1) HZ2.out ?_
         intro g2 k2 w2 hown2 hgrow2 hat2 hlt2
         have yy := fun j => HR1.out.grow hgrow2 ap3 j
         have y2 : w2.cell? ⟨q.p, 2, none⟩ = some q.v2 := (yy 2).1.trans HR1.out.cells.2.1
         have y4 : w2.cell? ⟨q.p, 4, none⟩ = some (.int .i64 (d.wr : Int)) := (yy 4).1.trans HR1.out.cells.2.2.1
         have e2 : w2.frozen? ⟨q.p, 2, none⟩ = false := (yy 2).2
         have e4 : w2.frozen? ⟨q.p, 4, none⟩ = false := (yy 4).2
         have HR2 : Hid (RefIn B (w2.setCell ⟨q.p, 2, none⟩ (.slice (some ⟨g2, 0, none⟩) (d.pend.length + 1) k2)) { q with v1 := (.slice (some ⟨g, 0, none⟩) (d.pend.length + 1) k), v2 := .slice (some ⟨g2, 0, none⟩) (d.pend.length + 1) k2 } d.fl (d.pend.length + 1) (atS d.pend ++ [.int .i64 (i : Int)]) (d.pend.length + 1) (whS d.pend ++ [.string s]) D.fail (d.wr : Int)) := HR1.out.app2 _ _ g2 k2 hown2 hgrow2 (by rcases hat2 with q1 | q1; exact .inl q1; exact .inr (by rw [q1]; simp [World.setCell]))
         have HK2 : Hid (Kept q.fp w (w2.setCell ⟨q.p, 2, none⟩ (.slice (some ⟨g2, 0, none⟩) (d.pend.length + 1) k2))) := ((HK1.out.alloc _).grown hgrow2 (fun r e => .inl (.inr (.inr (.inr e))))).setCell (.inl (.inl rfl)) _
         clear yy hown2 hgrow2 hat2 hlt2))
    go_ret
    refine ⟨{ q with v1 := (.slice (some ⟨g, 0, none⟩) (d.pend.length + 1) k), v2 := .slice (some ⟨g2, 0, none⟩) (d.pend.length + 1) k2 }, rfl, rfl, ?_, HK2.out.setCell (.inl (.inl rfl)) _⟩
    have hfin := HR2.out
    obtain ⟨d1, d2, d3⟩ := HDf.out
    rw [← d1, ← d2, ← d3] at hfin
    rw [← d2, ← d3]
    rw [← bytesOf_data s] at hfin
    exact RefIn.wr (d := D) i s.data.toList hfin
end Go.Proofs.YtjegaljdindfaabGreatDoor

namespace Go.Proofs.YtjegaljdindfaabGreatDoor
open Go.RowKit
attribute [local go_sem ↓] Go.wp_at_zero Go.wp_at_succ

/- All pending writes over what is flushed, the first k of them. -/
def setTo (pend : List (Nat × List UInt8)) (l : List (List UInt8)) : Nat → List (List UInt8)
  | 0 => l
  | k + 1 => (setTo pend l k).set (pend.getD k (0, [])).1 (pend.getD k (0, [])).2

theorem setTo_len (pend : List (Nat × List UInt8)) (l : List (List UInt8)) (k : Nat) : (setTo pend l k).length = l.length := by
  induction k with
  | zero => rfl
  | succ k ih => simp [setTo, ih]

def DV.sn (d : DV) : Prop := d.seen = setTo d.pend d.fl d.pend.length

theorem flS_set (l : List (List UInt8)) (i : Nat) (s : List UInt8) : flS (l.set i s) = (flS l).set i (.string (bytesOf s)) := by
  simp [flS, List.map_set]

/- One sector of what is flushed is set. -/
theorem RefIn.setF {B : Nat} {w : World} {q : Rh} {fl : List (List UInt8)} {n1 n2 : Nat} {l1 l2 : List Value} {fail wr : Int} (h : RefIn B w q fl n1 l1 n2 l2 fail wr) (i : Nat) (s : List UInt8) :
    RefIn B (w.setCell ⟨q.bf, i, none⟩ (.string (bytesOf s))) q (fl.set i s) n1 l1 n2 l2 fail wr := by
  obtain ⟨a1, a2, a3, a4, a5, hpl, hfl⟩ := h.apart
  refine ⟨h.pB, ?_, ?_, ?_, ?_, h.ne⟩
  · rw [heap_setCell_other _ _ _ _ (Ne.symm a1), List.length_set]; exact h.blk
  · rw [List.length_set, flS_set]; exact (h.of.stored i _).1
  · exact ownsRow_keep h.o1 (fun k e => heap_setCell_other _ _ _ _ (fun e2 => a4 (by rw [e]; exact congrArg some e2)))
  · exact ownsRow_keep h.o2 (fun k e => heap_setCell_other _ _ _ _ (fun e2 => h.ne (by rw [e]; exact congrArg some e2)))

theorem RefIn.drew {B : Nat} {w : World} {q : Rh} {fl : List (List UInt8)} {n1 n2 : Nat} {l1 l2 : List Value} {fail wr : Int} (h : RefIn B w q fl n1 l1 n2 l2 fail wr) : RefIn B w.drew q fl n1 l1 n2 l2 fail wr :=
  ⟨h.pB, h.blk, h.of, h.o1, h.o2, h.ne⟩

theorem RefIn.cell0 {B : Nat} {w : World} {q : Rh} {fl : List (List UInt8)} {n1 n2 : Nat} {l1 l2 : List Value} {fail wr : Int} (h : RefIn B w q fl n1 l1 n2 l2 fail wr) : w.cell? ⟨q.p, 0, none⟩ = some (.slice (some ⟨q.bf, 0, none⟩) fl.length q.cf) := by
  rw [cell_of_row w q.p _ _ _ _ h.blk]; rfl

theorem RefIn.emptied {B : Nat} {w : World} {q : Rh} {d : DV} (hs : d.sn) (h : RefIn B w q (setTo d.pend d.fl d.pend.length) d.pend.length (atS d.pend) d.pend.length (whS d.pend) d.fail (d.wr : Int)) :
    IsRef B ((w.setCell ⟨q.p, 1, none⟩ (.slice none 0 0)).setCell ⟨q.p, 2, none⟩ (.slice none 0 0)) { q with v1 := .slice none 0 0, v2 := .slice none 0 0 } d.flushed := by
  obtain ⟨a1, a2, a3, a4, a5, hpl, hfl⟩ := h.apart
  have hb1 := heap_setCell_same w q.p 1 _ _ (.slice none 0 0) h.blk
  refine ⟨h.pB, ?_, ?_, World.ownsRow_nil _ _ _ _, World.ownsRow_nil _ _ _ _, fun e => by cases e⟩
  · show ((w.setCell ⟨q.p, 1, none⟩ (.slice none 0 0)).setCell ⟨q.p, 2, none⟩ (.slice none 0 0)).heap[q.p]? = some (.cells #[.slice (some ⟨q.bf, 0, none⟩) d.seen.length q.cf, .slice none 0 0, .slice none 0 0, .int .i64 d.fail, .int .i64 (d.wr : Int)] 140 (0, 0))
    rw [heap_setCell_same _ q.p 2 _ _ _ hb1, hs]; rfl
  · show World.ownsRow _ B 9 1 (.slice (some ⟨q.bf, 0, none⟩) d.seen.length q.cf) d.seen.length (flS d.seen)
    rw [hs]
    exact ownsRow_keep h.of (fun k e => by
      have : q.bf = k := by simpa [Value.ownBlock] using e
      subst this
      rw [heap_setCell_other _ _ _ _ a1, heap_setCell_other _ _ _ _ a1])

set_option maxRecDepth 100000 in
set_option maxHeartbeats 1000000 in
theorem refFlush_any {B : Nat} {q : Rh} {d : DV} (w : World) (hd : IsRef B w q d) (hok : d.ok) (hs : d.sn) :
    Calls Tryz.prog 81 #[.pointer (some ⟨q.p, 0, none⟩)] w fun e w' => e = .returned (.tuple #[]) ∧ IsRef B w' { q with v1 := .slice none 0 0, v2 := .slice none 0 0 } d.flushed ∧ Kept q.fp w w' := by
  obtain ⟨a1, k1, e1⟩ := ownsRow_shape hd.o1
  obtain ⟨a2, k2, e2⟩ := ownsRow_shape hd.o2
  have HE1 : Hid (q.v1 = .slice a1 d.pend.length k1) := e1
  have HE2 : Hid (q.v2 = .slice a2 d.pend.length k2) := e2
  have HR : Hid (RefIn B w q d.fl d.pend.length (atS d.pend) d.pend.length (whS d.pend) d.fail (d.wr : Int)) := hd.inn
  have h200 := hok.n2
  have hpw := hok.few
  have hpw2 := hok.few2
  have HL : Hid (∀ x ∈ d.pend, x.1 < d.fl.length ∧ x.2.length = 16) := hok.l3
  have HS : Hid d.sn := hs
  clear hd hok hs e1 e2
  go_enter Tryz.func81, Tryz.ntmps81
  go_wp2
  go_loopw [2] (fun i wr => ∃ k : Nat, k ≤ d.pend.length ∧ i = .int .i64 k ∧ RefIn B wr q (setTo d.pend d.fl k) d.pend.length (atS d.pend) d.pend.length (whS d.pend) d.fail (d.wr : Int) ∧ Kept q.fp w wr) (fun i _ => d.pend.length - (intOf i).toNat)
  case atStart => exact ⟨0, Nat.zero_le _, rfl, HR.out, Kept.refl _ _⟩
  case round =>
    obtain ⟨k, hk, rfl, hr, hkp⟩ := hrel
    obtain ⟨c1, c2, c4, fz⟩ := hr.cells
    have c0 := hr.cell0
    rw [setTo_len] at c0
    rw [HE1.out] at c1
    rw [HE2.out] at c2
    have HRk : Hid (RefIn B wr q (setTo d.pend d.fl k) d.pend.length (atS d.pend) d.pend.length (whS d.pend) d.fail (d.wr : Int)) := hr
    have HKk : Hid (Kept q.fp w wr) := hkp
    by_cases hlt : k < d.pend.length
    · obtain ⟨g1, z1, f1, q1, _⟩ := ownsRow_cell hr.o1 k hlt
      obtain ⟨g2, z2, f2, q2, _⟩ := ownsRow_cell hr.o2 k hlt
      rw [HE1.out] at f1
      rw [HE2.out] at f2
      cases f1
      cases f2
      rw [atS_at _ _ hlt] at q1
      rw [whS_at _ _ hlt] at q2
      have hxm : d.pend.getD k (0, []) ∈ d.pend := by
        rw [List.getD_eq_getElem?_getD, List.getElem?_eq_getElem hlt]; exact List.getElem_mem _
      have hx1 := (HL.out _ hxm).1
      have HX : Hid (setTo d.pend d.fl (k + 1) = (setTo d.pend d.fl k).set (d.pend.getD k (0, [])).1 (d.pend.getD k (0, [])).2) := rfl
      have cf := hr.of.cellAt (d.pend.getD k (0, [])).1 (by rw [setTo_len]; omega)
      rw [flS_at _ _ (by rw [setTo_len]; exact hx1)] at cf
      have ff := hr.of.frozenAt (d.pend.getD k (0, [])).1
      clear hxm hr hkp c4 fz
      generalize d.pend.getD k (0, []) = x at q1 q2 hx1 HX cf ff
      have hxi0 : (0 : Int) ≤ (x.1 : Int) := by omega
      have hxi1 : (x.1 : Int) < (d.fl.length : Int) := by omega
      have hki0 : (0 : Int) ≤ (k : Int) := by omega
      have hki1 : (k : Int) < (d.pend.length : Int) := by omega
      go_wp2
      go_region
      go_wp2
      go_roundw
      case rel =>
        have fin : ∃ k' : Nat, k' ≤ d.pend.length ∧ Value.int .i64 ((k : Int) + 1) = .int .i64 k' ∧ RefIn B ((wr.setCell ⟨q.bf, x.1, none⟩ (.string (bytesOf x.2))).drew) q (setTo d.pend d.fl k') d.pend.length (atS d.pend) d.pend.length (whS d.pend) d.fail (d.wr : Int) ∧ Kept q.fp w ((wr.setCell ⟨q.bf, x.1, none⟩ (.string (bytesOf x.2))).drew) :=
          ⟨k + 1, by omega, by go_num, by rw [HX.out]; exact (HRk.out.setF x.1 x.2).drew, (HKk.out.setCell (.inl (.inr (.inl rfl))) _).drew⟩
        first | exact fin | ((repeat apply Exists.intro); exact ⟨fin, rfl⟩)
      case measure => simp [intOf]; omega
    · have hkn : k = d.pend.length := by omega
      subst hkn
      have f1 := fz 1
      have f2 := fz 2
      clear hr hkp fz
      go_wp2
      go_end0
      exact ⟨rfl, HRk.out.emptied HS.out, (HKk.out.setCell (.inl (.inl rfl)) _).setCell (.inl (.inl rfl)) _⟩
end Go.Proofs.YtjegaljdindfaabGreatDoor

namespace Go.Proofs.YtjegaljdindfaabGreatDoor
open Go.RowKit
attribute [local go_sem ↓] Go.wp_at_zero Go.wp_at_succ

theorem flS_rep (k : Nat) : flS (List.replicate (k + 1) noughts) = flS (List.replicate k noughts) ++ [.string (bytesOf noughts)] := by
  simp [flS, List.replicate_succ']

/- A new one that is being filled. -/
structure Growing (B : Nat) (w : World) (N : Nat) (v : Value) (k : Nat) (wr : Int) : Prop where
  blk : w.heap[N]? = some (.cells #[v, .slice none 0 0, .slice none 0 0, .int .i64 (-1), .int .i64 wr] 140 (0, 0))
  own : w.ownsRow B 9 1 v k (flS (List.replicate k noughts))

theorem Growing.step {B N k : Nat} {w wn w2 : World} {v : Value} {wr : Int} (h : Growing B w N v k wr) (hb : Below w.heap.size w wn) (C : Obj) (g cap : Nat)
    (hown : w2.ownsRow B 9 1 (.slice (some ⟨g, 0, none⟩) (k + 1) cap) (k + 1) (flS (List.replicate k noughts) ++ [.string (bytesOf noughts)])) (hg : (wn.alloc C).grownBy w2 v.ownBlock) :
    Growing B (w2.setCell ⟨N, 0, none⟩ (.slice (some ⟨g, 0, none⟩) (k + 1) cap)) N (.slice (some ⟨g, 0, none⟩) (k + 1) cap) (k + 1) wr ∧ w2.cell? ⟨N, 0, none⟩ = some v ∧ w2.frozen? ⟨N, 0, none⟩ = false := by
  have hNl := lt_of_some h.blk
  have hvn : v.ownBlock ≠ some N := fun e => by
    obtain ⟨cur, hh⟩ := ownsRow_kind h.own _ e
    rw [h.blk] at hh; cases hh
  have hN2 : w2.heap[N]? = some (.cells #[v, .slice none 0 0, .slice none 0 0, .int .i64 (-1), .int .i64 wr] 140 (0, 0)) := by
    rw [hg.block N (by have := hb.size; simp; omega) (Ne.symm hvn), Below.heap_alloc _ _ _ (by have := hb.size; omega), hb.block N hNl]; exact h.blk
  have hgN : g ≠ N := fun e => by
    obtain ⟨_, cur, hh, _⟩ := ownsRow_block hown
    rw [e, hN2] at hh; cases hh
  refine ⟨⟨?_, ?_⟩, ?_, frozen_of_row _ _ _ _ _ hN2⟩
  · rw [heap_setCell_same w2 N 0 _ _ _ hN2]; rfl
  · rw [flS_rep]
    exact ownsRow_keep hown (fun r e => by
      have : g = r := by simpa [Value.ownBlock] using e
      subst this
      exact heap_setCell_other _ _ _ _ hgN)
  · rw [cell_of_row w2 N _ _ _ _ hN2]; rfl

set_option maxRecDepth 100000 in
set_option maxHeartbeats 1000000 in
theorem newDev_any (n : Nat) (w : World) (h1 : 1 ≤ n) (h2 : n ≤ 200) :
    Calls Tryz.prog 28 #[.int .i64 (n : Int)] w fun e w' =>
      ∃ q : Rh, e = .returned (.pointer (some ⟨q.p, 0, none⟩)) ∧ IsRef w.heap.size w' q (DV.made (List.replicate n noughts) 0) ∧ Below w.heap.size w w' := by
  obtain ⟨i2, hi2, hy0, hy1, hy2⟩ := info_parts info_str
  go_enter Tryz.func28, Tryz.ntmps28
  go_wp2
  go_loopw [4] (fun i wr => ∃ (k : Nat) (v : Value), k ≤ n ∧ i = .int .i64 k ∧ Growing w.heap.size wr w.heap.size v k 0 ∧ Below w.heap.size w wr) (fun i _ => n - (intOf i).toNat)
  case atStart => exact ⟨0, .slice none 0 0, Nat.zero_le _, rfl, ⟨heap_alloc_new w _, World.ownsRow_nil _ _ _ _⟩, (Below.refl _ _).alloc (Nat.le_refl _) _⟩
  case round =>
    obtain ⟨k, v, hk, rfl, hgw, hbel⟩ := hrel
    have c0 : wr.cell? ⟨w.heap.size, 0, none⟩ = some v := by rw [cell_of_row _ _ _ _ _ _ hgw.blk]; rfl
    have hNl := lt_of_some hgw.blk
    have HG : Hid (Growing w.heap.size wr w.heap.size v k 0) := hgw
    have HB : Hid (Below w.heap.size w wr) := hbel
    have hbs := hbel.size
    have HM : Hid (k + 1 ≤ maxLen) := by unfold Hid maxLen; omega
    clear hgw hbel
    by_cases hlt : k < n
    · go_wp2
      go_region_law (first
        | (refine step_append_lies _ (by rfl) _ _ 138 (by rfl) w.heap.size 9 i2 (.string ⟨#[]⟩) 1 16 Tryz.underlying138 hi2 hy0 hy1 hy2 rfl (by decide) v k (flS (List.replicate k noughts)) (by rfl) HOW.out ⟨wn.heap.size, 0, none⟩ 1 1 [.string (bytesOf noughts)] (by rfl) (by rfl) (cell_one_new _ _ _) (fun u hu => by simp at hu; subst hu; rfl) (by decide) HM.out (by omega) HZ.out (wn.heap.size + 1) (by simp) ?_; intro g cap w2 hown hgrow hat hlt2
           have hst := HG.out.step HBN.out _ g cap hown hgrow
           have cs := hst.2.1
           have fs := hst.2.2
           have HG2 : Hid (Growing w.heap.size (w2.setCell ⟨w.heap.size, 0, none⟩ (.slice (some ⟨g, 0, none⟩) (k + 1) cap)) w.heap.size (.slice (some ⟨g, 0, none⟩) (k + 1) cap) (k + 1) 0) := hst.1
           have HB2 : Hid (Below w.heap.size w (w2.setCell ⟨w.heap.size, 0, none⟩ (.slice (some ⟨g, 0, none⟩) (k + 1) cap))) := (((HB.out.trans (HBN.out.mono hbs)).alloc (by have := HBN.out.size; omega) _).grown hgrow HZ.out (fun r e => (HG.out.own.lt r e).1)).setCell (Nat.le_refl _) _
           clear hst hown hgrow hat hlt2)
        | (go_simp; go_at_call 38; refine (noughts_any _).mono ?_; rintro e wn ⟨rfl, hbn⟩
           have cn : wn.cell? ⟨w.heap.size, 0, none⟩ = some v := by rw [hbn.cell hNl]; exact c0
           have hwn : w.heap.size < wn.heap.size := Nat.lt_of_lt_of_le hNl hbn.size
           have cna : (wn.alloc (.cells #[.string (bytesOf noughts)] 9)).cell? ⟨w.heap.size, 0, none⟩ = some v := by rw [World.cell?_alloc_past _ _ _ hwn]; exact cn
           have HBN : Hid (Below wr.heap.size wr wn) := ⟨hbn.os, hbn.tape, hbn.output, hbn.size, hbn.block⟩
           have hns := hbn.size
           have HOW : Hid ((wn.alloc (.cells #[.string (bytesOf noughts)] 9)).ownsRow w.heap.size 9 1 v k (flS (List.replicate k noughts))) := (ownsRow_keep HG.out.own (fun r e => HBN.out.block r (HG.out.own.lt r e).2)).alloc _
           have HZ : Hid (w.heap.size ≤ (wn.alloc (.cells #[.string (bytesOf noughts)] 9)).heap.size) := by unfold Hid; have := HBN.out.size; simp; omega
           clear hbn))
      all_goals go_wp2
      all_goals exact ⟨⟨k + 1, _, by omega, by go_num, HG2.out, HB2.out⟩, by simp [intOf]; omega⟩
    · have hkn : k = n := by omega
      subst hkn
      go_wp2
      go_ret
      obtain ⟨g, cap, rfl, _, _⟩ := HG.out.own.form h1
      refine ⟨⟨w.heap.size, g, cap, .slice none 0 0, .slice none 0 0⟩, rfl, ⟨Nat.le_refl _, ?_, ?_, World.ownsRow_nil _ _ _ _, World.ownsRow_nil _ _ _ _, fun e => by cases e⟩, HB.out⟩
      · show wr.heap[w.heap.size]? = some (.cells #[.slice (some ⟨g, 0, none⟩) (List.replicate k noughts).length cap, .slice none 0 0, .slice none 0 0, .int .i64 (-1), .int .i64 ((0 : Nat) : Int)] 140 (0, 0))
        rw [List.length_replicate]; exact HG.out.blk
      · show wr.ownsRow w.heap.size 9 1 (.slice (some ⟨g, 0, none⟩) (List.replicate k noughts).length cap) (List.replicate k noughts).length (flS (List.replicate k noughts))
        rw [List.length_replicate]; exact HG.out.own

theorem keepTo_ge (pend : List (Nat × List UInt8)) (ks : List Bool) (l : List (List UInt8)) (k j : Nat) (h : ks.length ≤ k) : keepTo pend ks l (k + j) = keepTo pend ks l k := by
  induction j with
  | zero => rfl
  | succ j ih =>
    rw [show k + (j + 1) = (k + j) + 1 by omega, keepTo_no (by rw [List.getD_eq_getElem?_getD, List.getElem?_eq_none (by omega)]; rfl), ih]

theorem flS_len (l : List (List UInt8)) : (flS l).length = l.length := by simp [flS]
theorem flS_one (l : List (List UInt8)) : ∀ u ∈ flS l, u.oneCell' = true := by
  intro u hu
  obtain ⟨x, _, rfl⟩ := List.mem_map.1 hu
  rfl

end Go.Proofs.YtjegaljdindfaabGreatDoor

namespace Go.Proofs.YtjegaljdindfaabGreatDoor
open Go.RowKit

/- A lower base. -/
theorem IsDev.base {B B' : Nat} {w : World} {h : Hd} {d : DV} (hd : IsDev B' w h d) (hB : B ≤ B') : IsDev B w h d :=
  ⟨hd.ok, Nat.le_trans hB hd.pB, hd.blk, ownsRow_base hd.of hB, ownsRow_base hd.os hB, ownsRow_base hd.op hB, hd.ne, hd.pn⟩
theorem IsRef.base {B B' : Nat} {w : World} {q : Rh} {d : DV} (hd : IsRef B' w q d) (hB : B ≤ B') : IsRef B w q d :=
  ⟨Nat.le_trans hB hd.pB, hd.blk, ownsRow_base hd.of hB, ownsRow_base hd.o1 hB, ownsRow_base hd.o2 hB, hd.ne⟩
theorem IsRef.kept {B : Nat} {w w' : World} {q : Rh} {d : DV} {S : Nat → Prop} (hd : IsRef B w q d) (hk : Kept S w w') (hs : ∀ k, q.fp k → ¬ S k) : IsRef B w' q d :=
  hd.keep fun k hf => hk.block k (hd.lt k hf).2 (hs k hf)

/- What is seen is what was flushed, and the pending writes over it. -/
theorem made_sn (l : List (List UInt8)) (wr : Nat) : (DV.made l wr).sn := rfl
theorem failing_sn {d : DV} (h : d.sn) (n : Int) : (d.failing n).sn := h
theorem ticked_sn {d : DV} (h : d.sn) : d.ticked.sn := by
  unfold DV.ticked; split
  · exact h
  · exact failing_sn h _
theorem flushed_sn (d : DV) : d.flushed.sn := rfl
theorem setTo_more (p r : List (Nat × List UInt8)) (l : List (List UInt8)) (k : Nat) (hk : k ≤ p.length) : setTo (p ++ r) l k = setTo p l k := by
  induction k with
  | zero => rfl
  | succ k ih =>
    show (setTo (p ++ r) l k).set _ _ = (setTo p l k).set _ _
    rw [ih (by omega)]
    have e : (p ++ r).getD k (0, []) = p.getD k (0, []) := by
      rw [List.getD_eq_getElem?_getD, List.getD_eq_getElem?_getD, List.getElem?_append_left (by omega)]
    rw [e]
theorem wrote_sn {d : DV} (h : d.sn) (i : Nat) (s : List UInt8) : (d.wrote i s).sn := by
  unfold DV.sn DV.wrote
  show d.seen.set i s = setTo (d.pend ++ [(i, s)]) d.fl (d.pend ++ [(i, s)]).length
  rw [List.length_append]
  show _ = (setTo (d.pend ++ [(i, s)]) d.fl d.pend.length).set _ _
  rw [setTo_more _ _ _ _ (Nat.le_refl _), ← h]
  have e : (d.pend ++ [(i, s)]).getD d.pend.length (0, []) = (i, s) := by
    rw [List.getD_eq_getElem?_getD, List.getElem?_append_right (Nat.le_refl _)]; simp
  rw [e]
end Go.Proofs.YtjegaljdindfaabGreatDoor
