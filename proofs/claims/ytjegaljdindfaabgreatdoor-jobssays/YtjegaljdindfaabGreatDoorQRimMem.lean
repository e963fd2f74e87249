/-
A write on the document's own device that goes well; where the list of places then lies.
How the document's own image lies in memory; what its calls may turn; that it and the program's image stay while the other turns.
-/
import Derived.Test.YtjegaljdindfaabGreatDoorQDevSn
import Derived.Test.YtjegaljdindfaabGreatDoorQImgGets
import Derived.Test.YtjegaljdindfaabGreatDoorQImgFree
namespace Go.Proofs.YtjegaljdindfaabGreatDoor
open Go.RowKit
attribute [local go_sem ↓] Go.wp_at_zero Go.wp_at_succ

set_option maxRecDepth 100000 in
set_option maxHeartbeats 1000000 in
theorem refWrite_at {B : Nat} {q : Rh} {d : DV} (i : Nat) (s : ByteArray) (w : World) (hd : IsRef B w q d) (hB : B ≤ w.heap.size) (hs : s.size = 16) (hi : i < d.fl.length) (hf : d.fail ≠ 0) (hf1 : -1 ≤ d.fail) (hf2 : d.fail ≤ 9223372036854775807) (hp : d.pend.length ≤ d.wr) (hw : d.wr < 1000000000) :
    Calls Tryz.prog 80 #[.pointer (some ⟨q.p, 0, none⟩), .int .i64 (i : Int), .string s] w fun e w' =>
      ∃ q' : Rh, e = .returned (.int .i64 0) ∧ q'.p = q.p ∧ IsRef B w' q' (d.ticked.wrote i s.data.toList) ∧ Kept q.fp w w' ∧ (∀ r, q'.v1.ownBlock = some r → q.v1.ownBlock = some r ∨ w.heap.size ≤ r) ∧ q'.bf = q.bf ∧ ∀ r, q'.v2.ownBlock = some r → q.v2.ownBlock = some r ∨ w.heap.size ≤ r := by
  obtain ⟨c0, c1, c2, c3, c4, fz⟩ := hd.cells
  have fz1 := fz 1
  have fz2 := fz 2
  have fz3 := fz 3
  have fz4 := fz 4
  have g0 : decide ((i : Int) < 0) = false := by simp
  have g1 : decide ((d.fl.length : Int) ≤ (i : Int)) = false := by simp; omega
  have h16 : ((s.size : Int) != 16) = false := by simp; omega
  have g3 : (d.fail == 0) = false := beq_eq_false_iff_ne.2 hf
  obtain ⟨i1, hi1, hx0, hx1, hx2⟩ := info_parts info_int
  obtain ⟨i2, hi2, hy0, hy1, hy2⟩ := info_parts info_str
  obtain ⟨ap1, ap2, ap3, ap4, ap5⟩ := hd.apart
  have hpl : q.p < w.heap.size := (hd.lt q.p (.inl rfl)).2
  have HM : Hid (d.pend.length + 1 ≤ maxLen) := by unfold Hid maxLen; omega
  by_cases h1 : d.fail = -1
  · have g4 : decide (0 < d.fail) = false := by simp; omega
    obtain ⟨D, hD⟩ : ∃ D, D = d := ⟨_, rfl⟩
    have et : d.ticked = D := by rw [hD]; unfold DV.ticked; rw [if_pos h1]
    rw [et]
    have HR : Hid (RefIn B w q d.fl d.pend.length (atS d.pend) d.pend.length (whS d.pend) D.fail (d.wr : Int)) := by rw [hD]; exact hd.inn
    have HO1 : Hid ((w.alloc (.cells #[.int .i64 (i : Int)] 3)).ownsRow B 3 1 q.v1 d.pend.length (atS d.pend)) := HR.out.o1.alloc _
    have HC1 : Hid (w.cell? ⟨q.p, 1, none⟩ = some q.v1) := HR.out.cells.1
    have HC2 : Hid (w.cell? ⟨q.p, 2, none⟩ = some q.v2) := HR.out.cells.2.1
    have HC4 : Hid (w.cell? ⟨q.p, 4, none⟩ = some (.int .i64 (d.wr : Int))) := HR.out.cells.2.2.1
    have HZ1 : Hid ((w.alloc (.cells #[.int .i64 (i : Int)] 3)).heap.size = w.heap.size + 1) := by unfold Hid; simp
    have HB1 : Hid (B ≤ (w.alloc (.cells #[.int .i64 (i : Int)] 3)).heap.size) := by unfold Hid; rw [HZ1.out]; omega
    have HN1 : Hid (∀ j y, ([.int .i64 (i : Int)] : List Value)[j]? = some y → (w.alloc (.cells #[.int .i64 (i : Int)] 3)).cell? ((⟨w.heap.size, 0, none⟩ : Addr).add j) = some y) := cell_one_new _ _ _
    have HKP : Hid (Kept q.fp w (w.alloc (.cells #[.int .i64 (i : Int)] 3))) := (Kept.refl _ _).alloc _
    have HDf : Hid (D.fl = d.fl ∧ D.pend = d.pend ∧ D.wr = d.wr) := by rw [hD]; exact ⟨rfl, rfl, rfl⟩
    clear hd fz et hD
    go_enter Tryz.func80, Tryz.ntmps80
    go_wp2_with (first
      | (at_builtin; refine wpList_append_lies _ (by rfl) _ _ 31 (by rfl) B 3 i1 (.int .i64 0) 1 8 Tryz.underlying31 hi1 hx0 hx1 hx2 rfl (by decide) q.v1 d.pend.length (atS d.pend) (by rfl) HO1.out ⟨w.heap.size, 0, none⟩ 1 1 [.int .i64 (i : Int)] (by rfl) (by rfl) HN1.out (fun u hu => by simp at hu; subst hu; rfl) (by decide) HM.out (by omega) HB1.out (w.heap.size + 1) HZ1.out ?_
         intro g k w1 hown hgrow hat hlt
         have zz := fun j => HR.out.grow hgrow ap2 j
         have z1 := (zz 1).1.trans HC1.out
         have z2 := (zz 2).1.trans HC2.out
         have z4 := (zz 4).1.trans HC4.out
         have f1 := (zz 1).2
         have f2 := (zz 2).2
         have f4 := (zz 4).2
         have HR1 : Hid (RefIn B (w1.setCell ⟨q.p, 1, none⟩ (.slice (some ⟨g, 0, none⟩) (d.pend.length + 1) k)) { q with v1 := (.slice (some ⟨g, 0, none⟩) (d.pend.length + 1) k) } d.fl (d.pend.length + 1) (atS d.pend ++ [.int .i64 (i : Int)]) d.pend.length (whS d.pend) D.fail (d.wr : Int)) := HR.out.app1 _ _ _ hown hgrow
         have HO2 : Hid (((w1.setCell ⟨q.p, 1, none⟩ (.slice (some ⟨g, 0, none⟩) (d.pend.length + 1) k)).alloc (.cells #[.string s] 9)).ownsRow B 9 1 q.v2 d.pend.length (whS d.pend)) := HR1.out.o2.alloc _
         have HN2 : Hid (∀ j y, ([.string s] : List Value)[j]? = some y → ((w1.setCell ⟨q.p, 1, none⟩ (.slice (some ⟨g, 0, none⟩) (d.pend.length + 1) k)).alloc (.cells #[.string s] 9)).cell? ((⟨w1.heap.size, 0, none⟩ : Addr).add j) = some y) := news_set _ _ _ _ _
         have HZ2 : Hid (((w1.setCell ⟨q.p, 1, none⟩ (.slice (some ⟨g, 0, none⟩) (d.pend.length + 1) k)).alloc (.cells #[.string s] 9)).heap.size = w1.heap.size + 1) := by unfold Hid; simp [World.setCell]
         have hsg := hgrow.size
         have HSG : Hid (w.heap.size ≤ w1.heap.size) := by unfold Hid; have := HZ1.out; omega
         have HB2 : Hid (B ≤ ((w1.setCell ⟨q.p, 1, none⟩ (.slice (some ⟨g, 0, none⟩) (d.pend.length + 1) k)).alloc (.cells #[.string s] 9)).heap.size) := by unfold Hid; rw [HZ2.out]; have := HZ1.out; omega
         have HK1 : Hid (Kept q.fp w (w1.setCell ⟨q.p, 1, none⟩ (.slice (some ⟨g, 0, none⟩) (d.pend.length + 1) k))) := (HKP.out.grown (w := w.alloc (.cells #[.int .i64 (i : Int)] 3)) hgrow (fun r e => .inl (.inr (.inr (.inl e))))).setCell (.inl (.inl rfl)) _
         have HAT : Hid (q.v1.ownBlock = some g ∨ g = w.heap.size + 1) := hat
         clear zz hown hgrow hat hlt hsg)
      | (at_builtin; refine wpList_append_lies _ (by rfl) _ _ 138 (by rfl) B 9 i2 (.string ⟨#[]⟩) 1 16 Tryz.underlying138 hi2 hy0 hy1 hy2 rfl (by decide) q.v2 d.pend.length (whS d.pend) (by rfl) HO2.out ⟨w1.heap.size, 0, none⟩ 1 1 [.string s] (by rfl) (by rfl) HN2.out (fun u hu => by simp at hu; subst hu; rfl) (by decide) HM.out (by omega) HB2.out (w1.heap.size + 1) HZ2.out ?_
         intro g2 k2 w2 hown2 hgrow2 hat2 hlt2
         have yy := fun j => HR1.out.grow hgrow2 ap3 j
         have y2 : w2.cell? ⟨q.p, 2, none⟩ = some q.v2 := (yy 2).1.trans HR1.out.cells.2.1
         have y4 : w2.cell? ⟨q.p, 4, none⟩ = some (.int .i64 (d.wr : Int)) := (yy 4).1.trans HR1.out.cells.2.2.1
         have e2 : w2.frozen? ⟨q.p, 2, none⟩ = false := (yy 2).2
         have e4 : w2.frozen? ⟨q.p, 4, none⟩ = false := (yy 4).2
         have HR2 : Hid (RefIn B (w2.setCell ⟨q.p, 2, none⟩ (.slice (some ⟨g2, 0, none⟩) (d.pend.length + 1) k2)) { q with v1 := (.slice (some ⟨g, 0, none⟩) (d.pend.length + 1) k), v2 := .slice (some ⟨g2, 0, none⟩) (d.pend.length + 1) k2 } d.fl (d.pend.length + 1) (atS d.pend ++ [.int .i64 (i : Int)]) (d.pend.length + 1) (whS d.pend ++ [.string s]) D.fail (d.wr : Int)) := HR1.out.app2 _ _ g2 k2 hown2 hgrow2 (by rcases hat2 with q1 | q1; exact .inl q1; exact .inr (by rw [q1]; simp [World.setCell]))
         have HK2 : Hid (Kept q.fp w (w2.setCell ⟨q.p, 2, none⟩ (.slice (some ⟨g2, 0, none⟩) (d.pend.length + 1) k2))) := ((HK1.out.alloc _).grown hgrow2 (fun r e => .inl (.inr (.inr (.inr e))))).setCell (.inl (.inl rfl)) _
         have HAT2 : Hid (q.v2.ownBlock = some g2 ∨ w.heap.size ≤ g2) := by
           rcases hat2 with h | h
           · exact .inl h
           · exact .inr (by have := HSG.out; omega)
         clear yy hown2 hgrow2 hat2 hlt2))
    go_ret
    refine ⟨{ q with v1 := (.slice (some ⟨g, 0, none⟩) (d.pend.length + 1) k), v2 := .slice (some ⟨g2, 0, none⟩) (d.pend.length + 1) k2 }, rfl, rfl, ?_, HK2.out.setCell (.inl (.inl rfl)) _, fun r e => by
      have e' : g = r := by simpa [Value.ownBlock] using e
      rcases HAT.out with h | h
      · left; rw [h, e']
      · right; omega, rfl, fun r e => by
      have e' : g2 = r := by simpa [Value.ownBlock] using e
      rcases HAT2.out with h | h
      · left; rw [h, e']
      · right; omega⟩
    have hfin := HR2.out
    obtain ⟨d1, d2, d3⟩ := HDf.out
    rw [← d1, ← d2, ← d3] at hfin
    rw [← d2, ← d3]
    rw [← bytesOf_data s] at hfin
    exact RefIn.wr (d := D) i s.data.toList hfin
  · have g4 : decide (0 < d.fail) = true := by simp; omega
    obtain ⟨D, hD⟩ : ∃ D, D = d.failing (d.fail - 1) := ⟨_, rfl⟩
    have et : d.ticked = D := by rw [hD]; unfold DV.ticked; rw [if_neg h1]
    rw [et]
    have HR : Hid (RefIn B (w.setCell ⟨q.p, 3, none⟩ (.int .i64 (d.fail - 1))) q d.fl d.pend.length (atS d.pend) d.pend.length (whS d.pend) D.fail (d.wr : Int)) := by rw [hD]; exact (hd.failing (d.fail - 1)).inn
    have HO1 : Hid (((w.setCell ⟨q.p, 3, none⟩ (.int .i64 (d.fail - 1))).alloc (.cells #[.int .i64 (i : Int)] 3)).ownsRow B 3 1 q.v1 d.pend.length (atS d.pend)) := HR.out.o1.alloc _
    have HC1 : Hid ((w.setCell ⟨q.p, 3, none⟩ (.int .i64 (d.fail - 1))).cell? ⟨q.p, 1, none⟩ = some q.v1) := HR.out.cells.1
    have HC2 : Hid ((w.setCell ⟨q.p, 3, none⟩ (.int .i64 (d.fail - 1))).cell? ⟨q.p, 2, none⟩ = some q.v2) := HR.out.cells.2.1
    have HC4 : Hid ((w.setCell ⟨q.p, 3, none⟩ (.int .i64 (d.fail - 1))).cell? ⟨q.p, 4, none⟩ = some (.int .i64 (d.wr : Int))) := HR.out.cells.2.2.1
    have HZ1 : Hid (((w.setCell ⟨q.p, 3, none⟩ (.int .i64 (d.fail - 1))).alloc (.cells #[.int .i64 (i : Int)] 3)).heap.size = w.heap.size + 1) := by unfold Hid; simp [World.setCell]
    have HB1 : Hid (B ≤ ((w.setCell ⟨q.p, 3, none⟩ (.int .i64 (d.fail - 1))).alloc (.cells #[.int .i64 (i : Int)] 3)).heap.size) := by unfold Hid; rw [HZ1.out]; omega
    have HN1 : Hid (∀ j y, ([.int .i64 (i : Int)] : List Value)[j]? = some y → ((w.setCell ⟨q.p, 3, none⟩ (.int .i64 (d.fail - 1))).alloc (.cells #[.int .i64 (i : Int)] 3)).cell? ((⟨w.heap.size, 0, none⟩ : Addr).add j) = some y) := news_set _ _ _ _ _
    have HKP : Hid (Kept q.fp w ((w.setCell ⟨q.p, 3, none⟩ (.int .i64 (d.fail - 1))).alloc (.cells #[.int .i64 (i : Int)] 3))) := ((Kept.refl _ _).setCell (.inl (.inl rfl)) _).alloc _
    have HDf : Hid (D.fl = d.fl ∧ D.pend = d.pend ∧ D.wr = d.wr) := by rw [hD]; exact ⟨rfl, rfl, rfl⟩
    clear hd fz et hD
    go_enter Tryz.func80, Tryz.ntmps80
    go_wp2_with (first
      | (at_builtin; refine wpList_append_lies _ (by rfl) _ _ 31 (by rfl) B 3 i1 (.int .i64 0) 1 8 Tryz.underlying31 hi1 hx0 hx1 hx2 rfl (by decide) q.v1 d.pend.length (atS d.pend) (by rfl) HO1.out ⟨w.heap.size, 0, none⟩ 1 1 [.int .i64 (i : Int)] (by rfl) (by rfl) HN1.out (fun u hu => by simp at hu; subst hu; rfl) (by decide) HM.out (by omega) HB1.out (w.heap.size + 1) HZ1.out ?_
         intro g k w1 hown hgrow hat hlt
         have zz := fun j => HR.out.grow hgrow ap2 j
         have z1 := (zz 1).1.trans HC1.out
         have z2 := (zz 2).1.trans HC2.out
         have z4 := (zz 4).1.trans HC4.out
         have f1 := (zz 1).2
         have f2 := (zz 2).2
         have f4 := (zz 4).2
         have HR1 : Hid (RefIn B (w1.setCell ⟨q.p, 1, none⟩ (.slice (some ⟨g, 0, none⟩) (d.pend.length + 1) k)) { q with v1 := (.slice (some ⟨g, 0, none⟩) (d.pend.length + 1) k) } d.fl (d.pend.length + 1) (atS d.pend ++ [.int .i64 (i : Int)]) d.pend.length (whS d.pend) D.fail (d.wr : Int)) := HR.out.app1 _ _ _ hown hgrow
         have HO2 : Hid (((w1.setCell ⟨q.p, 1, none⟩ (.slice (some ⟨g, 0, none⟩) (d.pend.length + 1) k)).alloc (.cells #[.string s] 9)).ownsRow B 9 1 q.v2 d.pend.length (whS d.pend)) := HR1.out.o2.alloc _
         have HN2 : Hid (∀ j y, ([.string s] : List Value)[j]? = some y → ((w1.setCell ⟨q.p, 1, none⟩ (.slice (some ⟨g, 0, none⟩) (d.pend.length + 1) k)).alloc (.cells #[.string s] 9)).cell? ((⟨w1.heap.size, 0, none⟩ : Addr).add j) = some y) := news_set _ _ _ _ _
         have HZ2 : Hid (((w1.setCell ⟨q.p, 1, none⟩ (.slice (some ⟨g, 0, none⟩) (d.pend.length + 1) k)).alloc (.cells #[.string s] 9)).heap.size = w1.heap.size + 1) := by unfold Hid; simp [World.setCell]
         have hsg := hgrow.size
         have HSG : Hid (w.heap.size ≤ w1.heap.size) := by unfold Hid; have := HZ1.out; omega
         have HB2 : Hid (B ≤ ((w1.setCell ⟨q.p, 1, none⟩ (.slice (some ⟨g, 0, none⟩) (d.pend.length + 1) k)).alloc (.cells #[.string s] 9)).heap.size) := by unfold Hid; rw [HZ2.out]; have := HZ1.out; omega
         have HK1 : Hid (Kept q.fp w (w1.setCell ⟨q.p, 1, none⟩ (.slice (some ⟨g, 0, none⟩) (d.pend.length + 1) k))) := (HKP.out.grown (w := (w.setCell ⟨q.p, 3, none⟩ (.int .i64 (d.fail - 1))).alloc (.cells #[.int .i64 (i : Int)] 3)) hgrow (fun r e => .inl (.inr (.inr (.inl e))))).setCell (.inl (.inl rfl)) _
         have HAT : Hid (q.v1.ownBlock = some g ∨ g = w.heap.size + 1) := hat
         clear zz hown hgrow hat hlt hsg)
      | (at_builtin; refine wpList_append_lies _ (by rfl) _ _ 138 (by rfl) B 9 i2 (.string ⟨#[]⟩) 1 16 Tryz.underlying138 hi2 hy0 hy1 hy2 rfl (by decide) q.v2 d.pend.length (whS d.pend) (by rfl) HO2.out ⟨w1.heap.size, 0, none⟩ 1 1 [.string s] (by rfl) (by rfl) HN2.out (fun u hu => by simp at hu; subst hu; rfl) (by decide) HM.out (by omega) HB2.out (w1.heap.size + 1) HZ2.out ?_
         intro g2 k2 w2 hown2 hgrow2 hat2 hlt2
         have yy := fun j => HR1.out.grow hgrow2 ap3 j
         have y2 : w2.cell? ⟨q.p, 2, none⟩ = some q.v2 := (yy 2).1.trans HR1.out.cells.2.1
         have y4 : w2.cell? ⟨q.p, 4, none⟩ = some (.int .i64 (d.wr : Int)) := (yy 4).1.trans HR1.out.cells.2.2.1
         have e2 : w2.frozen? ⟨q.p, 2, none⟩ = false := (yy 2).2
         have e4 : w2.frozen? ⟨q.p, 4, none⟩ = false := (yy 4).2
         have HR2 : Hid (RefIn B (w2.setCell ⟨q.p, 2, none⟩ (.slice (some ⟨g2, 0, none⟩) (d.pend.length + 1) k2)) { q with v1 := (.slice (some ⟨g, 0, none⟩) (d.pend.length + 1) k), v2 := .slice (some ⟨g2, 0, none⟩) (d.pend.length + 1) k2 } d.fl (d.pend.length + 1) (atS d.pend ++ [.int .i64 (i : Int)]) (d.pend.length + 1) (whS d.pend ++ [.string s]) D.fail (d.wr : Int)) := HR1.out.app2 _ _ g2 k2 hown2 hgrow2 (by rcases hat2 with q1 | q1; exact .inl q1; exact .inr (by rw [q1]; simp [World.setCell]))
         have HK2 : Hid (Kept q.fp w (w2.setCell ⟨q.p, 2, none⟩ (.slice (some ⟨g2, 0, none⟩) (d.pend.length + 1) k2))) := ((HK1.out.alloc _).grown hgrow2 (fun r e => .inl (.inr (.inr (.inr e))))).setCell (.inl (.inl rfl)) _
         have HAT2 : Hid (q.v2.ownBlock = some g2 ∨ w.heap.size ≤ g2) := by
           rcases hat2 with h | h
           · exact .inl h
           · exact .inr (by have := HSG.out; omega)
         clear yy hown2 hgrow2 hat2 hlt2))
    go_ret
    refine ⟨{ q with v1 := (.slice (some ⟨g, 0, none⟩) (d.pend.length + 1) k), v2 := .slice (some ⟨g2, 0, none⟩) (d.pend.length + 1) k2 }, rfl, rfl, ?_, HK2.out.setCell (.inl (.inl rfl)) _, fun r e => by
      have e' : g = r := by simpa [Value.ownBlock] using e
      rcases HAT.out with h | h
      · left; rw [h, e']
      · right; omega, rfl, fun r e => by
      have e' : g2 = r := by simpa [Value.ownBlock] using e
      rcases HAT2.out with h | h
      · left; rw [h, e']
      · right; omega⟩
    have hfin := HR2.out
    obtain ⟨d1, d2, d3⟩ := HDf.out
    rw [← d1, ← d2, ← d3] at hfin
    rw [← d2, ← d3]
    rw [← bytesOf_data s] at hfin
    exact RefIn.wr (d := D) i s.data.toList hfin
end Go.Proofs.YtjegaljdindfaabGreatDoor

namespace Go.Proofs.YtjegaljdindfaabGreatDoor
open Go.RowKit Go.Maps
attribute [local go_sem ↓] Go.wp_at_zero Go.wp_at_succ

def KR (w : World) (k : Nat) : Prop := ∃ cur t, w.heap[k]? = some (.cells cur t (0, 0)) ∧ (t = 140 ∨ t = 9 ∨ t = 3 ∨ t = 90)
def SR (B : Gd) (w : World) (k : Nat) : Prop := ¬ B.g k ∧ KR w k
def KeptR (B : Gd) (w w' : World) : Prop := Kept (SR B w) w w'

theorem KR.of {w w' : World} {k : Nat} (e : w'.heap[k]? = w.heap[k]?) (h : KR w' k) : KR w k := by
  obtain ⟨cur, t, h1, h2⟩ := h
  exact ⟨cur, t, by rw [← e]; exact h1, h2⟩

theorem KeptR.trans {B : Gd} {a b c : World} (h : KeptR B a b) (k : KeptR B b c) : KeptR B a c := by
  refine ⟨k.os.trans h.os, k.tape.trans h.tape, k.output.trans h.output, Nat.le_trans h.size k.size, fun i hi hs => ?_⟩
  have e := h.block i hi hs
  rw [k.block i (Nat.lt_of_lt_of_le hi h.size) (fun s => hs ⟨s.1, s.2.of e⟩), e]

theorem KeptR.refl (B : Gd) (w : World) : KeptR B w w := Kept.refl _ _
theorem KeptR.of_below {B : Gd} {w w' : World} (h : Below w.heap.size w w') : KeptR B w w' := Below.kept h
theorem KeptR.below {B : Nat} {w w' : World} (h : KeptR B w w') (hB : B ≤ w.heap.size) : Below B w w' := Kept.below h hB fun _ hk => Nat.le_of_not_lt hk.1
theorem KeptR.guarded {B : Gd} {w w' : World} (h : KeptR B w w') (hB : B.top ≤ w.heap.size) {k : Nat} (hk : B.g k) : w'.heap[k]? = w.heap[k]? :=
  h.block k (Nat.lt_of_lt_of_le (B.lt k hk) hB) fun s => s.1 hk

/- A device none of whose blocks is guarded. -/
structure IsRefG (B : Gd) (w : World) (q : Rh) (d : DV) : Prop extends IsRef 0 w q d where
  out : ∀ k, q.fp k → ¬ B.g k

theorem IsRefG.keep {B : Gd} {w w' : World} {q : Rh} {d : DV} (hd : IsRefG B w q d) (hk : ∀ k, q.fp k → w'.heap[k]? = w.heap[k]?) : IsRefG B w' q d := ⟨hd.toIsRef.keep hk, hd.out⟩
theorem IsRef.base0 {B : Nat} {w : World} {q : Rh} {d : DV} (hd : IsRef B w q d) : IsRef 0 w q d := ⟨Nat.zero_le _, hd.blk, ownsRow_base hd.of (Nat.zero_le _), ownsRow_base hd.o1 (Nat.zero_le _), ownsRow_base hd.o2 (Nat.zero_le _), hd.ne⟩
theorem IsRef.toG {B : Nat} {w : World} {q : Rh} {d : DV} (hd : IsRef B w q d) : IsRefG B w q d := ⟨hd.base0, fun k hk => Nat.not_lt.2 (hd.lt k hk).1⟩
theorem IsRefG.back {B : Nat} {w : World} {q : Rh} {d : DV} (hd : IsRefG B w q d) : IsRef B w q d :=
  ⟨Nat.le_of_not_lt (hd.out _ (.inl rfl)), hd.blk, ownsRow_up hd.of (fun k e => Nat.le_of_not_lt (hd.out k (.inr (.inl (by simpa [Value.ownBlock] using e.symm))))), ownsRow_up hd.o1 (fun k e => Nat.le_of_not_lt (hd.out k (.inr (.inr (.inl e))))), ownsRow_up hd.o2 (fun k e => Nat.le_of_not_lt (hd.out k (.inr (.inr (.inr e))))), hd.ne⟩
theorem IsRefG.nilled {B : Gd} {w w' : World} {q : Rh} {d d' : DV} (hd : IsRefG B w q d) (h1 : IsRef 0 w' { q with v1 := .slice none 0 0, v2 := .slice none 0 0 } d') : IsRefG B w' { q with v1 := .slice none 0 0, v2 := .slice none 0 0 } d' :=
  ⟨h1, fun k hk => by
    rcases hk with hk | hk | hk | hk
    · exact hd.out k (.inl hk)
    · exact hd.out k (.inr (.inl hk))
    · cases hk
    · cases hk⟩

theorem KeptR.box {B : Gd} {w w' : World} (h : KeptR B w w') {k : Nat} {cur : Array Value} {t : TypeId} (hb : w.heap[k]? = some (.cells cur t (0, 0))) (ht : ¬ (t = 140 ∨ t = 9 ∨ t = 3 ∨ t = 90)) : w'.heap[k]? = some (.cells cur t (0, 0)) := by
  rw [h.block k (lt_of_some hb) (fun s => ?_)]
  · exact hb
  · obtain ⟨c2, t2, e1, p⟩ := s.2
    rw [hb] at e1
    cases e1
    exact ht p

theorem IsRefG.inR {B : Gd} {w : World} {q : Rh} {d : DV} (hd : IsRefG B w q d) : ∀ k, q.fp k → SR B w k := by
  intro k hk
  obtain ⟨cur, t, e, p⟩ := hd.kinds k hk
  exact ⟨hd.out k hk, cur, t, e, by rcases p with p | p | p; exact .inl p; exact .inr (.inl p); exact .inr (.inr (.inl p))⟩

theorem IsRefG.keptR {B : Gd} {w w' : World} {q : Rh} {d : DV} (hd : IsRefG B w q d) (hk : Kept q.fp w w') : KeptR B w w' := hk.mono fun k _ hs => hd.inR k hs

/- The program's image stays. -/
theorem IsImg.keptR {B B' : Gd} {w w' : World} {x : Ih} {v : IV} (h : IsImg B w x v) (hk : KeptR B' w w') : IsImg B w' x v := by
  obtain ⟨_, cur, hh⟩ := h.tb
  obtain ⟨es, c, hm⟩ := ownsMap_is h.map
  refine h.keep ?_ ?_ ?_ fun k hf => ?_
  · rw [hk.box h.blk (by decide)]; exact h.blk.symm
  · refine hk.block _ (lt_of_some hm) fun s => ?_
    obtain ⟨c2, t2, e1, p⟩ := s.2
    rw [hm] at e1; cases e1
  · rw [hk.box hh (by decide)]; exact hh.symm
  · obtain ⟨c2, t, e1, p⟩ := h.dev.kinds k hf
    rw [hk.box e1 (by rcases p with rfl | rfl | rfl <;> decide)]; exact e1.symm

theorem IsDevG.keptByR {B B' : Gd} {w w' : World} {h : Hd} {d : DV} (hd : IsDevG B w h d) (hk : KeptR B' w w') : IsDevG B w' h d :=
  hd.keep fun k hf => by
    obtain ⟨c2, t, e1, p⟩ := hd.kinds k hf
    rw [hk.box e1 (by rcases p with rfl | rfl | rfl <;> decide)]; exact e1.symm

theorem IsRefG.keptByP {B B' : Gd} {tb : Nat} {w w' : World} {q : Rh} {d : DV} (hd : IsRefG B w q d) (hk : KeptP B' tb w w') (ht : ∃ cur, w.heap[tb]? = some (.cells cur 142 (0, 0))) : IsRefG B w' q d := by
  obtain ⟨ct, ht⟩ := ht
  refine hd.keep fun k hf => ?_
  obtain ⟨c2, t, e1, p⟩ := hd.kinds k hf
  have hne : k ≠ tb := fun e => by
    rw [e, ht] at e1
    cases e1
    rcases p with p | p | p <;> cases p
  rw [hk.box e1 (by rcases p with rfl | rfl | rfl <;> decide) hne]; exact e1.symm

structure Qh where
  p : Nat
  d : Rh
  vt : Value
  vh : Value

structure IsRim (B : Gd) (w : World) (q : Qh) (v : IV) : Prop where
  blk : w.heap[q.p]? = some (.cells #[.pointer (some ⟨q.d.p, 0, none⟩), .int .i64 v.h.c, .int .i64 v.h.p, .int .i64 v.h.b, q.vt, q.vh] 90 (0, 0))
  pB : ¬ B.g q.p
  dev : IsRefG B w q.d v.d
  own : w.ownsRow 0 142 2 q.vt v.t.length (entV v.t)
  held : w.ownsRow 0 3 1 q.vh v.held.length (natV v.held)
  ne : ∀ k, q.vh.ownBlock = some k → q.d.v1.ownBlock ≠ some k
  tB : ∀ k, q.vt.ownBlock = some k → ¬ B.g k
  hB : ∀ k, q.vh.ownBlock = some k → ¬ B.g k

theorem IsRim.cells {B : Gd} {w : World} {q : Qh} {v : IV} (h : IsRim B w q v) :
    w.cell? ⟨q.p, 0, none⟩ = some (.pointer (some ⟨q.d.p, 0, none⟩)) ∧ w.cell? ⟨q.p, 1, none⟩ = some (.int .i64 v.h.c) ∧ w.cell? ⟨q.p, 2, none⟩ = some (.int .i64 v.h.p) ∧ w.cell? ⟨q.p, 3, none⟩ = some (.int .i64 v.h.b) ∧
    w.cell? ⟨q.p, 4, none⟩ = some q.vt ∧ w.cell? ⟨q.p, 5, none⟩ = some q.vh ∧ ∀ j, w.frozen? ⟨q.p, j, none⟩ = false := by
  have hb := h.blk
  refine ⟨?_, ?_, ?_, ?_, ?_, ?_, fun j => frozen_of_row w q.p j _ _ hb⟩ <;> rw [cell_of_row w q.p _ _ _ _ hb] <;> rfl

theorem IsRim.keep {B : Gd} {w w' : World} {q : Qh} {v : IV} (h : IsRim B w q v) (hp : w'.heap[q.p]? = w.heap[q.p]?) (ht : ∀ k, q.vt.ownBlock = some k → w'.heap[k]? = w.heap[k]?) (hh : ∀ k, q.vh.ownBlock = some k → w'.heap[k]? = w.heap[k]?) (hd : ∀ k, q.d.fp k → w'.heap[k]? = w.heap[k]?) : IsRim B w' q v :=
  ⟨by rw [hp]; exact h.blk, h.pB, h.dev.keep hd, ownsRow_keep h.own ht, ownsRow_keep h.held hh, h.ne, h.tB, h.hB⟩

theorem IsRim.below {B : Gd} {w w' : World} {q : Qh} {v : IV} (h : IsRim B w q v) (hb : Below w.heap.size w w') : IsRim B w' q v :=
  h.keep (hb.block _ (lt_of_some h.blk)) (fun k e => hb.block _ (h.own.lt k e).2) (fun k e => hb.block _ (h.held.lt k e).2) fun k hk => hb.block _ (h.dev.lt k hk).2

theorem IsRim.drew {B : Gd} {w : World} {q : Qh} {v : IV} (h : IsRim B w q v) : IsRim B w.drew q v := h.keep rfl (fun _ _ => rfl) (fun _ _ => rfl) fun _ _ => rfl

/- It stays while the program's image turns, whose table's row is another. -/
theorem IsRim.keptP {B B' : Gd} {tb : Nat} {w w' : World} {q : Qh} {v : IV} (h : IsRim B w q v) (hk : KeptP B' tb w w') (ht : ∃ cur, w.heap[tb]? = some (.cells cur 142 (0, 0))) (hne : ∀ k, q.vt.ownBlock = some k → k ≠ tb) : IsRim B w' q v := by
  obtain ⟨ct, htb⟩ := ht
  refine h.keep ?_ (fun k e => ?_) (fun k e => ?_) fun k hf => ?_
  · have n1 : q.p ≠ tb := fun e => by have := h.blk; rw [e, htb] at this; cases this
    rw [hk.box h.blk (by decide) n1]; exact h.blk.symm
  · obtain ⟨cur, hh⟩ := ownsRow_kind h.own k e
    rw [hk.box hh (by decide) (hne k e)]; exact hh.symm
  · obtain ⟨cur, hh⟩ := ownsRow_kind h.held k e
    have n1 : k ≠ tb := fun e => by rw [e, htb] at hh; cases hh
    rw [hk.box hh (by decide) n1]; exact hh.symm
  · obtain ⟨c2, t, e1, p⟩ := h.dev.kinds k hf
    have n1 : k ≠ tb := fun e => by
      rw [e, htb] at e1
      cases e1
      rcases p with p | p | p <;> cases p
    rw [hk.box e1 (by rcases p with rfl | rfl | rfl <;> decide) n1]; exact e1.symm

/- The device's write, whether it fails or not. -/
theorem rWrite_any {B : Gd} {n m : Nat} {q : Rh} {d : DV} (i : Nat) (s : ByteArray) (w : World) (hd : IsRefG B w q d) (hf : d.fine n m) (hm : m < 1000000000) (hB : B.top ≤ w.heap.size) (hs : s.size = 16) (hi : i < n) :
    Calls Tryz.prog 80 #[.pointer (some ⟨q.p, 0, none⟩), .int .i64 (i : Int), .string s] w fun e w' =>
      ∃ q' : Rh, e = .returned (.int .i64 d.putF) ∧ q'.p = q.p ∧ IsRefG B w' q' (d.put i s.data.toList) ∧ Kept q.fp w w' ∧ ∀ r, q'.v1.ownBlock = some r → q.v1.ownBlock = some r ∨ w.heap.size ≤ r := by
  have hl := hf.len
  have hw := hf.wr
  unfold DV.put DV.putF
  by_cases h0 : d.fail = 0
  · rw [if_pos h0, if_pos h0]
    refine (refWrite_io i s w hd.toIsRef hs (by omega) h0).mono ?_
    rintro e w' ⟨rfl, h1, h2⟩
    exact ⟨q, rfl, rfl, ⟨h1, hd.out⟩, h2, fun r hr => .inl hr⟩
  · rw [if_neg h0, if_neg h0]
    refine (refWrite_at i s w hd.toIsRef (Nat.zero_le _) hs (by omega) h0 hf.ok.f1 hf.ok.f2 hf.ok.few (by omega)).mono ?_
    rintro e w' ⟨q', rfl, h1, h2, h3, h4, h5, h6⟩
    refine ⟨q', rfl, h1, ⟨h2, fun k hk => ?_⟩, h3, h4⟩
    rcases hk with hk | hk | hk | hk
    · exact hd.out k (.inl (by rw [hk, h1]))
    · exact hd.out k (.inr (.inl (by rw [hk, h5])))
    · rcases h4 k hk with h7 | h7
      · exact hd.out k (.inr (.inr (.inl h7)))
      · exact B.fresh hB h7
    · rcases h6 k hk with h7 | h7
      · exact hd.out k (.inr (.inr (.inr h7)))
      · exact B.fresh hB h7

/- The device has turned. -/
theorem IsRim.devd {B : Gd} {w w' : World} {q : Qh} {v : IV} (h : IsRim B w q v) {q' : Rh} {d' : DV} (hd : IsRefG B w' q' d') (hp : q'.p = q.d.p) (hk : Kept q.d.fp w w') (hv : ∀ r, q'.v1.ownBlock = some r → q.d.v1.ownBlock = some r ∨ w.heap.size ≤ r) :
    IsRim B w' { q with d := q' } { v with d := d' } ∧ KeptR B w w' := by
  have n1 : ¬ q.d.fp q.p := fun e => by
    obtain ⟨cur, t, e1, p⟩ := h.dev.kinds _ e
    rw [h.blk] at e1
    cases e1
    rcases p with p | p | p <;> cases p
  have n2 : ∀ k, q.vt.ownBlock = some k → ¬ q.d.fp k := fun k hk e => by
    obtain ⟨cur, t, e1, p⟩ := h.dev.kinds _ e
    obtain ⟨c2, e2⟩ := ownsRow_kind h.own k hk
    rw [e2] at e1
    cases e1
    rcases p with p | p | p <;> cases p
  have n3 : ∀ k, q.vh.ownBlock = some k → ¬ q.d.fp k := fun k hk e => by
    obtain ⟨c2, e2⟩ := ownsRow_kind h.held k hk
    rcases e with e | e | e | e
    · subst e
      have := h.dev.blk
      rw [e2] at this; cases this
    · subst e
      obtain ⟨_, c3, e3, _⟩ := ownsRow_block h.dev.of
      rw [e2] at e3; cases e3
    · exact h.ne k hk e
    · obtain ⟨c3, e3⟩ := ownsRow_kind h.dev.o2 k e
      rw [e2] at e3; cases e3
  refine ⟨⟨?_, h.pB, hd, ownsRow_keep h.own fun k e => hk.block _ (h.own.lt k e).2 (n2 k e), ownsRow_keep h.held fun k e => hk.block _ (h.held.lt k e).2 (n3 k e), fun k e1 e2 => ?_, h.tB, h.hB⟩, h.dev.keptR hk⟩
  · show w'.heap[q.p]? = some (.cells #[.pointer (some ⟨q'.p, 0, none⟩), _, _, _, _, _] _ _)
    rw [hp, hk.block _ (lt_of_some h.blk) n1]; exact h.blk
  · rcases hv k e2 with h1 | h1
    · exact h.ne k e1 h1
    · have := (h.held.lt k e1).2; omega

/- A cell of the image's own block. -/
theorem IsRim.setP {B : Gd} {w : World} {q : Qh} {v : IV} (h : IsRim B w q v) (i : Nat) (u : Value) {q2 : Qh} {v2 : IV} (hq : q2.p = q.p) (hqd : q2.d = q.d) (hd : v2.d = v.d)
    (hc : (#[.pointer (some ⟨q.d.p, 0, none⟩), .int .i64 v.h.c, .int .i64 v.h.p, .int .i64 v.h.b, q.vt, q.vh] : Array Value).setIfInBounds i u = #[.pointer (some ⟨q.d.p, 0, none⟩), .int .i64 v2.h.c, .int .i64 v2.h.p, .int .i64 v2.h.b, q2.vt, q2.vh])
    (ht : w.ownsRow 0 142 2 q2.vt v2.t.length (entV v2.t)) (hh : w.ownsRow 0 3 1 q2.vh v2.held.length (natV v2.held)) (hne : ∀ k, q2.vh.ownBlock = some k → q.d.v1.ownBlock ≠ some k) (htB : ∀ k, q2.vt.ownBlock = some k → ¬ B.g k) (hhB : ∀ k, q2.vh.ownBlock = some k → ¬ B.g k) :
    IsRim B (w.setCell ⟨q.p, i, none⟩ u) q2 v2 ∧ KeptR B w (w.setCell ⟨q.p, i, none⟩ u) := by
  have hb := h.blk
  have n1 : ∀ k, q.d.fp k → k ≠ q.p := fun k hk e => by
    obtain ⟨cur2, t, e1, p⟩ := h.dev.kinds _ hk
    rw [e, hb] at e1
    cases e1
    rcases p with p | p | p <;> cases p
  have n2 : ∀ k, q2.vt.ownBlock = some k → k ≠ q.p := fun k hk e => by
    obtain ⟨c2, e2⟩ := ownsRow_kind ht k hk
    rw [e, hb] at e2; cases e2
  have n3 : ∀ k, q2.vh.ownBlock = some k → k ≠ q.p := fun k hk e => by
    obtain ⟨c2, e2⟩ := ownsRow_kind hh k hk
    rw [e, hb] at e2; cases e2
  refine ⟨⟨?_, by rw [hq]; exact h.pB, ?_, ownsRow_keep ht fun k e => heap_setCell_other _ _ _ _ (n2 k e), ownsRow_keep hh fun k e => heap_setCell_other _ _ _ _ (n3 k e), ?_, htB, hhB⟩, ?_⟩
  · rw [hq, hqd, heap_setCell_same w q.p i _ _ u hb, hc]
  · rw [hqd, hd]; exact h.dev.keep fun k hk => heap_setCell_other _ _ _ _ (n1 k hk)
  · rw [hqd]; exact hne
  · exact (Kept.refl (SR B w) w).setCell (p := ⟨q.p, i, none⟩) (.inl ⟨h.pB, _, _, hb, .inr (.inr (.inr rfl))⟩) _

theorem rim_shape {B : Gd} {w : World} {q : Qh} {v : IV} (h : IsRim B w q v) : (∃ a cap, q.vt = .slice a v.t.length cap) ∧ ∃ a cap, q.vh = .slice a v.held.length cap := ⟨ownsRow_shape h.own, ownsRow_shape h.held⟩

theorem ents_rim {B : Gd} {w : World} {v : IV} {q : Qh} {g cap : Nat} (h : IsRim B w q v) (hv : q.vt = .slice (some ⟨g, 0, none⟩) v.t.length cap) : Ents w (some ⟨g, 0, none⟩) v.t.length v.t := by
  have ho := h.own
  rw [hv] at ho
  exact ents_of_owns ho _ (by rw [List.take_of_length_le (by rw [entV_len]; exact Nat.le_refl _)]) (Nat.le_refl _) rfl

/- The blocks of the document's own image. -/
def Qh.fp (q : Qh) (k : Nat) : Prop := k = q.p ∨ q.vt.ownBlock = some k ∨ q.vh.ownBlock = some k ∨ q.d.fp k

theorem IsRim.out {B : Gd} {w : World} {q : Qh} {v : IV} (h : IsRim B w q v) : ∀ k, q.fp k → ¬ B.g k := by
  rintro k (rfl | hk | hk | hk)
  · exact h.pB
  · exact h.tB k hk
  · exact h.hB k hk
  · exact h.dev.out k hk

theorem IsRim.fpLt {B : Gd} {w : World} {q : Qh} {v : IV} (h : IsRim B w q v) : ∀ k, q.fp k → k < w.heap.size := by
  rintro k (rfl | hk | hk | hk)
  · exact lt_of_some h.blk
  · exact (h.own.lt k hk).2
  · exact (h.held.lt k hk).2
  · exact (h.dev.lt k hk).2

theorem IsRim.re {B C : Gd} {w : World} {q : Qh} {v : IV} (h : IsRim B w q v) (hc : ∀ k, q.fp k → ¬ C.g k) : IsRim C w q v :=
  ⟨h.blk, hc _ (.inl rfl), ⟨h.dev.toIsRef, fun k hk => hc k (.inr (.inr (.inr hk)))⟩, h.own, h.held, h.ne, fun k hk => hc k (.inr (.inl hk)), fun k hk => hc k (.inr (.inr (.inl hk)))⟩

theorem IsRim.keepAll {B : Gd} {w w' : World} {q : Qh} {v : IV} (h : IsRim B w q v) (hk : ∀ k, q.fp k → w'.heap[k]? = w.heap[k]?) : IsRim B w' q v :=
  h.keep (hk _ (.inl rfl)) (fun k e => hk k (.inr (.inl e))) (fun k e => hk k (.inr (.inr (.inl e)))) fun k hf => hk k (.inr (.inr (.inr hf)))
end Go.Proofs.YtjegaljdindfaabGreatDoor
