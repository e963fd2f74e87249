/-
Kind, Free, Dev, Head and Link of an image.
A write on the document's own device that goes well; where the list of places then lies.
-/
import Derived.Test.YtncjnjlakhohgaaGreatQImgRead
import Derived.Test.YtncjnjlakhohgaaGreatQImgFill
import Derived.Test.YtncjnjlakhohgaaGreatQImgHead
import Derived.Test.YtncjnjlakhohgaaGreatQRefWrite
namespace Go.Proofs.YtncjnjlakhohgaaGreat
open Go.RowKit Go.Maps
attribute [local go_sem ↓] Go.wp_at_zero Go.wp_at_succ

set_option maxRecDepth 100000 in
set_option maxHeartbeats 1000000 in
theorem kind_img {B : Nat} {x : Ih} {v : IV} (c : Int) (w : World) (h : IsImg B w x v) :
    Calls Tryz.prog 61 #[.pointer (some ⟨x.p, 0, none⟩), .int .i64 c] w fun e w' =>
      e = .returned (.tuple #[.int .i64 (v.entE c).1, erV (v.entF c)]) ∧ Below w.heap.size w w' := by
  have HE := toHid (entry_img c w h)
  clear h
  generalize (v.entE c).1 = y0 at HE ⊢
  generalize (v.entE c).2 = y1 at HE
  generalize erV (v.entF c) = er at HE ⊢
  go_enter Tryz.func61, Tryz.ntmps61
  go_wp2_with fail
  refine HE.out.mono ?_
  rintro e w1 ⟨rfl, hb1⟩
  go_wp2
  go_ret2
  exact ⟨rfl, hb1.alloc hb1.size _⟩

set_option maxRecDepth 100000 in
set_option maxHeartbeats 1000000 in
theorem Free_img {B m : Nat} {x : Ih} {v : IV} (w : World) (h : IsImg B w x v) (hok : v.ok m) :
    Calls Tryz.prog 26 #[.pointer (some ⟨x.p, 0, none⟩)] w fun e w' => e = .returned (.int .i64 (v.freeL.length : Int)) ∧ Below w.heap.size w w' := by
  have HF := toHid (free_img w h hok)
  clear h hok
  generalize v.freeL.length = n at HF ⊢
  go_enter Tryz.func26, Tryz.ntmps26
  go_wp2_with fail
  refine HF.out.mono ?_
  rintro e w1 ⟨a, cap, rfl, _, hb1⟩
  go_wp2
  go_ret
  exact ⟨rfl, hb1⟩
set_option maxRecDepth 100000 in
set_option maxHeartbeats 1000000 in
theorem dev_img {B : Nat} {x : Ih} {v : IV} (w : World) (h : IsImg B w x v) :
    Calls Tryz.prog 54 #[.pointer (some ⟨x.p, 0, none⟩)] w fun e w' => e = .returned (.pointer (some ⟨x.h.p, 0, none⟩)) ∧ w' = w := by
  obtain ⟨c0, c1, c2, c3, c4, c5, fz⟩ := h.cells
  clear h c1 c2 c3 c4 c5 fz
  go_enter Tryz.func54, Tryz.ntmps54
  go_wp2
  go_ret
  exact ⟨rfl, rfl⟩

set_option maxRecDepth 100000 in
set_option maxHeartbeats 1000000 in
theorem head_img {B : Nat} {x : Ih} {v : IV} (w : World) (h : IsImg B w x v) :
    Calls Tryz.prog 58 #[.pointer (some ⟨x.p, 0, none⟩)] w fun e w' => e = .returned (.agg #[.int .i64 v.h.c, .int .i64 v.h.p, .int .i64 v.h.b]) ∧ Below w.heap.size w w' := by
  obtain ⟨c0, c1, c2, c3, c4, c5, fz⟩ := h.cells
  have lp := h.lts.1
  clear h c0 c4 c5 fz
  generalize v.h.c = c at c1 ⊢
  generalize v.h.p = p at c2 ⊢
  generalize v.h.b = b at c3 ⊢
  go_enter Tryz.func58, Tryz.ntmps58
  go_wp2
  exact bodyPost_ret (v := .agg #[.int .i64 c, .int .i64 p, .int .i64 b]) (by simp [results, Tryz.results58, go_sem]) rfl ⟨rfl, (by first | exact (Below.refl _ _).alloc (Nat.le_refl _) _ | exact (((((Below.refl _ _).alloc (Nat.le_refl _) _).setCell (Nat.le_refl _) _).setCell (Nat.le_refl _) _).setCell (Nat.le_refl _) _))⟩

/- Link. -/
set_option maxRecDepth 100000 in
set_option maxHeartbeats 1000000 in
theorem setHead_no {x : Ih} (c p b : Int) (w : World) (hk : HV.ok ⟨c, p, b⟩ = false) :
    Calls Tryz.prog 32 #[.pointer (some ⟨x.p, 0, none⟩), .agg #[.int .i64 c, .int .i64 p, .int .i64 b]] w fun e w' => e = .returned (.iface 63 (.int .i64 1)) ∧ Below w.heap.size w w' := by
  have HH := toHid (fun W => head_no c p b W hk)
  clear hk
  go_enter Tryz.func32, Tryz.ntmps32
  go_wp2_with fail
  refine (HH.out _).mono ?_
  rintro e w1 ⟨rfl, hb1⟩
  go_wp2
  go_ret
  exact ⟨rfl, ((Below.refl _ _).alloc (Nat.le_refl _) _).trans (hb1.mono (by simp))⟩

set_option maxRecDepth 100000 in
set_option maxHeartbeats 1000000 in
theorem link_img {B m : Nat} {x : Ih} {v : IV} (back : Int) (w : World) (h : IsImg B w x v) (hok : v.ok m) (hm : m + 10 < 1000000000) (hB : B ≤ w.heap.size) :
    Calls Tryz.prog 52 #[.pointer (some ⟨x.p, 0, none⟩), .int .i64 back] w (Did B w x (v.link back) (v.linkF back)) := by
  obtain ⟨c0, c1, c2, c3, c4, c5, fz⟩ := h.cells
  have lp := h.lts.1
  have HI := toHid h
  have HSH : Hid (∀ W : World, IsImg B W x v → B ≤ W.heap.size → Calls Tryz.prog 32 #[.pointer (some ⟨x.p, 0, none⟩), .agg #[.int .i64 v.h.c, .int .i64 v.h.p, .int .i64 back]] W (Did B W x (v.link back) (v.linkF back))) := fun W hi hb => by
    cases hk : (v.linkH back).ok with
    | true =>
      have e1 : v.link back = v.headV (v.linkH back) := by unfold IV.link; rw [if_pos hk]
      have e2 : v.linkF back = v.flush.d.putF := by unfold IV.linkF; rw [if_pos hk]
      rw [e1, e2]
      exact setHead_img v.h.c v.h.p back W hi hok.d (by omega) hb hk
    | false =>
      have e1 : v.link back = v := by unfold IV.link; rw [if_neg (by rw [hk]; decide)]
      have e2 : v.linkF back = 1 := by unfold IV.linkF; rw [if_neg (by rw [hk]; decide)]
      rw [e1, e2]
      refine (setHead_no v.h.c v.h.p back W hk).mono ?_
      rintro e w' ⟨rfl, hb2⟩
      rw [← erV_1]
      exact did_same hi hb2
  generalize v.link back = V at HSH ⊢
  generalize v.linkF back = f at HSH ⊢
  clear h hok c0 c4 c5 fz
  generalize hcc : v.h.c = c at c1 HSH
  generalize hpp : v.h.p = p at c2 HSH
  generalize hbb : v.h.b = b at c3
  clear hcc hpp hbb
  go_enter Tryz.func52, Tryz.ntmps52
  go_wp2_with fail
  have hbx : Below w.heap.size w ((w.alloc (.cells #[.int .i64 c, .int .i64 p, .int .i64 b] 23)).setCell ⟨w.heap.size, 2, none⟩ (.int .i64 back)) := ((Below.refl _ _).alloc (Nat.le_refl _) _).setCell (Nat.le_refl _) _
  have hby : Below w.heap.size w (w.alloc (.cells #[.int .i64 c, .int .i64 p, .int .i64 back] 23)) := (Below.refl _ _).alloc (Nat.le_refl _) _
  first
    | (refine (HSH.out _ (HI.out.below hbx) (Nat.le_trans hB hbx.size)).mono ?_
       rintro e w2 ⟨y, rfl, h2y, h3y, h4y⟩
       have HD : Hid (Did B w x V f (.returned (erV f)) w2) := Did.from ⟨y, rfl, h2y, h3y, h4y⟩ hbx
       clear h2y h3y h4y
       go_wp2
       go_ret
       exact HD.out)
    | (refine (HSH.out _ (HI.out.below hby) (Nat.le_trans hB hby.size)).mono ?_
       rintro e w2 ⟨y, rfl, h2y, h3y, h4y⟩
       have HD : Hid (Did B w x V f (.returned (erV f)) w2) := Did.from ⟨y, rfl, h2y, h3y, h4y⟩ hby
       clear h2y h3y h4y
       go_wp2
       go_ret
       exact HD.out)
end Go.Proofs.YtncjnjlakhohgaaGreat

namespace Go.Proofs.YtncjnjlakhohgaaGreat
open Go.RowKit
attribute [local go_sem ↓] Go.wp_at_zero Go.wp_at_succ

set_option maxRecDepth 100000 in
set_option maxHeartbeats 1000000 in
theorem refWrite_at {B : Nat} {q : Rh} {d : DV} (i : Nat) (s : ByteArray) (w : World) (hd : IsRef B w q d) (hB : B ≤ w.heap.size) (hs : s.size = 16) (hi : i < d.fl.length) (hf : d.fail ≠ 0) (hf1 : -1 ≤ d.fail) (hf2 : d.fail ≤ 9223372036854775807) (hp : d.pend.length ≤ d.wr) (hw : d.wr < 1000000000) :
    Calls Tryz.prog 36 #[.pointer (some ⟨q.p, 0, none⟩), .int .i64 (i : Int), .string s] w fun e w' =>
      ∃ q' : Rh, e = .returned (.int .i64 0) ∧ q'.p = q.p ∧ IsRef B w' q' (d.ticked.wrote i s.data.toList) ∧ Kept q.fp w w' ∧ ∀ r, q'.v1.ownBlock = some r → q.v1.ownBlock = some r ∨ w.heap.size ≤ r := by
  obtain ⟨c0, c1, c2, c3, c4, fz⟩ := hd.cells
  have fz1 := fz 1
  have fz2 := fz 2
  have fz3 := fz 3
  have fz4 := fz 4
  have g0 : decide ((i : Int) < 0) = false := by simp
  have g1 : decide ((d.fl.length : Int) ≤ (i : Int)) = false := by simp; omega
  have h16 : ((s.size : Int) != 16) = false := by simp; omega
  have g3 : (d.fail == 0) = false := beq_eq_false_iff_ne.2 hf
  obtain ⟨i1, hi1, hx0, hx1, hx2⟩ := info_parts info_int
  obtain ⟨i2, hi2, hy0, hy1, hy2⟩ := info_parts info_str
  obtain ⟨ap1, ap2, ap3, ap4, ap5⟩ := hd.apart
  have hpl : q.p < w.heap.size := (hd.lt q.p (.inl rfl)).2
  have HM : Hid (d.pend.length + 1 ≤ maxLen) := by unfold Hid maxLen; omega
  by_cases h1 : d.fail = -1
  · have g4 : decide (0 < d.fail) = false := by simp; omega
    obtain ⟨D, hD⟩ : ∃ D, D = d := ⟨_, rfl⟩
    have et : d.ticked = D := by rw [hD]; unfold DV.ticked; rw [if_pos h1]
    rw [et]
    have HR : Hid (RefIn B w q d.fl d.pend.length (atS d.pend) d.pend.length (whS d.pend) D.fail (d.wr : Int)) := by rw [hD]; exact hd.inn
    have HO1 : Hid ((w.alloc (.cells #[.int .i64 (i : Int)] 3)).ownsRow B 3 1 q.v1 d.pend.length (atS d.pend)) := HR.out.o1.alloc _
    have HC1 : Hid (w.cell? ⟨q.p, 1, none⟩ = some q.v1) := HR.out.cells.1
    have HC2 : Hid (w.cell? ⟨q.p, 2, none⟩ = some q.v2) := HR.out.cells.2.1
    have HC4 : Hid (w.cell? ⟨q.p, 4, none⟩ = some (.int .i64 (d.wr : Int))) := HR.out.cells.2.2.1
    have HZ1 : Hid ((w.alloc (.cells #[.int .i64 (i : Int)] 3)).heap.size = w.heap.size + 1) := by unfold Hid; simp
    have HB1 : Hid (B ≤ (w.alloc (.cells #[.int .i64 (i : Int)] 3)).heap.size) := by unfold Hid; rw [HZ1.out]; omega
    have HN1 : Hid (∀ j y, ([.int .i64 (i : Int)] : List Value)[j]? = some y → (w.alloc (.cells #[.int .i64 (i : Int)] 3)).cell? ((⟨w.heap.size, 0, none⟩ : Addr).add j) = some y) := cell_one_new _ _ _
    have HKP : Hid (Kept q.fp w (w.alloc (.cells #[.int .i64 (i : Int)] 3))) := (Kept.refl _ _).alloc _
    have HDf : Hid (D.fl = d.fl ∧ D.pend = d.pend ∧ D.wr = d.wr) := by rw [hD]; exact ⟨rfl, rfl, rfl⟩
    clear hd fz et hD
    go_enter Tryz.func36, Tryz.ntmps36
    go_wp2_with (first
      | (at_builtin; refine wpList_append_lies _ (by rfl) _ _ 55 (by rfl) B 3 i1 (.int .i64 0) 1 8 Tryz.underlying55 hi1 hx0 hx1 hx2 rfl (by decide) q.v1 d.pend.length (atS d.pend) (by rfl) HO1.out ⟨w.heap.size, 0, none⟩ 1 1 [.int .i64 (i : Int)] (by rfl) (by rfl) HN1.out (fun u hu => by simp at hu; subst hu; rfl) (by decide) HM.out (by omega) HB1.out (w.heap.size + 1) HZ1.out ?_
         intro g k w1 hown hgrow hat hlt
         have zz := fun j => HR.out.grow hgrow ap2 j
         have z1 := (zz 1).1.trans HC1.out
         have z2 := (zz 2).1.trans HC2.out
         have z4 := (zz 4).1.trans HC4.out
         have f1 := (zz 1).2
         have f2 := (zz 2).2
         have f4 := (zz 4).2
         have HR1 : Hid (RefIn B (w1.setCell ⟨q.p, 1, none⟩ (.slice (some ⟨g, 0, none⟩) (d.pend.length + 1) k)) { q with v1 := (.slice (some ⟨g, 0, none⟩) (d.pend.length + 1) k) } d.fl (d.pend.length + 1) (atS d.pend ++ [.int .i64 (i : Int)]) d.pend.length (whS d.pend) D.fail (d.wr : Int)) := HR.out.app1 _ _ _ hown hgrow
         have HO2 : Hid (((w1.setCell ⟨q.p, 1, none⟩ (.slice (some ⟨g, 0, none⟩) (d.pend.length + 1) k)).alloc (.cells #[.string s] 9)).ownsRow B 9 1 q.v2 d.pend.length (whS d.pend)) := HR1.out.o2.alloc _
         have HN2 : Hid (∀ j y, ([.string s] : List Value)[j]? = some y → ((w1.setCell ⟨q.p, 1, none⟩ (.slice (some ⟨g, 0, none⟩) (d.pend.length + 1) k)).alloc (.cells #[.string s] 9)).cell? ((⟨w1.heap.size, 0, none⟩ : Addr).add j) = some y) := news_set _ _ _ _ _
         have HZ2 : Hid (((w1.setCell ⟨q.p, 1, none⟩ (.slice (some ⟨g, 0, none⟩) (d.pend.length + 1) k)).alloc (.cells #[.string s] 9)).heap.size = w1.heap.size + 1) := by unfold Hid; simp [World.setCell]
         have hsg := hgrow.size
         have HB2 : Hid (B ≤ ((w1.setCell ⟨q.p, 1, none⟩ (.slice (some ⟨g, 0, none⟩) (d.pend.length + 1) k)).alloc (.cells #[.string s] 9)).heap.size) := by unfold Hid; rw [HZ2.out]; have := HZ1.out; omega
         have HK1 : Hid (Kept q.fp w (w1.setCell ⟨q.p, 1, none⟩ (.slice (some ⟨g, 0, none⟩) (d.pend.length + 1) k))) := (HKP.out.grown (w := w.alloc (.cells #[.int .i64 (i : Int)] 3)) hgrow (fun r e => .inl (.inr (.inr (.inl e))))).setCell (.inl (.inl rfl)) _
         have HAT : Hid (q.v1.ownBlock = some g ∨ g = w.heap.size + 1) := hat
         clear zz hown hgrow hat hlt hsg)
      | (at_builtin; refine wpList_append_lies _ (by rfl) _ _ 54 (by rfl) B 9 i2 (.string ⟨#[]⟩) 1 16 Tryz.underlying54 hi2 hy0 hy1 hy2 rfl (by decide) q.v2 d.pend.length (whS d.pend) (by rfl) HO2.out ⟨w1.heap.size, 0, none⟩ 1 1 [.string s] (by rfl) (by rfl) HN2.out (fun u hu => by simp at hu; subst hu; rfl) (by decide) HM.out (by omega) HB2.out (w1.heap.size + 1) HZ2.out ?_
         intro g2 k2 w2 hown2 hgrow2 hat2 hlt2
         have yy := fun j => HR1.out.grow hgrow2 ap3 j
         have y2 : w2.cell? ⟨q.p, 2, none⟩ = some q.v2 := (yy 2).1.trans HR1.out.cells.2.1
         have y4 : w2.cell? ⟨q.p, 4, none⟩ = some (.int .i64 (d.wr : Int)) := (yy 4).1.trans HR1.out.cells.2.2.1
         have e2 : w2.frozen? ⟨q.p, 2, none⟩ = false := (yy 2).2
         have e4 : w2.frozen? ⟨q.p, 4, none⟩ = false := (yy 4).2
         have HR2 : Hid (RefIn B (w2.setCell ⟨q.p, 2, none⟩ (.slice (some ⟨g2, 0, none⟩) (d.pend.length + 1) k2)) { q with v1 := (.slice (some ⟨g, 0, none⟩) (d.pend.length + 1) k), v2 := .slice (some ⟨g2, 0, none⟩) (d.pend.length + 1) k2 } d.fl (d.pend.length + 1) (atS d.pend ++ [.int .i64 (i : Int)]) (d.pend.length + 1) (whS d.pend ++ [.string s]) D.fail (d.wr : Int)) := HR1.out.app2 _ _ g2 k2 hown2 hgrow2 (by rcases hat2 with q1 | q1; exact .inl q1; exact .inr (by rw [q1]; simp [World.setCell]))
         have HK2 : Hid (Kept q.fp w (w2.setCell ⟨q.p, 2, none⟩ (.slice (some ⟨g2, 0, none⟩) (d.pend.length + 1) k2))) := ((HK1.out.alloc _).grown hgrow2 (fun r e => .inl (.inr (.inr (.inr e))))).setCell (.inl (.inl rfl)) _
         clear yy hown2 hgrow2 hat2 hlt2))
    go_ret
    refine ⟨{ q with v1 := (.slice (some ⟨g, 0, none⟩) (d.pend.length + 1) k), v2 := .slice (some ⟨g2, 0, none⟩) (d.pend.length + 1) k2 }, rfl, rfl, ?_, HK2.out.setCell (.inl (.inl rfl)) _, fun r e => by
      have e' : g = r := by simpa [Value.ownBlock] using e
      rcases HAT.out with h | h
      · left; rw [h, e']
      · right; omega⟩
    have hfin := HR2.out
    obtain ⟨d1, d2, d3⟩ := HDf.out
    rw [← d1, ← d2, ← d3] at hfin
    rw [← d2, ← d3]
    rw [← bytesOf_data s] at hfin
    exact RefIn.wr (d := D) i s.data.toList hfin
  · have g4 : decide (0 < d.fail) = true := by simp; omega
    obtain ⟨D, hD⟩ : ∃ D, D = d.failing (d.fail - 1) := ⟨_, rfl⟩
    have et : d.ticked = D := by rw [hD]; unfold DV.ticked; rw [if_neg h1]
    rw [et]
    have HR : Hid (RefIn B (w.setCell ⟨q.p, 3, none⟩ (.int .i64 (d.fail - 1))) q d.fl d.pend.length (atS d.pend) d.pend.length (whS d.pend) D.fail (d.wr : Int)) := by rw [hD]; exact (hd.failing (d.fail - 1)).inn
    have HO1 : Hid (((w.setCell ⟨q.p, 3, none⟩ (.int .i64 (d.fail - 1))).alloc (.cells #[.int .i64 (i : Int)] 3)).ownsRow B 3 1 q.v1 d.pend.length (atS d.pend)) := HR.out.o1.alloc _
    have HC1 : Hid ((w.setCell ⟨q.p, 3, none⟩ (.int .i64 (d.fail - 1))).cell? ⟨q.p, 1, none⟩ = some q.v1) := HR.out.cells.1
    have HC2 : Hid ((w.setCell ⟨q.p, 3, none⟩ (.int .i64 (d.fail - 1))).cell? ⟨q.p, 2, none⟩ = some q.v2) := HR.out.cells.2.1
    have HC4 : Hid ((w.setCell ⟨q.p, 3, none⟩ (.int .i64 (d.fail - 1))).cell? ⟨q.p, 4, none⟩ = some (.int .i64 (d.wr : Int))) := HR.out.cells.2.2.1
    have HZ1 : Hid (((w.setCell ⟨q.p, 3, none⟩ (.int .i64 (d.fail - 1))).alloc (.cells #[.int .i64 (i : Int)] 3)).heap.size = w.heap.size + 1) := by unfold Hid; simp [World.setCell]
    have HB1 : Hid (B ≤ ((w.setCell ⟨q.p, 3, none⟩ (.int .i64 (d.fail - 1))).alloc (.cells #[.int .i64 (i : Int)] 3)).heap.size) := by unfold Hid; rw [HZ1.out]; omega
    have HN1 : Hid (∀ j y, ([.int .i64 (i : Int)] : List Value)[j]? = some y → ((w.setCell ⟨q.p, 3, none⟩ (.int .i64 (d.fail - 1))).alloc (.cells #[.int .i64 (i : Int)] 3)).cell? ((⟨w.heap.size, 0, none⟩ : Addr).add j) = some y) := news_set _ _ _ _ _
    have HKP : Hid (Kept q.fp w ((w.setCell ⟨q.p, 3, none⟩ (.int .i64 (d.fail - 1))).alloc (.cells #[.int .i64 (i : Int)] 3))) := ((Kept.refl _ _).setCell (.inl (.inl rfl)) _).alloc _
    have HDf : Hid (D.fl = d.fl ∧ D.pend = d.pend ∧ D.wr = d.wr) := by rw [hD]; exact ⟨rfl, rfl, rfl⟩
    clear hd fz et hD
    go_enter Tryz.func36, Tryz.ntmps36
    go_wp2_with (first
      | (at_builtin; refine wpList_append_lies _ (by rfl) _ _ 55 (by rfl) B 3 i1 (.int .i64 0) 1 8 Tryz.underlying55 hi1 hx0 hx1 hx2 rfl (by decide) q.v1 d.pend.length (atS d.pend) (by rfl) HO1.out ⟨w.heap.size, 0, none⟩ 1 1 [.int .i64 (i : Int)] (by rfl) (by rfl) HN1.out (fun u hu => by simp at hu; subst hu; rfl) (by decide) HM.out (by omega) HB1.out (w.heap.size + 1) HZ1.out ?_
         intro g k w1 hown hgrow hat hlt
         have zz := fun j => HR.out.grow hgrow ap2 j
         have z1 := (zz 1).1.trans HC1.out
         have z2 := (zz 2).1.trans HC2.out
         have z4 := (zz 4).1.trans HC4.out
         have f1 := (zz 1).2
         have f2 := (zz 2).2
         have f4 := (zz 4).2
         have HR1 : Hid (RefIn B (w1.setCell ⟨q.p, 1, none⟩ (.slice (some ⟨g, 0, none⟩) (d.pend.length + 1) k)) { q with v1 := (.slice (some ⟨g, 0, none⟩) (d.pend.length + 1) k) } d.fl (d.pend.length + 1) (atS d.pend ++ [.int .i64 (i : Int)]) d.pend.length (whS d.pend) D.fail (d.wr : Int)) := HR.out.app1 _ _ _ hown hgrow
         have HO2 : Hid (((w1.setCell ⟨q.p, 1, none⟩ (.slice (some ⟨g, 0, none⟩) (d.pend.length + 1) k)).alloc (.cells #[.string s] 9)).ownsRow B 9 1 q.v2 d.pend.length (whS d.pend)) := HR1.out.o2.alloc _
         have HN2 : Hid (∀ j y, ([.string s] : List Value)[j]? = some y → ((w1.setCell ⟨q.p, 1, none⟩ (.slice (some ⟨g, 0, none⟩) (d.pend.length + 1) k)).alloc (.cells #[.string s] 9)).cell? ((⟨w1.heap.size, 0, none⟩ : Addr).add j) = some y) := news_set _ _ _ _ _
         have HZ2 : Hid (((w1.setCell ⟨q.p, 1, none⟩ (.slice (some ⟨g, 0, none⟩) (d.pend.length + 1) k)).alloc (.cells #[.string s] 9)).heap.size = w1.heap.size + 1) := by unfold Hid; simp [World.setCell]
         have hsg := hgrow.size
         have HB2 : Hid (B ≤ ((w1.setCell ⟨q.p, 1, none⟩ (.slice (some ⟨g, 0, none⟩) (d.pend.length + 1) k)).alloc (.cells #[.string s] 9)).heap.size) := by unfold Hid; rw [HZ2.out]; have := HZ1.out; omega
         have HK1 : Hid (Kept q.fp w (w1.setCell ⟨q.p, 1, none⟩ (.slice (some ⟨g, 0, none⟩) (d.pend.length + 1) k))) := (HKP.out.grown (w := (w.setCell ⟨q.p, 3, none⟩ (.int .i64 (d.fail - 1))).alloc (.cells #[.int .i64 (i : Int)] 3)) hgrow (fun r e => .inl (.inr (.inr (.inl e))))).setCell (.inl (.inl rfl)) _
         have HAT : Hid (q.v1.ownBlock = some g ∨ g = w.heap.size + 1) := hat
         clear zz hown hgrow hat hlt hsg)
      | (at_builtin; refine wpList_append_lies _ (by rfl) _ _ 54 (by rfl) B 9 i2 (.string ⟨#[]⟩) 1 16 Tryz.underlying54 hi2 hy0 hy1 hy2 rfl (by decide) q.v2 d.pend.length (whS d.pend) (by rfl) HO2.out ⟨w1.heap.size, 0, none⟩ 1 1 [.string s] (by rfl) (by rfl) HN2.out (fun u hu => by simp at hu; subst hu; rfl) (by decide) HM.out (by omega) HB2.out (w1.heap.size + 1) HZ2.out ?_
         intro g2 k2 w2 hown2 hgrow2 hat2 hlt2
         have yy := fun j => HR1.out.grow hgrow2 ap3 j
         have y2 : w2.cell? ⟨q.p, 2, none⟩ = some q.v2 := (yy 2).1.trans HR1.out.cells.2.1
         have y4 : w2.cell? ⟨q.p, 4, none⟩ = some (.int .i64 (d.wr : Int)) := (yy 4).1.trans HR1.out.cells.2.2.1
         have e2 : w2.frozen? ⟨q.p, 2, none⟩ = false := (yy 2).2
         have e4 : w2.frozen? ⟨q.p, 4, none⟩ = false := (yy 4).2
         have HR2 : Hid (RefIn B (w2.setCell ⟨q.p, 2, none⟩ (.slice (some ⟨g2, 0, none⟩) (d.pend.length + 1) k2)) { q with v1 := (.slice (some ⟨g, 0, none⟩) (d.pend.length + 1) k), v2 := .slice (some ⟨g2, 0, none⟩) (d.pend.length + 1) k2 } d.fl (d.pend.length + 1) (atS d.pend ++ [.int .i64 (i : Int)]) (d.pend.length + 1) (whS d.pend ++ [.string s]) D.fail (d.wr : Int)) := HR1.out.app2 _ _ g2 k2 hown2 hgrow2 (by rcases hat2 with q1 | q1; exact .inl q1; exact .inr (by rw [q1]; simp [World.setCell]))
         have HK2 : Hid (Kept q.fp w (w2.setCell ⟨q.p, 2, none⟩ (.slice (some ⟨g2, 0, none⟩) (d.pend.length + 1) k2))) := ((HK1.out.alloc _).grown hgrow2 (fun r e => .inl (.inr (.inr (.inr e))))).setCell (.inl (.inl rfl)) _
         clear yy hown2 hgrow2 hat2 hlt2))
    go_ret
    refine ⟨{ q with v1 := (.slice (some ⟨g, 0, none⟩) (d.pend.length + 1) k), v2 := .slice (some ⟨g2, 0, none⟩) (d.pend.length + 1) k2 }, rfl, rfl, ?_, HK2.out.setCell (.inl (.inl rfl)) _, fun r e => by
      have e' : g = r := by simpa [Value.ownBlock] using e
      rcases HAT.out with h | h
      · left; rw [h, e']
      · right; omega⟩
    have hfin := HR2.out
    obtain ⟨d1, d2, d3⟩ := HDf.out
    rw [← d1, ← d2, ← d3] at hfin
    rw [← d2, ← d3]
    rw [← bytesOf_data s] at hfin
    exact RefIn.wr (d := D) i s.data.toList hfin
end Go.Proofs.YtncjnjlakhohgaaGreat
