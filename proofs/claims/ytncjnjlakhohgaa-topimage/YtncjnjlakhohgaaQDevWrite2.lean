/-
A write that goes well: from its bounds on.
-/
import Derived.Test.YtncjnjlakhohgaaQDevWrite
namespace Go.Proofs.Ytncjnjlakhohgaa
open Go.RowKit
attribute [local go_sem ↓] Go.wp_at_zero Go.wp_at_succ

/- A whole value into a block that was just made. -/
theorem wpList_store_new {P : Program} {ops : Array Oper} {rest : List Oper} {op : Oper} {a : Act} {w : World} {Q : Exit → Act → World → Prop} (hgd : op.guard = none) (ty t : TypeId) (x y : Operand) (ho : op.op = .store ty x y)
    (c cells : Array Value) (hx : a.eval x = .pointer (some ⟨w.heap.size, 0, none⟩)) (hy : a.eval y = .agg cells)
    (hc : c.size = cells.size) (hi : (P.info? ty).map (·.size) = some cells.size) (h1 : ∀ v ∈ cells.toList, v.oneCell' = true)
    (h : wpList P ops Q rest (a.put op.dst undef) (w.alloc (.cells cells t))) : wpList P ops Q (op :: rest) a (w.alloc (.cells c t)) := by
  refine wpList_store_mid hgd ty x y ho w.heap.size 0 cells hx hy (there_new w c t _ hc) hi (by have := all_oneCell_toArray h1; simpa using this) ?_
  rw [setCells_new w c t cells.toList (by simpa using hc) h1]
  simpa using h

set_option maxRecDepth 100000 in
set_option maxHeartbeats 1000000 in
theorem write_go {B : Nat} {h : Hd} {d1 : DV} (i : Nat) (s : ByteArray) (w w1 : World) (hd1 : IsDev B w1 h d1) (hB : B ≤ w1.heap.size) (hs : s.size = 16) (hi : i < d1.fl.length) (hw : d1.wr < 1000000000)
    (HH : Hid (Calls Try.prog 68 #[.pointer (some ⟨h.p, 0, none⟩), .int .i64 (i : Int)] w fun e w' => e = .returned (.bool true) ∧ w' = w))
    (HF : Hid (Calls Try.prog 69 #[.pointer (some ⟨h.p, 0, none⟩)] w fun e w' => e = .returned (.bool false) ∧ w' = w1)) :
    Calls Try.prog 25 #[.pointer (some ⟨h.p, 0, none⟩), .int .i64 (i : Int), .string s] w fun e w' =>
      ∃ v : Value, e = .returned .nilIface ∧ IsDev B w' { h with v2 := v } (d1.wrote i s.data.toList) ∧ Kept h.fp w1 w' ∧ (v.ownBlock = h.v2.ownBlock ∨ v.ownBlock = some (w1.heap.size + 2)) := by
  have h16 : ((s.size : Int) != 16) = false := by simp; omega
  have hsl : s.data.toList.length = 16 := by simpa using hs
  obtain ⟨c0, c1, c2, c3, c4, fz⟩ := hd1.cells
  obtain ⟨i0, hi0, hz0, hz1, hz2⟩ := info_parts info_wr
  have hlen : (wrV (i, s.data.toList)).length = 17 := by rw [wrV_len]; simpa using hs
  have hone : ∀ u ∈ wrV (i, s.data.toList), u.oneCell' = true := fun u hu => wrsV_one [(i, s.data.toList)] u (by simpa [wrsV] using hu)
  have hpl : h.p < w1.heap.size := (hd1.lt _ (.inl rfl)).2
  have hwr := hd1.ok.few
  have fz2 := fz 2
  have HD : Hid (IsDev B w1 h d1) := hd1
  have hzone : ∀ v ∈ ([.int .i64 (i : Int), .int .u8 0, .int .u8 0, .int .u8 0, .int .u8 0, .int .u8 0, .int .u8 0, .int .u8 0, .int .u8 0, .int .u8 0, .int .u8 0, .int .u8 0, .int .u8 0, .int .u8 0, .int .u8 0, .int .u8 0, .int .u8 0] : List Value), v.oneCell' = true := fun v hv => by
    simp only [List.mem_cons, List.not_mem_nil, or_false] at hv
    rcases hv with rfl | rfl | rfl | rfl | rfl | rfl | rfl | rfl | rfl | rfl | rfl | rfl | rfl | rfl | rfl | rfl | rfl <;> rfl
  have hcp := copy_new w1 i s hs
  have HZ : Hid (∀ v ∈ (#[.int .i64 (i : Int), .int .u8 0, .int .u8 0, .int .u8 0, .int .u8 0, .int .u8 0, .int .u8 0, .int .u8 0, .int .u8 0, .int .u8 0, .int .u8 0, .int .u8 0, .int .u8 0, .int .u8 0, .int .u8 0, .int .u8 0, .int .u8 0] : Array Value).toList, v.oneCell' = true) := hzone
  have HI2 : Hid ((Try.prog.info? 123).map (·.size) = some (#[.int .i64 (i : Int), .int .u8 0, .int .u8 0, .int .u8 0, .int .u8 0, .int .u8 0, .int .u8 0, .int .u8 0, .int .u8 0, .int .u8 0, .int .u8 0, .int .u8 0, .int .u8 0, .int .u8 0, .int .u8 0, .int .u8 0, .int .u8 0] : Array Value).size) := size_wr
  obtain ⟨x0, x1, x2, x3, x4, x5, x6, x7, x8, x9, x10, x11, x12, x13, x14, x15, x16, hcs⟩ := list17 _ hlen
  have HCS : Hid (wrV (i, s.data.toList) = [x0, x1, x2, x3, x4, x5, x6, x7, x8, x9, x10, x11, x12, x13, x14, x15, x16]) := hcs
  rw [hcs] at hcp hone
  have HONE : Hid (∀ u ∈ [x0, x1, x2, x3, x4, x5, x6, x7, x8, x9, x10, x11, x12, x13, x14, x15, x16], u.oneCell' = true) := hone
  have HMX : Hid (d1.pend.length + 1 ≤ maxLen) := by unfold Hid maxLen; omega
  have HNB : Hid ((((w1.alloc (.cells #[x0, x1, x2, x3, x4, x5, x6, x7, x8, x9, x10, x11, x12, x13, x14, x15, x16] 123)).alloc (.cells #[x0, x1, x2, x3, x4, x5, x6, x7, x8, x9, x10, x11, x12, x13, x14, x15, x16] 123)).drew).heap[w1.heap.size + 1]? = some (.cells #[x0, x1, x2, x3, x4, x5, x6, x7, x8, x9, x10, x11, x12, x13, x14, x15, x16] 123 (0, 0))) := heap_alloc2_new w1 _ _
  have HOW : Hid ((((w1.alloc (.cells #[x0, x1, x2, x3, x4, x5, x6, x7, x8, x9, x10, x11, x12, x13, x14, x15, x16] 123)).alloc (.cells #[x0, x1, x2, x3, x4, x5, x6, x7, x8, x9, x10, x11, x12, x13, x14, x15, x16] 123)).drew).ownsRow B 123 17 h.v2 d1.pend.length (wrsV d1.pend)) := (hd1.op.alloc _).alloc _
  have HSZ : Hid ((((w1.alloc (.cells #[x0, x1, x2, x3, x4, x5, x6, x7, x8, x9, x10, x11, x12, x13, x14, x15, x16] 123)).alloc (.cells #[x0, x1, x2, x3, x4, x5, x6, x7, x8, x9, x10, x11, x12, x13, x14, x15, x16] 123)).drew).heap.size = w1.heap.size + 2) := by unfold Hid; simp
  have HBS : Hid (B ≤ (((w1.alloc (.cells #[x0, x1, x2, x3, x4, x5, x6, x7, x8, x9, x10, x11, x12, x13, x14, x15, x16] 123)).alloc (.cells #[x0, x1, x2, x3, x4, x5, x6, x7, x8, x9, x10, x11, x12, x13, x14, x15, x16] 123)).drew).heap.size) := by unfold Hid; rw [HSZ.out]; omega
  have HP : Hid (h.p < (((w1.alloc (.cells #[x0, x1, x2, x3, x4, x5, x6, x7, x8, x9, x10, x11, x12, x13, x14, x15, x16] 123)).alloc (.cells #[x0, x1, x2, x3, x4, x5, x6, x7, x8, x9, x10, x11, x12, x13, x14, x15, x16] 123)).drew).heap.size) := by unfold Hid; rw [HSZ.out]; omega
  have HNE : Hid (some h.p ≠ h.v2.ownBlock) := Ne.symm hd1.apart.2.2.1
  have HC2 : Hid ((((w1.alloc (.cells #[x0, x1, x2, x3, x4, x5, x6, x7, x8, x9, x10, x11, x12, x13, x14, x15, x16] 123)).alloc (.cells #[x0, x1, x2, x3, x4, x5, x6, x7, x8, x9, x10, x11, x12, x13, x14, x15, x16] 123)).drew).cell? ⟨h.p, 2, none⟩ = some h.v2) := by
    unfold Hid
    show ((w1.alloc (.cells #[x0, x1, x2, x3, x4, x5, x6, x7, x8, x9, x10, x11, x12, x13, x14, x15, x16] 123)).alloc (.cells #[x0, x1, x2, x3, x4, x5, x6, x7, x8, x9, x10, x11, x12, x13, x14, x15, x16] 123)).cell? ⟨h.p, 2, none⟩ = some h.v2
    rw [World.cell?_alloc_past _ _ _ (by simp; omega), World.cell?_alloc_past _ _ _ hpl]; exact c2
  have HF2 : Hid ((((w1.alloc (.cells #[x0, x1, x2, x3, x4, x5, x6, x7, x8, x9, x10, x11, x12, x13, x14, x15, x16] 123)).alloc (.cells #[x0, x1, x2, x3, x4, x5, x6, x7, x8, x9, x10, x11, x12, x13, x14, x15, x16] 123)).drew).frozen? ⟨h.p, 2, none⟩ = false) := by
    unfold Hid
    show ((w1.alloc (.cells #[x0, x1, x2, x3, x4, x5, x6, x7, x8, x9, x10, x11, x12, x13, x14, x15, x16] 123)).alloc (.cells #[x0, x1, x2, x3, x4, x5, x6, x7, x8, x9, x10, x11, x12, x13, x14, x15, x16] 123)).frozen? ⟨h.p, 2, none⟩ = false
    rw [World.frozen?_alloc_past _ _ _ (by simp; omega), World.frozen?_alloc_past _ _ _ hpl]; exact fz2
  clear hd1 fz hcs hlen hone hzone c0 c1 c3 c4
  go_enter Try.func25, Try.ntmps25
  go_wp2_with fail
  refine HH.out.mono ?_
  rintro e w' ⟨rfl, hww⟩
  have hw' := hww.symm
  subst hw'
  clear hww
  go_wp2_with fail
  refine HF.out.mono ?_
  rintro e w' ⟨rfl, hww⟩
  have hw' := hww.symm
  subst hw'
  clear hww HH HF h16
  go_wp2_with (refine wpList_store_new (by rfl) 123 123 (.tmp 7) (.tmp 22) (by rfl) _ #[.int .i64 (i : Int), .int .u8 0, .int .u8 0, .int .u8 0, .int .u8 0, .int .u8 0, .int .u8 0, .int .u8 0, .int .u8 0, .int .u8 0, .int .u8 0, .int .u8 0, .int .u8 0, .int .u8 0, .int .u8 0, .int .u8 0, .int .u8 0] (by rfl) (by rfl) rfl HI2.out HZ.out ?_)
  clear hcp HZ HI2
  go_region_law (refine step_append_lies _ (by rfl) _ _ 118 (by rfl) B 123 i0 zeroWr 17 24 Try.underlying118 hi0 hz0 hz1 hz2 rfl (by decide) h.v2 d1.pend.length (wrsV d1.pend) (by rfl) HOW.out ⟨w1.heap.size + 1, 0, none⟩ 1 1 [x0, x1, x2, x3, x4, x5, x6, x7, x8, x9, x10, x11, x12, x13, x14, x15, x16] (by rfl) (by rfl) (World.news_of_block HNB.out) HONE.out (by decide) HMX.out (by omega) HBS.out (w1.heap.size + 2) HSZ.out ?_; intro g cap w2 hown hgrow hat hlt; have q2 := (hgrow.cell_far ⟨h.p, 2, none⟩ HP.out HNE.out).trans HC2.out; have q3 := (hgrow.frozen_far ⟨h.p, 2, none⟩ HP.out HNE.out).trans HF2.out)
  all_goals
    clear q2 q3
    go_wp2_with fail
    have m : Mid B w1 (w2.setCell ⟨h.p, 2, none⟩ (.slice (some ⟨g, 0, none⟩) (d1.pend.length + 1) cap)) h d1 i s.data.toList (.slice (some ⟨g, 0, none⟩) (d1.pend.length + 1) cap) :=
      mid_of HD.out i s.data.toList g cap (by rw [HCS.out]; exact hown) (by rw [HCS.out]; exact hgrow) hat
    have M : Hid (Mid B w1 (w2.setCell ⟨h.p, 2, none⟩ (.slice (some ⟨g, 0, none⟩) (d1.pend.length + 1) cap)) h d1 i s.data.toList (.slice (some ⟨g, 0, none⟩) (d1.pend.length + 1) cap)) := m
    clear m hown hgrow hat hlt HMX HNB HOW HSZ HBS HP HNE HC2 HF2 HONE HCS c2 fz2 hi0 hz0 hz1 hz2
    generalize w2.setCell ⟨h.p, 2, none⟩ (.slice (some ⟨g, 0, none⟩) (d1.pend.length + 1) cap) = w3 at M ⊢
    obtain ⟨s1, s2, s3⟩ := M.out.reads HD.out hi
    have hcl : (secV s.data.toList).length = 16 := by rw [secV_len]; exact hsl
    have hone2 := secV_one s.data.toList
    have hu71 := Try.underlying115
    have hi71 : (Try.prog.info? 115).map (·.size) = some (secV s.data.toList).length := by rw [hcl]; exact size_sec
    have hii0 : (0 : Int) ≤ (i : Int) := by omega
    have hii1 : (i : Int) < (d1.fl.length : Int) := by omega
    have hpbs : h.p ≠ h.bs := Ne.symm HD.out.apart.2.1
    have hNbs : w1.heap.size ≠ h.bs := by have := (HD.out.lt h.bs (.inr (.inr (.inl rfl)))).2; omega
    obtain ⟨sv, hsv⟩ : ∃ sv, sv = secV s.data.toList := ⟨_, rfl⟩
    have HSV : Hid (sv = secV s.data.toList) := hsv
    rw [← hsv] at s2 hcl hone2 hi71
    clear hsv
    go_region_held3 (fun w' => w'.cell? ⟨h.p, 1, none⟩ = some (.slice (some ⟨h.bs, 0, none⟩) d1.fl.length h.cs) ∧ w'.rangeAt w1.heap.size 1 sv ∧ w'.there h.bs (i * 16) 16)
      ((go_split_ands; (try simp only [World.rangeAt_drew, World.there_drew] at *); refine ⟨?_, ?_, ?_⟩ <;> first | assumption | (apply World.there_setCells; assumption) | (refine World.rangeAt_setCells_apart (by assumption) _ _ _ (by omega)) | (rw [World.cell?_setCells_out _ _ _ _ _ (fun e => absurd e hpbs)]; assumption)))
      (fail)
    have hfin := M.out.fin (w4 := w3.drew) HD.out hi hsl hw rfl ⟨rfl, rfl, rfl⟩
    rw [← HSV.out] at hfin
    obtain ⟨f1, f2, f3, f4⟩ := hfin
    have HAT : Hid ((Value.slice (some ⟨g, 0, none⟩) (d1.pend.length + 1) cap).ownBlock = h.v2.ownBlock ∨ (Value.slice (some ⟨g, 0, none⟩) (d1.pend.length + 1) cap).ownBlock = some (w1.heap.size + 2)) := M.out.at_
    clear s1 s2 s3 hcl hone2 hi71 hu71 hii0 hii1 hpbs hNbs HSV M
    have F1 : Hid (IsDev B ((w3.drew.setCells h.bs (i * 16) sv).setCell ⟨h.p, 3, none⟩ (.int .i64 ((d1.wr : Int) + 1))) { h with v2 := .slice (some ⟨g, 0, none⟩) (d1.pend.length + 1) cap } (d1.wrote i s.data.toList)) := f1
    have F2 : Hid (Kept h.fp w1 ((w3.drew.setCells h.bs (i * 16) sv).setCell ⟨h.p, 3, none⟩ (.int .i64 ((d1.wr : Int) + 1)))) := f2
    clear f1 f2
    generalize w3.drew.setCells h.bs (i * 16) sv = w5 at F1 F2 f3 f4 ⊢
    go_wp2
    go_ret
    exact ⟨_, rfl, F1.out, F2.out, HAT.out⟩
end Go.Proofs.Ytncjnjlakhohgaa
