/-
A write that goes well: from its bounds on.
A write on a device whatever it meets; a copy of a device.
A device of bytes (dev.Of): what it gives.
-/
import Derived.Test.YtjegaljdindfaabGreatDoorQDevWrite
namespace Go.Proofs.YtjegaljdindfaabGreatDoor
open Go.RowKit
attribute [local go_sem ↓] Go.wp_at_zero Go.wp_at_succ

/- A whole value into a block that was just made. -/
theorem wpList_store_new {P : Program} {ops : Array Oper} {rest : List Oper} {op : Oper} {a : Act} {w : World} {Q : Exit → Act → World → Prop} (hgd : op.guard = none) (ty t : TypeId) (x y : Operand) (ho : op.op = .store ty x y)
    (c cells : Array Value) (hx : a.eval x = .pointer (some ⟨w.heap.size, 0, none⟩)) (hy : a.eval y = .agg cells)
    (hc : c.size = cells.size) (hi : (P.info? ty).map (·.size) = some cells.size) (h1 : ∀ v ∈ cells.toList, v.oneCell' = true)
    (h : wpList P ops Q rest (a.put op.dst undef) (w.alloc (.cells cells t))) : wpList P ops Q (op :: rest) a (w.alloc (.cells c t)) := by
  refine wpList_store_mid hgd ty x y ho w.heap.size 0 cells hx hy (there_new w c t _ hc) hi (by have := all_oneCell_toArray h1; simpa using this) ?_
  rw [setCells_new w c t cells.toList (by simpa using hc) h1]
  simpa using h

set_option maxRecDepth 100000 in
set_option maxHeartbeats 1000000 in
theorem write_go {B : Nat} {h : Hd} {d1 : DV} (i : Nat) (s : ByteArray) (w w1 : World) (hd1 : IsDev B w1 h d1) (hB : B ≤ w1.heap.size) (hs : s.size = 16) (hi : i < d1.fl.length) (hw : d1.wr < 1000000000)
    (HH : Hid (Calls Tryz.prog 168 #[.pointer (some ⟨h.p, 0, none⟩), .int .i64 (i : Int)] w fun e w' => e = .returned (.bool true) ∧ w' = w))
    (HF : Hid (Calls Tryz.prog 169 #[.pointer (some ⟨h.p, 0, none⟩)] w fun e w' => e = .returned (.bool false) ∧ w' = w1)) :
    Calls Tryz.prog 137 #[.pointer (some ⟨h.p, 0, none⟩), .int .i64 (i : Int), .string s] w fun e w' =>
      ∃ v : Value, e = .returned .nilIface ∧ IsDev B w' { h with v2 := v } (d1.wrote i s.data.toList) ∧ Kept h.fp w1 w' ∧ (v.ownBlock = h.v2.ownBlock ∨ v.ownBlock = some (w1.heap.size + 2)) := by
  have h16 : ((s.size : Int) != 16) = false := by simp; omega
  have hsl : s.data.toList.length = 16 := by simpa using hs
  obtain ⟨c0, c1, c2, c3, c4, fz⟩ := hd1.cells
  obtain ⟨i0, hi0, hz0, hz1, hz2⟩ := info_parts info_wr
  have hlen : (wrV (i, s.data.toList)).length = 17 := by rw [wrV_len]; simpa using hs
  have hone : ∀ u ∈ wrV (i, s.data.toList), u.oneCell' = true := fun u hu => wrsV_one [(i, s.data.toList)] u (by simpa [wrsV] using hu)
  have hpl : h.p < w1.heap.size := (hd1.lt _ (.inl rfl)).2
  have hwr := hd1.ok.few
  have fz2 := fz 2
  have HD : Hid (IsDev B w1 h d1) := hd1
  have hzone : ∀ v ∈ ([.int .i64 (i : Int), .int .u8 0, .int .u8 0, .int .u8 0, .int .u8 0, .int .u8 0, .int .u8 0, .int .u8 0, .int .u8 0, .int .u8 0, .int .u8 0, .int .u8 0, .int .u8 0, .int .u8 0, .int .u8 0, .int .u8 0, .int .u8 0] : List Value), v.oneCell' = true := fun v hv => by
    simp only [List.mem_cons, List.not_mem_nil, or_false] at hv
    rcases hv with rfl | rfl | rfl | rfl | rfl | rfl | rfl | rfl | rfl | rfl | rfl | rfl | rfl | rfl | rfl | rfl | rfl <;> rfl
  have hcp := copy_new w1 i s hs
  have HZ : Hid (∀ v ∈ (#[.int .i64 (i : Int), .int .u8 0, .int .u8 0, .int .u8 0, .int .u8 0, .int .u8 0, .int .u8 0, .int .u8 0, .int .u8 0, .int .u8 0, .int .u8 0, .int .u8 0, .int .u8 0, .int .u8 0, .int .u8 0, .int .u8 0, .int .u8 0] : Array Value).toList, v.oneCell' = true) := hzone
  have HI2 : Hid ((Tryz.prog.info? 220).map (·.size) = some (#[.int .i64 (i : Int), .int .u8 0, .int .u8 0, .int .u8 0, .int .u8 0, .int .u8 0, .int .u8 0, .int .u8 0, .int .u8 0, .int .u8 0, .int .u8 0, .int .u8 0, .int .u8 0, .int .u8 0, .int .u8 0, .int .u8 0, .int .u8 0] : Array Value).size) := size_wr
  obtain ⟨x0, x1, x2, x3, x4, x5, x6, x7, x8, x9, x10, x11, x12, x13, x14, x15, x16, hcs⟩ := list17 _ hlen
  have HCS : Hid (wrV (i, s.data.toList) = [x0, x1, x2, x3, x4, x5, x6, x7, x8, x9, x10, x11, x12, x13, x14, x15, x16]) := hcs
  rw [hcs] at hcp hone
  have HONE : Hid (∀ u ∈ [x0, x1, x2, x3, x4, x5, x6, x7, x8, x9, x10, x11, x12, x13, x14, x15, x16], u.oneCell' = true) := hone
  have HMX : Hid (d1.pend.length + 1 ≤ maxLen) := by unfold Hid maxLen; omega
  have HNB : Hid ((((w1.alloc (.cells #[x0, x1, x2, x3, x4, x5, x6, x7, x8, x9, x10, x11, x12, x13, x14, x15, x16] 220)).alloc (.cells #[x0, x1, x2, x3, x4, x5, x6, x7, x8, x9, x10, x11, x12, x13, x14, x15, x16] 220)).drew).heap[w1.heap.size + 1]? = some (.cells #[x0, x1, x2, x3, x4, x5, x6, x7, x8, x9, x10, x11, x12, x13, x14, x15, x16] 220 (0, 0))) := heap_alloc2_new w1 _ _
  have HOW : Hid ((((w1.alloc (.cells #[x0, x1, x2, x3, x4, x5, x6, x7, x8, x9, x10, x11, x12, x13, x14, x15, x16] 220)).alloc (.cells #[x0, x1, x2, x3, x4, x5, x6, x7, x8, x9, x10, x11, x12, x13, x14, x15, x16] 220)).drew).ownsRow B 220 17 h.v2 d1.pend.length (wrsV d1.pend)) := (hd1.op.alloc _).alloc _
  have HSZ : Hid ((((w1.alloc (.cells #[x0, x1, x2, x3, x4, x5, x6, x7, x8, x9, x10, x11, x12, x13, x14, x15, x16] 220)).alloc (.cells #[x0, x1, x2, x3, x4, x5, x6, x7, x8, x9, x10, x11, x12, x13, x14, x15, x16] 220)).drew).heap.size = w1.heap.size + 2) := by unfold Hid; simp
  have HBS : Hid (B ≤ (((w1.alloc (.cells #[x0, x1, x2, x3, x4, x5, x6, x7, x8, x9, x10, x11, x12, x13, x14, x15, x16] 220)).alloc (.cells #[x0, x1, x2, x3, x4, x5, x6, x7, x8, x9, x10, x11, x12, x13, x14, x15, x16] 220)).drew).heap.size) := by unfold Hid; rw [HSZ.out]; omega
  have HP : Hid (h.p < (((w1.alloc (.cells #[x0, x1, x2, x3, x4, x5, x6, x7, x8, x9, x10, x11, x12, x13, x14, x15, x16] 220)).alloc (.cells #[x0, x1, x2, x3, x4, x5, x6, x7, x8, x9, x10, x11, x12, x13, x14, x15, x16] 220)).drew).heap.size) := by unfold Hid; rw [HSZ.out]; omega
  have HNE : Hid (some h.p ≠ h.v2.ownBlock) := Ne.symm hd1.apart.2.2.1
  have HC2 : Hid ((((w1.alloc (.cells #[x0, x1, x2, x3, x4, x5, x6, x7, x8, x9, x10, x11, x12, x13, x14, x15, x16] 220)).alloc (.cells #[x0, x1, x2, x3, x4, x5, x6, x7, x8, x9, x10, x11, x12, x13, x14, x15, x16] 220)).drew).cell? ⟨h.p, 2, none⟩ = some h.v2) := by
    unfold Hid
    show ((w1.alloc (.cells #[x0, x1, x2, x3, x4, x5, x6, x7, x8, x9, x10, x11, x12, x13, x14, x15, x16] 220)).alloc (.cells #[x0, x1, x2, x3, x4, x5, x6, x7, x8, x9, x10, x11, x12, x13, x14, x15, x16] 220)).cell? ⟨h.p, 2, none⟩ = some h.v2
    rw [World.cell?_alloc_past _ _ _ (by simp; omega), World.cell?_alloc_past _ _ _ hpl]; exact c2
  have HF2 : Hid ((((w1.alloc (.cells #[x0, x1, x2, x3, x4, x5, x6, x7, x8, x9, x10, x11, x12, x13, x14, x15, x16] 220)).alloc (.cells #[x0, x1, x2, x3, x4, x5, x6, x7, x8, x9, x10, x11, x12, x13, x14, x15, x16] 220)).drew).frozen? ⟨h.p, 2, none⟩ = false) := by
    unfold Hid
    show ((w1.alloc (.cells #[x0, x1, x2, x3, x4, x5, x6, x7, x8, x9, x10, x11, x12, x13, x14, x15, x16] 220)).alloc (.cells #[x0, x1, x2, x3, x4, x5, x6, x7, x8, x9, x10, x11, x12, x13, x14, x15, x16] 220)).frozen? ⟨h.p, 2, none⟩ = false
    rw [World.frozen?_alloc_past _ _ _ (by simp; omega), World.frozen?_alloc_past _ _ _ hpl]; exact fz2
  clear hd1 fz hcs hlen hone hzone c0 c1 c3 c4
  go_enter Tryz.func137, Tryz.ntmps137
  go_wp2_with fail
  refine HH.out.mono ?_
  rintro e w' ⟨rfl, hww⟩
  have hw' := hww.symm
  subst hw'
  clear hww
  go_wp2_with fail
  refine HF.out.mono ?_
  rintro e w' ⟨rfl, hww⟩
  have hw' := hww.symm
  subst hw'
  clear hww HH HF h16
  go_wp2_with (refine wpList_store_new (by rfl) 220 220 (.tmp 7) (.tmp 22) (by rfl) _ #[.int .i64 (i : Int), .int .u8 0, .int .u8 0, .int .u8 0, .int .u8 0, .int .u8 0, .int .u8 0, .int .u8 0, .int .u8 0, .int .u8 0, .int .u8 0, .int .u8 0, .int .u8 0, .int .u8 0, .int .u8 0, .int .u8 0, .int .u8 0] (by rfl) (by rfl) rfl HI2.out HZ.out ?_)
  clear hcp HZ HI2
  go_region_law (refine step_append_lies _ (by rfl) _ _ 192 (by rfl) B 220 i0 zeroWr 17 24 Tryz.underlying192 hi0 hz0 hz1 hz2 rfl (by decide) h.v2 d1.pend.length (wrsV d1.pend) (by rfl) HOW.out ⟨w1.heap.size + 1, 0, none⟩ 1 1 [x0, x1, x2, x3, x4, x5, x6, x7, x8, x9, x10, x11, x12, x13, x14, x15, x16] (by rfl) (by rfl) (World.news_of_block HNB.out) HONE.out (by decide) HMX.out (by omega) HBS.out (w1.heap.size + 2) HSZ.out ?_; intro g cap w2 hown hgrow hat hlt; have q2 := (hgrow.cell_far ⟨h.p, 2, none⟩ HP.out HNE.out).trans HC2.out; have q3 := (hgrow.frozen_far ⟨h.p, 2, none⟩ HP.out HNE.out).trans HF2.out)
  all_goals
    clear q2 q3
    go_wp2_with fail
    have m : Mid B w1 (w2.setCell ⟨h.p, 2, none⟩ (.slice (some ⟨g, 0, none⟩) (d1.pend.length + 1) cap)) h d1 i s.data.toList (.slice (some ⟨g, 0, none⟩) (d1.pend.length + 1) cap) :=
      mid_of HD.out i s.data.toList g cap (by rw [HCS.out]; exact hown) (by rw [HCS.out]; exact hgrow) hat
    have M : Hid (Mid B w1 (w2.setCell ⟨h.p, 2, none⟩ (.slice (some ⟨g, 0, none⟩) (d1.pend.length + 1) cap)) h d1 i s.data.toList (.slice (some ⟨g, 0, none⟩) (d1.pend.length + 1) cap)) := m
    clear m hown hgrow hat hlt HMX HNB HOW HSZ HBS HP HNE HC2 HF2 HONE HCS c2 fz2 hi0 hz0 hz1 hz2
    generalize w2.setCell ⟨h.p, 2, none⟩ (.slice (some ⟨g, 0, none⟩) (d1.pend.length + 1) cap) = w3 at M ⊢
    obtain ⟨s1, s2, s3⟩ := M.out.reads HD.out hi
    have hcl : (secV s.data.toList).length = 16 := by rw [secV_len]; exact hsl
    have hone2 := secV_one s.data.toList
    have hu71 := Tryz.underlying191
    have hi71 : (Tryz.prog.info? 191).map (·.size) = some (secV s.data.toList).length := by rw [hcl]; exact size_sec
    have hii0 : (0 : Int) ≤ (i : Int) := by omega
    have hii1 : (i : Int) < (d1.fl.length : Int) := by omega
    have hpbs : h.p ≠ h.bs := Ne.symm HD.out.apart.2.1
    have hNbs : w1.heap.size ≠ h.bs := by have := (HD.out.lt h.bs (.inr (.inr (.inl rfl)))).2; omega
    obtain ⟨sv, hsv⟩ : ∃ sv, sv = secV s.data.toList := ⟨_, rfl⟩
    have HSV : Hid (sv = secV s.data.toList) := hsv
    rw [← hsv] at s2 hcl hone2 hi71
    clear hsv
    go_region_held3 (fun w' => w'.cell? ⟨h.p, 1, none⟩ = some (.slice (some ⟨h.bs, 0, none⟩) d1.fl.length h.cs) ∧ w'.rangeAt w1.heap.size 1 sv ∧ w'.there h.bs (i * 16) 16)
      ((go_split_ands; (try simp only [World.rangeAt_drew, World.there_drew] at *); refine ⟨?_, ?_, ?_⟩ <;> first | assumption | (apply World.there_setCells; assumption) | (refine World.rangeAt_setCells_apart (by assumption) _ _ _ (by omega)) | (rw [World.cell?_setCells_out _ _ _ _ _ (fun e => absurd e hpbs)]; assumption)))
      (fail)
    have hfin := M.out.fin (w4 := w3.drew) HD.out hi hsl hw rfl ⟨rfl, rfl, rfl⟩
    rw [← HSV.out] at hfin
    obtain ⟨f1, f2, f3, f4⟩ := hfin
    have HAT : Hid ((Value.slice (some ⟨g, 0, none⟩) (d1.pend.length + 1) cap).ownBlock = h.v2.ownBlock ∨ (Value.slice (some ⟨g, 0, none⟩) (d1.pend.length + 1) cap).ownBlock = some (w1.heap.size + 2)) := M.out.at_
    clear s1 s2 s3 hcl hone2 hi71 hu71 hii0 hii1 hpbs hNbs HSV M
    have F1 : Hid (IsDev B ((w3.drew.setCells h.bs (i * 16) sv).setCell ⟨h.p, 3, none⟩ (.int .i64 ((d1.wr : Int) + 1))) { h with v2 := .slice (some ⟨g, 0, none⟩) (d1.pend.length + 1) cap } (d1.wrote i s.data.toList)) := f1
    have F2 : Hid (Kept h.fp w1 ((w3.drew.setCells h.bs (i * 16) sv).setCell ⟨h.p, 3, none⟩ (.int .i64 ((d1.wr : Int) + 1)))) := f2
    clear f1 f2
    generalize w3.drew.setCells h.bs (i * 16) sv = w5 at F1 F2 f3 f4 ⊢
    go_wp2
    go_ret
    exact ⟨_, rfl, F1.out, F2.out, HAT.out⟩
end Go.Proofs.YtjegaljdindfaabGreatDoor

namespace Go.Proofs.YtjegaljdindfaabGreatDoor
open Go.RowKit
attribute [local go_sem ↓] Go.wp_at_zero Go.wp_at_succ

def DV.ticked (d : DV) : DV := if d.fail = -1 then d else d.failing (d.fail - 1)

theorem DV.ticked_fl (d : DV) : d.ticked.fl = d.fl := by unfold DV.ticked; split <;> rfl
theorem DV.ticked_wr (d : DV) : d.ticked.wr = d.wr := by unfold DV.ticked; split <;> rfl

set_option maxRecDepth 100000 in
set_option maxHeartbeats 400000 in
theorem fails_tick {B : Nat} {h : Hd} {d : DV} (w : World) (hd : IsDev B w h d) (hn : 0 < d.fail) :
    Calls Tryz.prog 169 #[.pointer (some ⟨h.p, 0, none⟩)] w fun e w' => e = .returned (.bool false) ∧ w' = w.setCell ⟨h.p, 4, none⟩ (.int .i64 (d.fail - 1)) := by
  obtain ⟨c0, c1, c2, c3, c4, fz⟩ := hd.cells
  have hm := hd.ok.f2
  have g1 : (d.fail == -1) = false := beq_eq_false_iff_ne.2 (by omega)
  have HE : Hid ((d.fail - 1 == -1) = false) := beq_eq_false_iff_ne.2 (by omega)
  clear hd
  go_enter Tryz.func169, Tryz.ntmps169
  go_wp2
  go_ret
  exact ⟨ret_b HE.out, rfl⟩

theorem write_ok {B : Nat} {h : Hd} {d : DV} (i : Nat) (s : ByteArray) (w : World) (hd : IsDev B w h d) (hB : B ≤ w.heap.size) (hs : s.size = 16) (hi : i < d.fl.length) (hw : d.wr < 1000000000) (hf : d.fail ≠ 0) :
    Calls Tryz.prog 137 #[.pointer (some ⟨h.p, 0, none⟩), .int .i64 (i : Int), .string s] w fun e w' =>
      ∃ v : Value, e = .returned .nilIface ∧ IsDev B w' { h with v2 := v } (d.ticked.wrote i s.data.toList) ∧ Kept h.fp w w' ∧ ∀ k, v.ownBlock = some k → h.v2.ownBlock = some k ∨ w.heap.size ≤ k := by
  have HH : Hid (Calls Tryz.prog 168 #[.pointer (some ⟨h.p, 0, none⟩), .int .i64 (i : Int)] w fun e w' => e = .returned (.bool true) ∧ w' = w) := by
    have := has_any (i : Int) w hd
    rw [show d.has (i : Int) = true by unfold DV.has; simp; omega] at this
    exact this
  by_cases h1 : d.fail = -1
  · have e : d.ticked = d := by unfold DV.ticked; rw [if_pos h1]
    rw [e]
    refine (write_go i s w w hd hB hs hi hw HH (fails_never w hd h1)).mono ?_
    rintro e w' ⟨v, rfl, a, b, c⟩
    exact ⟨v, rfl, a, b, fun k hk => by rcases c with c | c <;> rw [c] at hk; exact .inl hk; right; simp at hk; omega⟩
  · have h2 := hd.ok.f1
    have h3 := hd.ok.f2
    have e : d.ticked = d.failing (d.fail - 1) := by unfold DV.ticked; rw [if_neg h1]
    rw [e]
    have hsz : (w.setCell ⟨h.p, 4, none⟩ (.int .i64 (d.fail - 1))).heap.size = w.heap.size := by simp [World.setCell]
    refine (write_go i s w (w.setCell ⟨h.p, 4, none⟩ (.int .i64 (d.fail - 1))) (hd.failing (by omega) (by omega)) (by rw [hsz]; exact hB) hs hi hw HH (fails_tick w hd (by omega))).mono ?_
    rintro e w' ⟨v, rfl, a, b, c⟩
    refine ⟨v, rfl, a, ((Kept.refl _ w).setCell (.inl (.inl rfl)) _).trans b, fun k hk => ?_⟩
    rw [hsz] at c
    rcases c with c | c <;> rw [c] at hk
    · exact .inl hk
    · right; simp at hk; omega
end Go.Proofs.YtjegaljdindfaabGreatDoor

namespace Go.Proofs.YtjegaljdindfaabGreatDoor
open Go.RowKit
attribute [local go_sem ↓] Go.wp_at_zero Go.wp_at_succ

def chunk (s : ByteArray) (i : Nat) : List UInt8 := (s.data.toList.drop (i * 16)).take 16
def chunkTo (s : ByteArray) (n k : Nat) : List (List UInt8) := (List.range n).map fun i => if i < k then chunk s i else noughts

theorem chunk_len (s : ByteArray) (n i : Nat) (hs : s.size = n * 16) (hi : i < n) : (chunk s i).length = 16 := by
  have : s.data.toList.length = n * 16 := by simpa using hs
  simp only [chunk, List.length_take, List.length_drop]
  omega

theorem chunkTo_len (s : ByteArray) (n k : Nat) : (chunkTo s n k).length = n := by simp [chunkTo]

theorem chunkTo_16 (s : ByteArray) (n k : Nat) (hs : s.size = n * 16) : ∀ x ∈ chunkTo s n k, x.length = 16 := by
  intro x hx
  obtain ⟨i, hi, rfl⟩ := List.mem_map.1 hx
  have hi' := List.mem_range.1 hi
  split
  · exact chunk_len s n i hs hi'
  · rfl

theorem chunkTo_zero (s : ByteArray) (n : Nat) : chunkTo s n 0 = List.replicate n noughts := by
  simp [chunkTo, List.map_const']

theorem chunkTo_succ (s : ByteArray) (n k : Nat) : chunkTo s n (k + 1) = (chunkTo s n k).set k (chunk s k) := by
  apply List.ext_getElem?
  intro i
  rw [List.getElem?_set]
  by_cases e : k = i
  · subst e
    by_cases hk : k < n
    · simp [chunkTo, hk]
    · simp [chunkTo, hk]
  · rw [if_neg e]
    by_cases hi : i < n
    · have : (i < k + 1) ↔ (i < k) := by omega
      simp [chunkTo, hi, this]
    · simp [chunkTo, hi]

theorem run_copy_text2 (w : World) (g off : Nat) (s : ByteArray) (cap : Nat) (cur : Array Value) (t : TypeId) (hn : 16 ≤ s.size) (hg : w.heap[g]? = some (.cells cur t (0, 0))) (hfit : off + 16 ≤ cur.size) :
    (Builtin.copy_ #[132, 9] 3 #[.slice (some ⟨g, off, none⟩) 16 cap, .string s]).run Tryz.prog w = .ok (.int .i64 16) (w.setCells g off (secV (s.data.toList.take 16))) := by
  have hlen : (secV (s.data.toList.take 16)).length = 16 := by
    have : s.data.toList.length = s.size := by simp
    rw [secV_len, List.length_take]; omega
  have hst := run_storeCells_cells (P := Tryz.prog) g off (secV (s.data.toList.take 16)) 0 w (fun j hj => by rw [Nat.add_zero, cell_of_row _ _ _ _ _ _ hg]; simp; omega) (fun j _ => frozen_of_row _ _ _ _ _ hg) (secV_one _)
  have hsz : ∀ w : World, (sizeOf 5).run Tryz.prog w = .ok 1 w := fun _ => by kernel_rfl
  have hmin : Nat.min s.size 16 = 16 := Nat.min_eq_right hn
  simp only [Nat.add_zero] at hst
  have e : List.take 16 (List.map (fun b => Value.int .u8 (b.toNat : Int)) s.data.toList) = secV (s.data.toList.take 16) := by simp [secV]
  simp [Builtin.copy_, run_underlying Tryz.underlying132, Builtin.lenOf, hsz, Builtin.firstCells, goInt]
  rw [hmin, e, hst]
  rfl

theorem chunk_extract (s : ByteArray) (i : Nat) : (s.extract (i * 16) s.size).data.toList.take 16 = chunk s i := by
  have hl : s.data.toList.length = s.size := by simp
  have : (s.extract (i * 16) s.size).data.toList = s.data.toList.drop (i * 16) := by
    simp
    rw [List.take_of_length_le]
    rw [List.length_drop, hl]
    exact Nat.le_refl _
  rw [this]; rfl

end Go.Proofs.YtjegaljdindfaabGreatDoor
