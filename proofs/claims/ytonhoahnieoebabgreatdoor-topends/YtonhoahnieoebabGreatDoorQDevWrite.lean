/-
A write on a device: what it gives, and what the device is behind it.
-/
import Derived.Test.YtonhoahnieoebabGreatDoorQDevCrash
import Derived.Deep.RegionLaw
import Derived.Deep.RegionHeld3
import Derived.Deep.DrawnRows
import Derived.Deep.AppendSrc
import Derived.Deep.WholeRow
namespace Go.Proofs.YtonhoahnieoebabGreatDoor
open Go.RowKit

attribute [local go_sem ↓] Go.wp_at_zero Go.wp_at_succ

theorem byteCells_sec (s : ByteArray) : byteCells s = secV s.data.toList := rfl

/- copy of a text into cells that are known whole. -/
theorem run_copy_text (w : World) (g off : Nat) (s : ByteArray) (n cap : Nat) (cur : List Value) (t : TypeId) (hn : s.size = n) (hg : w.heap[g]? = some (.cells cur.toArray t (0, 0))) (hfit : off + n ≤ cur.length) :
    (Builtin.copy_ #[206, 9] 3 #[.slice (some ⟨g, off, none⟩) n cap, .string s]).run Tryz.prog w = .ok (.int .i64 (n : Int)) (w.setRow g (splice cur off (secV s.data.toList)).toArray) := by
  subst hn
  have hlen : (secV s.data.toList).length = s.size := by rw [secV_len]; simp
  have hst := run_storeCells_at (P := Tryz.prog) g off t (secV s.data.toList) 0 cur.toArray w hg (by simp [hlen]; omega) (secV_one _)
  have hsz : ∀ w : World, (sizeOf 5).run Tryz.prog w = .ok 1 w := fun _ => by kernel_rfl
  have hfc := firstCells_string (P := Tryz.prog) s w
  rw [byteCells_sec] at hfc
  simp [Builtin.copy_, run_underlying Tryz.underlying206, Builtin.lenOf, hsz, hfc, hst, goInt, splice]

set_option maxRecDepth 100000 in
set_option maxHeartbeats 400000 in
theorem write_io {B : Nat} {h : Hd} {d : DV} (at_ : Int) (s : ByteArray) (w : World) (hd : IsDev B w h d) (hs : s.size = 16) (hn : d.has at_ = true) (hf : d.fail = 0) :
    Calls Tryz.prog 214 #[.pointer (some ⟨h.p, 0, none⟩), .int .i64 at_, .string s] w fun e w' => e = .returned (.iface 127 (.int .i64 7)) ∧ IsDev B w' h (d.failing (-1)) ∧ Kept h.fp w w' := by
  have HH := has_any at_ w hd
  rw [hn] at HH
  have HF := fails_some w hd (by omega)
  rw [hf] at HF
  have h16 : ((s.size : Int) != 16) = false := by simp; omega
  clear hn hd hf
  have HH1 : Hid (Calls Tryz.prog 231 #[.pointer (some ⟨h.p, 0, none⟩), .int .i64 at_] w fun e w' => e = .returned (.bool true) ∧ w' = w) := HH
  have HF1 : Hid (Calls Tryz.prog 259 #[.pointer (some ⟨h.p, 0, none⟩)] w fun e w' => e = .returned (.bool (decide ((0 : Int) = 0))) ∧ IsDev B w' h (d.failing (0 - 1)) ∧ Kept h.fp w w') := HF
  clear HH HF
  go_enter Tryz.func214, Tryz.ntmps214
  go_wp2_with fail
  refine HH1.out.mono ?_
  rintro e w' ⟨rfl, hw⟩
  have hw' := hw.symm
  subst hw'
  clear hw
  go_wp2_with fail
  refine HF1.out.mono ?_
  rintro e w1 ⟨rfl, hd1, hk1⟩
  have HD1 : Hid (IsDev B w1 h (d.failing (0 - 1))) := hd1
  clear hd1
  go_wp2
  go_ret
  exact ⟨rfl, HD1.out, hk1⟩

set_option maxRecDepth 100000 in
theorem copy_new (w1 : World) (i : Nat) (s : ByteArray) (hs : s.size = 16) :
    (Builtin.copy_ #[206, 9] 3 #[.slice (some ⟨w1.heap.size, 1, none⟩) 16 16, .string s]).run Tryz.prog (w1.alloc (.cells #[.int .i64 (i : Int), .int .u8 0, .int .u8 0, .int .u8 0, .int .u8 0, .int .u8 0, .int .u8 0, .int .u8 0, .int .u8 0, .int .u8 0, .int .u8 0, .int .u8 0, .int .u8 0, .int .u8 0, .int .u8 0, .int .u8 0, .int .u8 0] 266)) =
      .ok (.int .i64 16) (w1.alloc (.cells (wrV (i, s.data.toList)).toArray 266)) := by
  have := run_copy_text (w1.alloc (.cells #[.int .i64 (i : Int), .int .u8 0, .int .u8 0, .int .u8 0, .int .u8 0, .int .u8 0, .int .u8 0, .int .u8 0, .int .u8 0, .int .u8 0, .int .u8 0, .int .u8 0, .int .u8 0, .int .u8 0, .int .u8 0, .int .u8 0, .int .u8 0] 266)) w1.heap.size 1 s 16 16 [.int .i64 (i : Int), .int .u8 0, .int .u8 0, .int .u8 0, .int .u8 0, .int .u8 0, .int .u8 0, .int .u8 0, .int .u8 0, .int .u8 0, .int .u8 0, .int .u8 0, .int .u8 0, .int .u8 0, .int .u8 0, .int .u8 0, .int .u8 0] 266 hs (heap_alloc_new w1 _) (by simp)
  rw [this, World.setRow_alloc_new]
  have hl : (secV s.data.toList).length = 16 := by rw [secV_len]; simpa using hs
  congr 4
  simp [splice, wrV, hl]

set_option maxRecDepth 100000 in
theorem setCells_new (w : World) (c : Array Value) (t : TypeId) (vs : List Value) (h : c.size = vs.length) (h1 : ∀ v ∈ vs, v.oneCell' = true) : (w.alloc (.cells c t)).setCells w.heap.size 0 vs = w.alloc (.cells vs.toArray t) := by
  rw [setCells_setRow _ _ _ _ c t (heap_alloc_new w _) (by omega) h1, World.setRow_alloc_new]
  congr 3
  simp [← h]

def DV.wrote (d : DV) (i : Nat) (s : List UInt8) : DV := { d with seen := d.seen.set i s, pend := d.pend ++ [(i, s)], wr := d.wr + 1 }

theorem DV.ok.wrote {d : DV} (h : d.ok) {i : Nat} {s : List UInt8} (hi : i < d.fl.length) (hs : s.length = 16) (hw : d.wr < 1000000000) : (d.wrote i s).ok := by
  refine ⟨h.n1, h.n2, ?_, h.l1, fun x hx => ?_, fun x hx => ?_, ?_, ?_, h.f1, h.f2⟩
  · show (d.seen.set i s).length = _; rw [List.length_set]; exact h.same
  · rcases List.mem_or_eq_of_mem_set hx with q | q
    · exact h.l2 x q
    · rw [q]; exact hs
  · rcases List.mem_append.1 hx with q | q
    · exact h.l3 x q
    · have : x = (i, s) := by simpa using q
      subst this; exact ⟨hi, hs⟩
  · show (d.pend ++ [(i, s)]).length ≤ d.wr + 1; rw [List.length_append]; have := h.few; simp; omega
  · show d.wr + 1 ≤ _; omega

/- Behind the append: what lies where. -/
structure Mid (B : Nat) (w1 w3 : World) (h : Hd) (d : DV) (i : Nat) (s : List UInt8) (v : Value) : Prop where
  bp : w3.heap[h.p]? = some (.cells #[.slice (some ⟨h.bf, 0, none⟩) d.fl.length h.cf, .slice (some ⟨h.bs, 0, none⟩) d.fl.length h.cs, v, .int .i64 (d.wr : Int), .int .i64 d.fail] 264 (0, 0))
  bf : w3.heap[h.bf]? = w1.heap[h.bf]?
  bs : w3.heap[h.bs]? = w1.heap[h.bs]?
  bn : w3.heap[w1.heap.size]? = some (.cells (wrV (i, s)).toArray 266 (0, 0))
  ow : w3.ownsRow B 266 17 v (d.pend.length + 1) (wrsV (d.pend ++ [(i, s)]))
  at_ : v.ownBlock = h.v2.ownBlock ∨ v.ownBlock = some (w1.heap.size + 2)
  kept : Kept h.fp w1 w3

theorem mid_of {B : Nat} {w1 w2 : World} {h : Hd} {d : DV} (hd : IsDev B w1 h d) (i : Nat) (s : List UInt8) (g cap : Nat)
    (hown : w2.ownsRow B 266 17 (.slice (some ⟨g, 0, none⟩) (d.pend.length + 1) cap) (d.pend.length + 1) (wrsV d.pend ++ wrV (i, s)))
    (hgrow : (((w1.alloc (.cells (wrV (i, s)).toArray 266)).alloc (.cells (wrV (i, s)).toArray 266)).drew).grownBy w2 h.v2.ownBlock)
    (hat : h.v2.ownBlock = some g ∨ g = w1.heap.size + 2) : Mid B w1 (w2.setCell ⟨h.p, 2, none⟩ (.slice (some ⟨g, 0, none⟩) (d.pend.length + 1) cap)) h d i s (.slice (some ⟨g, 0, none⟩) (d.pend.length + 1) cap) := by
  obtain ⟨a1, a2, a3, a4, a5⟩ := hd.apart
  have hlt := hd.lt
  have hpl := (hlt h.p (.inl rfl)).2
  have hfl := (hlt h.bf (.inr (.inl rfl))).2
  have hsl := (hlt h.bs (.inr (.inr (.inl rfl)))).2
  have hW : ∀ k, k < w1.heap.size → (((w1.alloc (.cells (wrV (i, s)).toArray 266)).alloc (.cells (wrV (i, s)).toArray 266)).drew).heap[k]? = w1.heap[k]? := fun k hk => by
    show ((w1.alloc _).alloc _).heap[k]? = _
    rw [Below.heap_alloc _ _ _ (by simp; omega), Below.heap_alloc _ _ _ hk]
  have hsz : (((w1.alloc (.cells (wrV (i, s)).toArray 266)).alloc (.cells (wrV (i, s)).toArray 266)).drew).heap.size = w1.heap.size + 2 := by
    show ((w1.alloc _).alloc _).heap.size = _
    simp
  have hN : (((w1.alloc (.cells (wrV (i, s)).toArray 266)).alloc (.cells (wrV (i, s)).toArray 266)).drew).heap[w1.heap.size]? = some (.cells (wrV (i, s)).toArray 266 (0, 0)) := heap_alloc2_old w1 _ _
  have h2 : ∀ k, k < w1.heap.size → h.v2.ownBlock ≠ some k → w2.heap[k]? = w1.heap[k]? := fun k hk hne => by
    rw [hgrow.block k (by omega) (Ne.symm hne), hW k hk]
  have hp2 : w2.heap[h.p]? = _ := (h2 h.p hpl a3).trans hd.blk
  obtain ⟨hgB, curg, hhg, _⟩ := ownsRow_block hown
  have hgp : g ≠ h.p := fun e => by rw [e, hp2] at hhg; cases hhg
  have hown' : wrsV (d.pend ++ [(i, s)]) = wrsV d.pend ++ wrV (i, s) := by simp [wrsV]
  refine ⟨?_, ?_, ?_, ?_, ?_, ?_, ?_⟩
  · rw [heap_setCell_same w2 h.p 2 _ _ _ hp2]; rfl
  · rw [heap_setCell_other _ _ _ _ a1]; exact h2 _ hfl a4
  · rw [heap_setCell_other _ _ _ _ a2]; exact h2 _ hsl a5
  · rw [heap_setCell_other _ _ _ _ (show w1.heap.size ≠ h.p by omega), hgrow.block w1.heap.size (by omega) (fun e => by
      have := (hlt w1.heap.size (.inr (.inr (.inr e.symm)))).2
      omega)]
    exact hN
  · rw [hown']
    exact ownsRow_keep hown (fun k e => by
      have : g = k := by simpa [Value.ownBlock] using e
      subst this
      exact heap_setCell_other _ _ _ _ hgp)
  · rcases hat with q | q
    · left; rw [q]; rfl
    · right; rw [q]; rfl
  · refine ⟨hgrow.os, hgrow.tape, hgrow.output, ?_, fun k hk hs => ?_⟩
    · have := hgrow.size
      rw [hsz] at this
      simp [World.setCell]; omega
    · rw [heap_setCell_other _ _ _ _ (fun e => hs (.inl e)), h2 k hk (fun e => hs (.inr (.inr (.inr e))))]

/- The three that the last statements read. -/
theorem Mid.reads {B : Nat} {w1 w3 : World} {h : Hd} {d : DV} {i : Nat} {s : List UInt8} {v : Value} (m : Mid B w1 w3 h d i s v) (hd : IsDev B w1 h d) (hi : i < d.fl.length) :
    w3.cell? ⟨h.p, 1, none⟩ = some (.slice (some ⟨h.bs, 0, none⟩) d.fl.length h.cs) ∧ w3.rangeAt w1.heap.size 1 (secV s) ∧ w3.there h.bs (i * 16) 16 := by
  refine ⟨by rw [cell_of_row _ _ _ _ _ _ m.bp]; rfl, (wrV_range (x := (i, s)) (fun j v hv => ?_)).2, fun j hj => ?_⟩
  · rw [Nat.zero_add, cell_of_row _ _ _ _ _ _ m.bn]; simpa using hv
  · obtain ⟨_, cur, hh, h1, _, h3, _⟩ := ownsRow_block hd.os
    rw [← m.bs] at hh
    rw [cell_of_row _ _ _ _ _ _ hh, frozen_of_row _ _ _ _ _ hh]
    exact ⟨by simp; omega, rfl⟩

theorem Mid.fin {B : Nat} {w1 w3 w4 : World} {h : Hd} {d : DV} {i : Nat} {s : List UInt8} {v : Value} (m : Mid B w1 w3 h d i s v) (hd : IsDev B w1 h d) (hi : i < d.fl.length) (hs : s.length = 16) (hw : d.wr < 1000000000)
    (hh : w4.heap = w3.heap) (ho : w4.os = w3.os ∧ w4.tape = w3.tape ∧ w4.output = w3.output) :
    IsDev B ((w4.setCells h.bs (i * 16) (secV s)).setCell ⟨h.p, 3, none⟩ (.int .i64 ((d.wr : Int) + 1))) { h with v2 := v } (d.wrote i s) ∧ Kept h.fp w1 ((w4.setCells h.bs (i * 16) (secV s)).setCell ⟨h.p, 3, none⟩ (.int .i64 ((d.wr : Int) + 1))) ∧
      (w4.setCells h.bs (i * 16) (secV s)).cell? ⟨h.p, 3, none⟩ = some (.int .i64 (d.wr : Int)) ∧ (w4.setCells h.bs (i * 16) (secV s)).frozen? ⟨h.p, 3, none⟩ = false := by
  obtain ⟨a1, a2, a3, a4, a5⟩ := hd.apart
  have hp5 : (w4.setCells h.bs (i * 16) (secV s)).heap[h.p]? = some (.cells #[.slice (some ⟨h.bf, 0, none⟩) d.fl.length h.cf, .slice (some ⟨h.bs, 0, none⟩) d.fl.length h.cs, v, .int .i64 (d.wr : Int), .int .i64 d.fail] 264 (0, 0)) := by
    rw [heap_setCells_other _ _ (Ne.symm a2), hh]; exact m.bp
  have ow4 : w4.ownsRow B 266 17 v (d.pend.length + 1) (wrsV (d.pend ++ [(i, s)])) := ownsRow_keep m.ow (fun k _ => by rw [hh])
  have vne : ∀ k, v.ownBlock = some k → ∃ cur, w3.heap[k]? = some (.cells cur 266 (0, 0)) := fun k e => by
    rcases m.ow.2 with ⟨q, _⟩ | ⟨g, cap, cur, q, _, hg, _⟩
    · rw [q] at e; cases e
    · rw [q] at e
      have : g = k := by simpa [Value.ownBlock] using e
      subst this
      exact ⟨cur, hg⟩
  obtain ⟨_, curs, hhs, _⟩ := ownsRow_block hd.os
  obtain ⟨_, curf, hhf, _⟩ := ownsRow_block hd.of
  have vbs : ∀ k, v.ownBlock = some k → k ≠ h.bs := fun k e q => by
    obtain ⟨cur, hc⟩ := vne k e
    rw [q, m.bs, hhs] at hc; cases hc
  have vp : ∀ k, v.ownBlock = some k → k ≠ h.p := fun k e q => by
    obtain ⟨cur, hc⟩ := vne k e
    rw [q, m.bp] at hc; cases hc
  have os4 : w4.ownsRow B 261 16 (.slice (some ⟨h.bs, 0, none⟩) d.fl.length h.cs) d.fl.length (secsV d.seen) := ownsRow_keep hd.os (fun k e => by
    have : h.bs = k := by simpa [Value.ownBlock] using e
    subst this
    rw [hh]; exact m.bs)
  have os5 := ownsRow_setSec os4 hd.ok.same hd.ok.l2 i s hs hi
  refine ⟨⟨hd.ok.wrote hi hs hw, hd.pB, ?_, ?_, ?_, ?_, hd.ne, fun e => by simp [DV.wrote] at e⟩, ?_, by rw [cell_of_row _ _ _ _ _ _ hp5]; rfl, frozen_of_row _ _ _ _ _ hp5⟩
  · show ((w4.setCells h.bs (i * 16) (secV s)).setCell ⟨h.p, 3, none⟩ (.int .i64 ((d.wr : Int) + 1))).heap[h.p]? = some (.cells #[.slice (some ⟨h.bf, 0, none⟩) d.fl.length h.cf, .slice (some ⟨h.bs, 0, none⟩) d.fl.length h.cs, v, .int .i64 ((d.wr + 1 : Nat) : Int), .int .i64 d.fail] 264 (0, 0))
    rw [heap_setCell_same _ h.p 3 _ _ _ hp5]; rfl
  · show World.ownsRow _ B 261 16 (.slice (some ⟨h.bf, 0, none⟩) d.fl.length h.cf) d.fl.length (secsV d.fl)
    exact ownsRow_keep hd.of (fun k e => by
      have : h.bf = k := by simpa [Value.ownBlock] using e
      subst this
      rw [heap_setCell_other _ _ _ _ a1, heap_setCells_other _ _ hd.ne, hh]; exact m.bf)
  · show World.ownsRow _ B 261 16 (.slice (some ⟨h.bs, 0, none⟩) d.fl.length h.cs) d.fl.length (secsV (d.seen.set i s))
    exact ownsRow_keep os5 (fun k e => by
      have : h.bs = k := by simpa [Value.ownBlock] using e
      subst this
      exact heap_setCell_other _ _ _ _ a2)
  · show World.ownsRow _ B 266 17 v (d.pend ++ [(i, s)]).length (wrsV (d.pend ++ [(i, s)]))
    rw [List.length_append]
    exact ownsRow_keep ow4 (fun k e => by rw [heap_setCell_other _ _ _ _ (vp k e), heap_setCells_other _ _ (vbs k e)])
  · have k4 : Kept h.fp w1 w4 := ⟨ho.1.trans m.kept.os, ho.2.1.trans m.kept.tape, ho.2.2.trans m.kept.output, by rw [hh]; exact m.kept.size, fun k hk q => by rw [hh]; exact m.kept.block k hk q⟩
    exact (k4.setCells (.inl (.inr (.inr (.inl rfl)))) _ _).setCell (.inl (.inl rfl)) _

theorem list17 (cs : List Value) (h : cs.length = 17) : ∃ x0 x1 x2 x3 x4 x5 x6 x7 x8 x9 x10 x11 x12 x13 x14 x15 x16, cs = [x0, x1, x2, x3, x4, x5, x6, x7, x8, x9, x10, x11, x12, x13, x14, x15, x16] := by
  match cs, h with
  | [x0, x1, x2, x3, x4, x5, x6, x7, x8, x9, x10, x11, x12, x13, x14, x15, x16], _ => exact ⟨_, _, _, _, _, _, _, _, _, _, _, _, _, _, _, _, _, rfl⟩

end Go.Proofs.YtonhoahnieoebabGreatDoor
