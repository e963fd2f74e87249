/-
Copies of rows (slices.Clone), new devices: what New, made and the two Clones give.
New devices, the bytes of a sector that is read: what New and Read give.
Flush, Crash, Bytes and Copy of a device: what each gives, and what the device is behind it.
Crash and Copy of a device: another device, as power that fails leaves it; the same one, apart.
-/
import Derived.Test.YtonhoahnieoebabGreatDoorQDevGets
import Derived.Laws.BytesArg
import Derived.Deep.RegionHeld3
import Derived.Deep.DrawnRows
import Derived.Deep.AppendSrc
import Derived.Deep.WholeRow
namespace Go.Proofs.YtonhoahnieoebabGreatDoor
open Go.RowKit

def zeroSec : Value := .agg #[.int .u8 0, .int .u8 0, .int .u8 0, .int .u8 0, .int .u8 0, .int .u8 0, .int .u8 0, .int .u8 0, .int .u8 0, .int .u8 0, .int .u8 0, .int .u8 0, .int .u8 0, .int .u8 0, .int .u8 0, .int .u8 0]
def zeroWr : Value := .agg #[.int .i64 0, .int .u8 0, .int .u8 0, .int .u8 0, .int .u8 0, .int .u8 0, .int .u8 0, .int .u8 0, .int .u8 0, .int .u8 0, .int .u8 0, .int .u8 0, .int .u8 0, .int .u8 0, .int .u8 0, .int .u8 0, .int .u8 0]
theorem info_sec : (Tryz.prog.info? 261).map (fun i => (i.zero, i.size, i.bytes)) = some (some zeroSec, 16, 16) := by kernel_rfl
theorem info_wr : (Tryz.prog.info? 266).map (fun i => (i.zero, i.size, i.bytes)) = some (some zeroWr, 17, 24) := by kernel_rfl

theorem secV_len (s : List UInt8) : (secV s).length = s.length := by simp [secV]
theorem secsV_len (l : List (List UInt8)) (h : ∀ s ∈ l, s.length = 16) : (secsV l).length = l.length * 16 := by
  induction l with
  | nil => simp [secsV]
  | cons s l ih =>
    have h1 := h s (by simp)
    have h2 := ih (fun x hx => h x (by simp [hx]))
    simp only [secsV, List.map_cons, List.flatten_cons, List.length_append, List.length_cons] at h2 ⊢
    rw [secV_len, h1, h2]; omega
theorem secV_one (s : List UInt8) : ∀ u ∈ secV s, u.oneCell' = true := by
  intro u hu
  obtain ⟨b, _, rfl⟩ := List.mem_map.1 hu
  rfl
theorem secsV_one (l : List (List UInt8)) : ∀ u ∈ secsV l, u.oneCell' = true := by
  intro u hu
  simp only [secsV, List.mem_flatten, List.mem_map] at hu
  obtain ⟨x, ⟨s, _, rfl⟩, hx⟩ := hu
  exact secV_one s u hx
theorem wrV_len (x : Nat × List UInt8) : (wrV x).length = x.2.length + 1 := by simp [wrV, secV]
theorem wrsV_one (l : List (Nat × List UInt8)) : ∀ u ∈ wrsV l, u.oneCell' = true := by
  intro u hu
  simp only [wrsV, List.mem_flatten, List.mem_map] at hu
  obtain ⟨x, ⟨s, _, rfl⟩, hx⟩ := hu
  simp only [wrV, List.mem_cons] at hx
  rcases hx with rfl | hx
  · rfl
  · exact secV_one s.2 u hx

/- A row that is owned, read as cells to be appended. -/
theorem ownsRow_news {w : World} {B e size g n cap : Nat} {xs : List Value} (h : w.ownsRow B e size (.slice (some ⟨g, 0, none⟩) n cap) n xs) :
    ∀ j u, xs[j]? = some u → w.cell? ((⟨g, 0, none⟩ : Addr).add j) = some u := h.cells (g := g) rfl

theorem ownsRow_empty (w : World) (e size : Nat) : (w.alloc (.cells #[] e)).ownsRow w.heap.size e size (.slice (some ⟨w.heap.size, 0, none⟩) 0 0) 0 [] :=
  ⟨by simp, .inr ⟨w.heap.size, 0, #[], rfl, Nat.le_refl _, heap_alloc_new w _, Nat.le_refl _, by unfold maxLen; omega, by simp, by simp⟩⟩

set_option maxRecDepth 100000 in
set_option maxHeartbeats 400000 in
theorem cloneSec_any {B g cap : Nat} (l : List (List UInt8)) (w : World) (h1 : 1 ≤ l.length) (h2 : l.length ≤ 200) (hl : ∀ s ∈ l, s.length = 16)
    (ho : w.ownsRow B 261 16 (.slice (some ⟨g, 0, none⟩) l.length cap) l.length (secsV l)) :
    Calls Tryz.prog 217 #[.slice (some ⟨g, 0, none⟩) l.length cap] w fun e w' =>
      ∃ g' cap', e = .returned (.slice (some ⟨g', 0, none⟩) l.length cap') ∧ w'.ownsRow w.heap.size 261 16 (.slice (some ⟨g', 0, none⟩) l.length cap') l.length (secsV l) ∧ Below w.heap.size w w' := by
  obtain ⟨i0, hi, hz0, hz1, hz2⟩ := info_parts info_sec
  have hn := ownsRow_news ho
  have hlen := secsV_len l hl
  have h1c := secsV_one l
  obtain ⟨_, cur, hh, _⟩ := ownsRow_block ho
  have hg : g < w.heap.size := lt_of_some hh
  have HN : Hid (∀ j u, (secsV l)[j]? = some u → (w.alloc (.cells #[] 261)).cell? ((⟨g, 0, none⟩ : Addr).add j) = some u) := fun j u hj => by
    have := hn j u hj
    rw [World.cell?_alloc_lt _ _ _ (World.block_lt_of_cell? w _ this)]; exact this
  have hq : ∀ w : World, (binOp .eql 208 (.slice (some ⟨g, 0, none⟩) l.length cap) (.slice none 0 0)).run Tryz.prog w = .ok (.bool false) w := fun w => by
    simpa using Lib.run_eql_slice_nil (P := Tryz.prog) w 208 261 (some ⟨g, 0, none⟩) l.length cap 0 0 Tryz.underlying208
  clear hn hh
  go_enter Tryz.func217, Tryz.ntmps217
  go_wp2_with (at_builtin; refine wpList_append_lies _ rfl _ _ 208 rfl w.heap.size 261 i0 zeroSec 16 16 Tryz.underlying208 hi hz0 hz1 hz2 rfl (by decide) _ 0 [] rfl (ownsRow_empty w 261 16) ⟨g, 0, none⟩ l.length cap (secsV l) rfl hlen HN.out h1c (by omega) (by unfold maxLen; omega) (by omega) (by simp) _ rfl ?_; intro g' cap' w1 hown hgrow hat hlt)
  rw [Nat.zero_add] at hown
  go_ret
  exact ⟨g', cap', rfl, by simpa using hown, ((Below.refl _ _).alloc (Nat.le_refl _) _).grown (row := some w.heap.size) hgrow (by simp) (fun k e => by
    have : w.heap.size = k := by simpa using e
    omega)⟩

def DV.made (l : List (List UInt8)) (wr : Nat) : DV := ⟨l, l, [], wr, -1⟩

theorem DV.made_ok {l : List (List UInt8)} {wr : Nat} (h1 : 1 ≤ l.length) (h2 : l.length ≤ 200) (hl : ∀ s ∈ l, s.length = 16) (hw : wr ≤ 1000000000) : (DV.made l wr).ok :=
  ⟨h1, h2, rfl, hl, hl, (fun x hx => by cases hx), Nat.zero_le _, hw, (by show (-1 : Int) ≤ -1; decide), (by show (-1 : Int) ≤ _; decide)⟩

set_option maxRecDepth 100000 in
set_option maxHeartbeats 400000 in
theorem made_any {B g cap : Nat} (l : List (List UInt8)) (wr : Nat) (w : World) (h1 : 1 ≤ l.length) (h2 : l.length ≤ 200) (hl : ∀ s ∈ l, s.length = 16) (hw : wr ≤ 1000000000)
    (ho : w.ownsRow B 261 16 (.slice (some ⟨g, 0, none⟩) l.length cap) l.length (secsV l)) (hB : B ≤ w.heap.size) :
    Calls Tryz.prog 152 #[.slice (some ⟨g, 0, none⟩) l.length cap, .int .i64 (wr : Int)] w fun e w' =>
      ∃ h : Hd, e = .returned (.pointer (some ⟨h.p, 0, none⟩)) ∧ IsDev B w' h (DV.made l wr) ∧ Below w.heap.size w w' ∧ h.bf = g ∧ w.heap.size ≤ h.p ∧ w.heap.size ≤ h.bs ∧ h.v2 = .slice none 0 0 := by
  have HO : Hid (w.ownsRow B 261 16 (.slice (some ⟨g, 0, none⟩) l.length cap) l.length (secsV l)) := ho
  obtain ⟨hbg, cur, hh, _⟩ := ownsRow_block ho
  have hg : g < w.heap.size := lt_of_some hh
  clear ho hh
  go_enter Tryz.func152, Tryz.ntmps152
  go_wp2_with fail
  refine (cloneSec_any l w h1 h2 hl HO.out).mono ?_
  rintro e w1 ⟨g', cap', rfl, ho1, hb1⟩
  have HO1 : Hid (w1.ownsRow w.heap.size 261 16 (.slice (some ⟨g', 0, none⟩) l.length cap') l.length (secsV l)) := ho1
  clear ho1
  go_wp2
  go_ret
  have hs1 := hb1.size
  obtain ⟨hbg1, cur1, hh1, _⟩ := ownsRow_block HO1.out
  have hg1 : g' < w1.heap.size := lt_of_some hh1
  refine ⟨⟨w1.heap.size, g, cap, g', cap', .slice none 0 0⟩, rfl, ⟨DV.made_ok h1 h2 hl hw, by show B ≤ w1.heap.size; omega, ?_, ?_, ?_, World.ownsRow_nil _ _ _ _, ?_, fun _ => rfl⟩, hb1.alloc hs1 _, rfl, hs1, hbg1, rfl⟩
  · exact heap_alloc_new w1 _
  · refine ownsRow_keep HO.out (fun k e => ?_)
    have : g = k := by simpa [Value.ownBlock] using e
    subst this
    rw [Below.heap_alloc w1 _ g (by omega), hb1.block g hg]
  · exact ownsRow_base (HO1.out.alloc _) hB
  · show g ≠ g'; omega
end Go.Proofs.YtonhoahnieoebabGreatDoor

namespace Go.Proofs.YtonhoahnieoebabGreatDoor
open Go.RowKit

def noughts : List UInt8 := List.replicate 16 0

theorem secsV_noughts (n : Nat) : secsV (List.replicate n noughts) = List.replicate (n * 16) (.int .u8 0) := by
  have : secV noughts = List.replicate 16 (.int .u8 0) := rfl
  unfold secsV
  rw [List.map_replicate, this, List.flatten_replicate_replicate]

theorem made_noughts (n : Nat) : (madeCells zeroSec.cells (n * 16)).toList = secsV (List.replicate n noughts) := by
  rw [secsV_noughts]
  apply List.ext_getElem?
  intro j
  have hz : zeroSec.cells = Array.replicate 16 (.int .u8 0) := rfl
  by_cases hj : j < n * 16
  · have h16 : j % 16 < 16 := Nat.mod_lt _ (by omega)
    have hsz : zeroSec.cells.size = 16 := rfl
    have h2 : zeroSec.cells[j % 16]! = .int .u8 0 := by
      rw [hz, getElem!_pos _ _ (by simpa using h16), Array.getElem_replicate]
    simp [madeCells, hj, hsz, h2]
  · simp [madeCells, hj]

theorem mem_noughts {n : Nat} : ∀ s ∈ List.replicate n noughts, s.length = 16 := by
  intro s hs
  rw [List.eq_of_mem_replicate hs]; rfl

set_option maxRecDepth 100000 in
set_option maxHeartbeats 400000 in
theorem new_yes (n : Nat) (w : World) (h1 : 1 ≤ n) (h2 : n ≤ 200) :
    Calls Tryz.prog 59 #[.int .i64 (n : Int)] w fun e w' =>
      ∃ h : Hd, e = .returned (.tuple #[.pointer (some ⟨h.p, 0, none⟩), .nilIface]) ∧ IsDev w.heap.size w' h (DV.made (List.replicate n noughts) 0) ∧ Below w.heap.size w w' := by
  have g1 : decide ((n : Int) < 1) = false := by simp; omega
  have g2 : decide (200 < (n : Int)) = false := by simp; omega
  obtain ⟨i0, hi, hz0, hz1, hz2⟩ := info_parts info_sec
  obtain ⟨w1, hmk, hown, hgr⟩ := run_make_full (P := Tryz.prog) w w.heap.size 208 261 i0 zeroSec 16 Tryz.underlying208 hi hz0 hz1 .i64 .i64 n (by rw [hz2]; omega) (by unfold maxLen; omega) (Nat.le_refl _)
  rw [made_noughts] at hown
  have HO : Hid (w1.ownsRow w.heap.size 261 16 (.slice (some ⟨w.heap.size, 0, none⟩) n n) n (secsV (List.replicate n noughts))) := hown
  have HB : Hid (Below w.heap.size w w1) := (Below.refl _ _).grown hgr (Nat.le_refl _) (fun k e => by cases e)
  clear hown hgr hi hz0 hz1 hz2
  have hmd := made_any (g := w.heap.size) (cap := n) (List.replicate n noughts) 0 w1 (by simpa using h1) (by simpa using h2) mem_noughts (by omega) (by simpa using HO.out) HB.out.size
  rw [List.length_replicate] at hmd
  have HM := hmd
  clear hmd
  go_enter Tryz.func59, Tryz.ntmps59
  go_wp2_with fail
  refine HM.mono ?_
  rintro e w2 ⟨h, rfl, hd, hb, _⟩
  clear HM
  go_wp2
  go_ret2
  exact ⟨h, rfl, hd, HB.out.trans (hb.mono HB.out.size)⟩

/- What a sector is, out of the row of all. -/
theorem take_drop_secs (l : List (List UInt8)) (i : Nat) (h : ∀ s ∈ l, s.length = 16) (hi : i < l.length) : ((secsV l).drop (i * 16)).take 16 = secV (l.getD i []) := by
  induction l generalizing i with
  | nil => simp at hi
  | cons s l ih =>
    have hs := h s (by simp)
    have hsl : (secV s).length = 16 := by rw [secV_len, hs]
    have e : secsV (s :: l) = secV s ++ secsV l := by simp [secsV]
    rw [e]
    cases i with
    | zero => simp [List.take_append_of_le_length (show 16 ≤ (secV s).length by omega), List.take_of_length_le (show (secV s).length ≤ 16 by omega)]
    | succ i =>
      have h2 := ih i (fun x hx => h x (by simp [hx])) (by simpa using hi)
      rw [show (i + 1) * 16 = (secV s).length + i * 16 by omega, List.drop_append]
      simp only [Nat.add_sub_cancel_left, List.getD_cons_succ]
      rw [List.drop_of_length_le (by omega), List.nil_append]
      exact h2

theorem sec_range {w : World} {B g cap : Nat} {l : List (List UInt8)} (ho : w.ownsRow B 261 16 (.slice (some ⟨g, 0, none⟩) l.length cap) l.length (secsV l)) (hl : ∀ s ∈ l, s.length = 16) (i : Nat) (hi : i < l.length) :
    w.rangeAt g (i * 16) (secV (l.getD i [])) := by
  intro j v hv
  rw [← take_drop_secs l i hl hi] at hv
  rw [ho.cellAt (i * 16 + j) (by
    have : j < 16 := by
      rcases Nat.lt_or_ge j 16 with h | h
      · exact h
      · rw [List.getElem?_eq_none (by simp; omega)] at hv; cases hv
    omega)]
  rcases Nat.lt_or_ge j 16 with h | h
  · rw [List.getElem?_take_of_lt h, List.getElem?_drop] at hv; exact hv
  · rw [List.getElem?_eq_none (by simp; omega)] at hv; cases hv

def bytesOf (s : List UInt8) : ByteArray := ⟨s.toArray⟩

set_option maxRecDepth 100000 in
theorem conv_sec {w : World} {g o : Nat} {s : List UInt8} (n cap : Nat) (hn : s.length = n) (h : w.rangeAt g o (secV s)) : (convert 206 9 (.slice (some ⟨g, o, none⟩) n cap)).run Tryz.prog w = .ok (.string (bytesOf s)) w := by
  have := run_convert_bytes_arg (P := Tryz.prog) w 206 5 Tryz.underlying206 Tryz.underlying5 g o n cap (s.map fun b => (b.toNat : Int)) (by simpa using hn) (fun i hi => by
    have hi' : i < s.length := by omega
    rw [h i (.int .u8 ((s[i]'hi').toNat : Int)) (by simp [secV, List.getElem?_eq_getElem hi'])]
    simp [List.getD, List.getElem?_eq_getElem hi']) 9 Tryz.underlying9
  rw [this]
  congr 2
  simp only [strOfNums, List.map_map, bytesOf]
  congr 2
  have e : ((fun n : Int => UInt8.ofNat n.toNat) ∘ fun b : UInt8 => (b.toNat : Int)) = id := by
    funext b; simp
  rw [e, List.map_id]

set_option maxRecDepth 100000 in
set_option maxHeartbeats 400000 in
theorem read_yes {B : Nat} {h : Hd} {d : DV} (i : Nat) (w : World) (hd : IsDev B w h d) (hi : i < d.fl.length) :
    Calls Tryz.prog 135 #[.pointer (some ⟨h.p, 0, none⟩), .int .i64 (i : Int)] w fun e w' => e = .returned (.tuple #[.string (bytesOf (d.seen.getD i [])), .nilIface]) ∧ w' = w := by
  have HH := has_any i w hd
  rw [show d.has (i : Int) = true by unfold DV.has; simp; omega] at HH
  obtain ⟨c0, c1, c2, c3, c4, fz⟩ := hd.cells
  have hs := hd.os
  rw [← hd.ok.same] at hs hi
  have hr := sec_range hs hd.ok.l2 i hi
  have hl16 : (d.seen.getD i []).length = 16 := by
    rw [List.getD_eq_getElem?_getD, List.getElem?_eq_getElem hi]; exact hd.ok.l2 _ (List.getElem_mem hi)
  have hcv := conv_sec 16 16 hl16 hr
  have h200 := hd.ok.n2
  rw [← hd.ok.same] at c1 c0
  have h2 : d.seen.length ≤ 200 := by rw [hd.ok.same]; exact h200
  clear hd hs hr hl16 h200
  generalize d.seen.getD i [] = s at hcv ⊢
  have HH2 : Hid (Calls Tryz.prog 231 #[.pointer (some ⟨h.p, 0, none⟩), .int .i64 (i : Int)] w fun e w' => e = .returned (.bool true) ∧ w' = w) := HH
  clear HH
  go_enter Tryz.func135, Tryz.ntmps135
  go_wp2_with fail
  refine HH2.out.mono ?_
  rintro e w' ⟨rfl, hw⟩
  have hw' := hw.symm
  subst hw'
  clear hw
  go_wp2
  go_ret2
  exact ⟨rfl, rfl⟩
end Go.Proofs.YtonhoahnieoebabGreatDoor

namespace Go.Proofs.YtonhoahnieoebabGreatDoor
open Go.RowKit
attribute [local go_sem ↓] Go.wp_at_zero Go.wp_at_succ

/- copy of a whole row of sectors over another one of the same length. -/
theorem run_copy_secs (w : World) (g1 g2 : Nat) (n c1 c2 : Nat) (cur : Array Value) (t : TypeId) (xs : List Value) (hg : w.heap[g1]? = some (.cells cur t (0, 0))) (hx : xs.length = n * 16) (hfit : n * 16 ≤ cur.size)
    (hsrc : ∀ j u, xs[j]? = some u → w.cell? ((⟨g2, 0, none⟩ : Addr).add j) = some u) (h1 : ∀ u ∈ xs, u.oneCell' = true) :
    (Builtin.copy_ #[208, 208] 3 #[.slice (some ⟨g1, 0, none⟩) n c1, .slice (some ⟨g2, 0, none⟩) n c2]).run Tryz.prog w = .ok (.int .i64 (n : Int)) (w.setRow g1 (xs ++ cur.toList.drop (n * 16)).toArray) := by
  have hst := run_storeCells_at (P := Tryz.prog) g1 0 t xs 0 cur w hg (by simp [hx]; omega) h1
  have hsz : ∀ w : World, (sizeOf 261).run Tryz.prog w = .ok 16 w := fun _ => by kernel_rfl
  have hfc := run_firstCells_some (P := Tryz.prog) w 16 n ⟨g2, 0, none⟩ n c2 xs hx hsrc
  simp [Builtin.copy_, run_underlying Tryz.underlying208, Builtin.lenOf, hsz, hfc, hst, goInt, hx]

theorem Kept.setRow {S : Nat → Prop} {a w : World} (h : Kept S a w) {g : Nat} (hp : S g ∨ a.heap.size ≤ g) (cs : Array Value) : Kept S a (w.setRow g cs) :=
  ⟨h.os, h.tape, h.output, by simpa [World.setRow] using h.size, fun k hk hs => (setRow_other w g k cs (fun e => by rcases hp with hp | hp; exact hs (e ▸ hp); omega)).trans (h.block k hk hs)⟩

/- The row of what is flushed is set. -/
theorem IsDev.setF {B : Nat} {w : World} {h : Hd} {d : DV} (hd : IsDev B w h d) (l : List (List UInt8)) (arr : Array Value) (hok : ({ d with fl := l } : DV).ok) (hlen : l.length = d.fl.length) (harr : arr.toList.take (l.length * 16) = secsV l) (hsz : arr.size = h.cf * 16) :
    IsDev B (w.setRow h.bf arr) h { d with fl := l } := by
  obtain ⟨a1, a2, a3, a4, a5⟩ := hd.apart
  obtain ⟨hbB, cf, hf2, hcf1, hcf2, hcf3, hcf4⟩ := ownsRow_block hd.of
  refine ⟨hok, hd.pB, ?_, ?_, ?_, ownsRow_keep hd.op (fun k e => setRow_other _ _ _ _ (fun e2 => a4 (by rw [e, e2]))), hd.ne, hd.pn⟩
  · show (w.setRow h.bf arr).heap[h.p]? = _
    rw [setRow_other _ _ _ _ (Ne.symm a1)]
    show _ = some (Obj.cells #[.slice (some ⟨h.bf, 0, none⟩) l.length h.cf, .slice (some ⟨h.bs, 0, none⟩) l.length h.cs, h.v2, .int .i64 (d.wr : Int), .int .i64 d.fail] 264 (0, 0))
    rw [hlen]; exact hd.blk
  · show (w.setRow h.bf arr).ownsRow B 261 16 (.slice (some ⟨h.bf, 0, none⟩) l.length h.cf) l.length (secsV l)
    exact ⟨secsV_len l hok.l1, .inr ⟨h.bf, h.cf, arr, rfl, hbB, setRow_heap w h.bf cf arr _ _ hf2, by omega, hcf2, hsz, harr⟩⟩
  · show (w.setRow h.bf arr).ownsRow B 261 16 (.slice (some ⟨h.bs, 0, none⟩) l.length h.cs) l.length (secsV d.seen)
    rw [hlen]
    exact ownsRow_keep hd.os (fun k e => setRow_other _ _ _ _ (by
      have : h.bs = k := by simpa [Value.ownBlock] using e
      rw [← this]; exact Ne.symm hd.ne))

theorem IsDev.drew {B : Nat} {w : World} {h : Hd} {d : DV} (hd : IsDev B w h d) : IsDev B w.drew h d := hd.keep fun _ _ => rfl

def DV.flushed (d : DV) : DV := { d with fl := d.seen, pend := [] }

theorem DV.ok.flushed {d : DV} (h : d.ok) : d.flushed.ok :=
  ⟨by show 1 ≤ d.seen.length; rw [h.same]; exact h.n1, by show d.seen.length ≤ 200; rw [h.same]; exact h.n2, rfl, h.l2, h.l2, (fun x hx => by cases hx), Nat.zero_le _, h.few2, h.f1, h.f2⟩

theorem DV.ok.over {d : DV} (h : d.ok) : ({ d with fl := d.seen } : DV).ok :=
  ⟨by show 1 ≤ d.seen.length; rw [h.same]; exact h.n1, by show d.seen.length ≤ 200; rw [h.same]; exact h.n2, rfl, h.l2, h.l2, (fun x hx => by show x.1 < d.seen.length ∧ _; rw [h.same]; exact h.l3 x hx), h.few, h.few2, h.f1, h.f2⟩

set_option maxRecDepth 100000 in
set_option maxHeartbeats 400000 in
theorem flush_any {B : Nat} {h : Hd} {d : DV} (w : World) (hd : IsDev B w h d) :
    Calls Tryz.prog 215 #[.pointer (some ⟨h.p, 0, none⟩)] w fun e w' => e = .returned (.tuple #[]) ∧ IsDev B w' { h with v2 := .slice none 0 0 } d.flushed ∧ Kept (fun k => k = h.p ∨ k = h.bf) w w' := by
  obtain ⟨c0, c1, c2, c3, c4, fz⟩ := hd.cells
  have fz2 := fz 2
  obtain ⟨hbB, cf, hf2, hcf1, hcf2, hcf3, hcf4⟩ := ownsRow_block hd.of
  have hsn := ownsRow_news hd.os
  have hxl : (secsV d.seen).length = d.fl.length * 16 := by rw [secsV_len _ hd.ok.l2, hd.ok.same]
  have hcp : ∀ W : World, W.heap = w.heap → (Builtin.copy_ #[208, 208] 3 #[.slice (some ⟨h.bf, 0, none⟩) d.fl.length h.cf, .slice (some ⟨h.bs, 0, none⟩) d.fl.length h.cs]).run Tryz.prog W = .ok (.int .i64 (d.fl.length : Int)) (W.setRow h.bf (secsV d.seen ++ cf.toList.drop (d.fl.length * 16)).toArray) := fun W hW =>
    run_copy_secs W h.bf h.bs d.fl.length h.cf h.cs cf 261 (secsV d.seen) (by rw [hW]; exact hf2) hxl (by rw [hcf3]; omega) (fun j u hj => by
      have := hsn j u hj
      rw [World.cell?_of_block (w := w) (by rw [hW])]; exact this) (secsV_one _)
  have hcpd := hcp w.drew rfl
  have HD2 : Hid (IsDev B (w.drew.setRow h.bf (secsV d.seen ++ cf.toList.drop (d.fl.length * 16)).toArray) h { d with fl := d.seen }) :=
    hd.drew.setF d.seen _ hd.ok.over hd.ok.same (by
      show (secsV d.seen ++ cf.toList.drop (d.fl.length * 16)).take (d.seen.length * 16) = secsV d.seen
      rw [hd.ok.same, ← hxl]; simp) (by simp [hxl, hcf3]; omega)
  have HK : Hid (Kept (fun k => k = h.p ∨ k = h.bf) w (w.drew.setRow h.bf (secsV d.seen ++ cf.toList.drop (d.fl.length * 16)).toArray)) := (Kept.refl _ w).drew.setRow (.inl (.inr rfl)) _
  obtain ⟨_, _, c2', _, _, fz'⟩ := HD2.out.cells
  have fz2' := fz' 2
  have HOK : Hid (d.flushed.ok) := hd.ok.flushed
  clear hd fz hcp hsn hcf4 hxl hf2 fz'
  generalize (secsV d.seen ++ cf.toList.drop (d.fl.length * 16)).toArray = arr at hcpd HD2 HK c2' fz2'
  go_enter Tryz.func215, Tryz.ntmps215
  go_wp2
  go_region
  generalize w.drew.setRow h.bf arr = W at HD2 HK c2' fz2' ⊢
  clear c0 c1 c2 c3 c4 fz2 hcpd
  go_wp2
  go_end0
  exact ⟨rfl, HD2.out.setP (d' := d.flushed) (.slice none 0 0) 2 (.slice none 0 0) HOK.out rfl rfl rfl (World.ownsRow_nil _ _ _ _) (fun _ => rfl), HK.out.setCell (.inl (.inl rfl)) _⟩

theorem heap_setCells_other (b k : Nat) (hk : k ≠ b) : ∀ (vs : List Value) (o : Nat) (w : World), (w.setCells b o vs).heap[k]? = w.heap[k]?
  | [], _, _ => rfl
  | v :: r, o, w => by
    show ((w.setCell ⟨b, o, none⟩ v).setCells b (o + 1) r).heap[k]? = _
    rw [heap_setCells_other b k hk r]
    exact heap_setCell_other w ⟨b, o, none⟩ k v hk

theorem size_setCells (b : Nat) : ∀ (vs : List Value) (o : Nat) (w : World), (w.setCells b o vs).heap.size = w.heap.size
  | [], _, _ => rfl
  | v :: r, o, w => by
    show ((w.setCell ⟨b, o, none⟩ v).setCells b (o + 1) r).heap.size = _
    rw [size_setCells b r]
    simp [World.setCell]

theorem fields_setCells (b : Nat) : ∀ (vs : List Value) (o : Nat) (w : World), (w.setCells b o vs).os = w.os ∧ (w.setCells b o vs).tape = w.tape ∧ (w.setCells b o vs).output = w.output
  | [], _, _ => ⟨rfl, rfl, rfl⟩
  | v :: r, o, w => by
    show ((w.setCell ⟨b, o, none⟩ v).setCells b (o + 1) r).os = _ ∧ _ ∧ _
    exact fields_setCells b r (o + 1) (w.setCell ⟨b, o, none⟩ v)

theorem Kept.setCells {S : Nat → Prop} {a w : World} (h : Kept S a w) {b : Nat} (hp : S b ∨ a.heap.size ≤ b) (o : Nat) (vs : List Value) : Kept S a (w.setCells b o vs) := by
  obtain ⟨f1, f2, f3⟩ := fields_setCells b vs o w
  exact ⟨f1.trans h.os, f2.trans h.tape, f3.trans h.output, by rw [size_setCells]; exact h.size, fun k hk hs => (heap_setCells_other b k (fun e => by rcases hp with hp | hp; exact hs (e ▸ hp); omega) vs o w).trans (h.block k hk hs)⟩

/- Sixteen new cells. -/
theorem there_new (w : World) (c : Array Value) (t : TypeId) (n : Nat) (h : c.size = n) : (w.alloc (.cells c t)).there w.heap.size 0 n := by
  intro j hj
  rw [Nat.zero_add, cell_of_row _ _ _ _ _ _ (heap_alloc_new w _), frozen_of_row _ _ _ _ _ (heap_alloc_new w _)]
  exact ⟨by simp; omega, rfl⟩

theorem info_byte : (Tryz.prog.info? 5).map (fun i => (i.zero, i.size, i.bytes)) = some (some (.int .u8 0), 1, 1) := by kernel_rfl
theorem size_sec : (Tryz.prog.info? 261).map (·.size) = some 16 := by kernel_rfl

end Go.Proofs.YtonhoahnieoebabGreatDoor

namespace Go.Proofs.YtonhoahnieoebabGreatDoor
open Go.RowKit
attribute [local go_sem ↓] Go.wp_at_zero Go.wp_at_succ

theorem setCells_setRow (w : World) (g o : Nat) (vs : List Value) (cur : Array Value) (t : TypeId) (hg : w.heap[g]? = some (.cells cur t (0, 0))) (hfit : o + vs.length ≤ cur.size) (h1 : ∀ v ∈ vs, v.oneCell' = true) :
    w.setCells g o vs = w.setRow g (cur.toList.take o ++ vs ++ cur.toList.drop (o + vs.length)).toArray := by
  have a := run_storeCells_at (P := Tryz.prog) g o t vs 0 cur w hg (by omega) h1
  have b := run_storeCells_cells (P := Tryz.prog) g o vs 0 w (fun j hj => by rw [Nat.add_zero, cell_of_row _ _ _ _ _ _ hg]; simp; omega) (fun j _ => frozen_of_row _ _ _ _ _ hg) h1
  rw [a] at b
  simp only [Nat.add_zero] at b
  injection b with _ b
  exact b.symm

theorem secsV_set (l : List (List UInt8)) (i : Nat) (s : List UInt8) (hl : ∀ x ∈ l, x.length = 16) (hi : i < l.length) :
    secsV (l.set i s) = (secsV l).take (i * 16) ++ secV s ++ (secsV l).drop (i * 16 + 16) := by
  induction l generalizing i with
  | nil => simp at hi
  | cons x l ih =>
    have hx := hl x (by simp)
    have hxl : (secV x).length = 16 := by rw [secV_len, hx]
    have e : ∀ y : List UInt8, ∀ r, secsV (y :: r) = secV y ++ secsV r := fun y r => by simp [secsV]
    cases i with
    | zero =>
      rw [List.set_cons_zero, e, e]
      simp only [Nat.zero_mul, Nat.zero_add, List.take_zero, List.nil_append]
      rw [show (16 : Nat) = (secV x).length by omega, List.drop_left]
    | succ i =>
      have h2 := ih i (fun y hy => hl y (by simp [hy])) (by simpa using hi)
      rw [List.set_cons_succ, e, e, h2]
      rw [show (i + 1) * 16 = (secV x).length + i * 16 by omega, show (secV x).length + i * 16 + 16 = (secV x).length + (i * 16 + 16) by omega]
      rw [List.take_append, List.drop_append]
      rw [List.take_of_length_le (show (secV x).length ≤ (secV x).length + i * 16 by omega), List.drop_of_length_le (show (secV x).length ≤ (secV x).length + (i * 16 + 16) by omega)]
      simp [List.append_assoc]

/- One sector of a row that is owned is set. -/
theorem ownsRow_setSec {w : World} {B g n cap : Nat} {l : List (List UInt8)} (ho : w.ownsRow B 261 16 (.slice (some ⟨g, 0, none⟩) n cap) n (secsV l)) (hn : l.length = n) (hl : ∀ x ∈ l, x.length = 16) (i : Nat) (s : List UInt8) (hs : s.length = 16) (hi : i < n) :
    (w.setCells g (i * 16) (secV s)).ownsRow B 261 16 (.slice (some ⟨g, 0, none⟩) n cap) n (secsV (l.set i s)) := by
  subst hn
  obtain ⟨hB, cur, hh, h1, h2, h3, h4⟩ := ownsRow_block ho
  have hsl : (secV s).length = 16 := by rw [secV_len, hs]
  have hsz : cur.toList.length = cap * 16 := by simpa using h3
  rw [setCells_setRow w g (i * 16) (secV s) cur _ hh (by omega) (secV_one _)]
  have hset : ∀ x ∈ l.set i s, x.length = 16 := fun x hx => by
    rcases List.mem_or_eq_of_mem_set hx with h | h
    · exact hl x h
    · rw [h]; exact hs
  refine ⟨by rw [secsV_len _ hset, List.length_set], .inr ⟨g, cap, _, rfl, hB, setRow_heap w g cur _ _ _ hh, h1, h2, ?_, ?_⟩⟩
  · simp [hsl]; omega
  · rw [secsV_set l i s hl hi, hsl, ← h4]
    show (cur.toList.take (i * 16) ++ secV s ++ cur.toList.drop (i * 16 + 16)).take (l.length * 16) = _
    rw [List.take_append, List.take_append, List.take_take, List.take_take, List.drop_take]
    simp only [List.length_append, List.length_take, hsl, hsz]
    rw [show min (i * 16) (cap * 16) = i * 16 by omega, show min (l.length * 16) (i * 16) = i * 16 by omega, List.take_of_length_le (show (secV s).length ≤ l.length * 16 - i * 16 by omega), show l.length * 16 - (i * 16 + 16) = l.length * 16 - (i * 16 + 16) from rfl]
    rw [show min (i * 16) (l.length * 16) = i * 16 by omega]

/- What is left of the pending writes, the first k of them looked at. -/
def keepTo (pend : List (Nat × List UInt8)) (ks : List Bool) (l : List (List UInt8)) : Nat → List (List UInt8)
  | 0 => l
  | k + 1 => if ks.getD k false then (keepTo pend ks l k).set (pend.getD k (0, [])).1 (pend.getD k (0, [])).2 else keepTo pend ks l k

/- A list of bools that lies in memory. -/
def Bools (w : World) (ka : Option Addr) (kl : Nat) (ks : List Bool) : Prop :=
  ks.length = kl ∧ ∀ j, j < kl → ∃ b off, ka = some ⟨b, off, none⟩ ∧ w.cell? ⟨b, off + j, none⟩ = some (.bool (ks.getD j false))

theorem Bools.below {w w' : World} {la : Option Addr} {len : Nat} {ls : List Bool} (h : Bools w la len ls) (hb : Below w.heap.size w w') : Bools w' la len ls := by
  refine ⟨h.1, fun k hk => ?_⟩
  obtain ⟨b, off, e, hc⟩ := h.2 k hk
  exact ⟨b, off, e, by rw [hb.cell (World.block_lt_of_cell? w _ hc)]; exact hc⟩

theorem size_wr : (Tryz.prog.info? 266).map (·.size) = some 17 := by kernel_rfl

theorem wrV_range {w : World} {b : Nat} {x : Nat × List UInt8} (h : w.rangeAt b 0 (wrV x)) : w.cell? ⟨b, 0, none⟩ = some (.int .i64 (x.1 : Int)) ∧ w.rangeAt b 1 (secV x.2) := by
  refine ⟨by simpa using h 0 (.int .i64 (x.1 : Int)) rfl, fun j v hv => ?_⟩
  have := h (j + 1) v (by simpa [wrV] using hv)
  rw [show 1 + j = 0 + (j + 1) by omega]; exact this

end Go.Proofs.YtonhoahnieoebabGreatDoor
