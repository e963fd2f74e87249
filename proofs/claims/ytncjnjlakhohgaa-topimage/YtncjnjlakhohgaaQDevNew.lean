/-
New devices, the bytes of a sector that is read: what New and Read give.
-/
import Derived.Test.YtncjnjlakhohgaaQDevClone
import Derived.Laws.BytesArg
namespace Go.Proofs.Ytncjnjlakhohgaa
open Go.RowKit

def noughts : List UInt8 := List.replicate 16 0

theorem secsV_noughts (n : Nat) : secsV (List.replicate n noughts) = List.replicate (n * 16) (.int .u8 0) := by
  have : secV noughts = List.replicate 16 (.int .u8 0) := rfl
  unfold secsV
  rw [List.map_replicate, this, List.flatten_replicate_replicate]

theorem made_noughts (n : Nat) : (madeCells zeroSec.cells (n * 16)).toList = secsV (List.replicate n noughts) := by
  rw [secsV_noughts]
  apply List.ext_getElem?
  intro j
  have hz : zeroSec.cells = Array.replicate 16 (.int .u8 0) := rfl
  by_cases hj : j < n * 16
  · have h16 : j % 16 < 16 := Nat.mod_lt _ (by omega)
    have hsz : zeroSec.cells.size = 16 := rfl
    have h2 : zeroSec.cells[j % 16]! = .int .u8 0 := by
      rw [hz, getElem!_pos _ _ (by simpa using h16), Array.getElem_replicate]
    simp [madeCells, hj, hsz, h2]
  · simp [madeCells, hj]

theorem mem_noughts {n : Nat} : ∀ s ∈ List.replicate n noughts, s.length = 16 := by
  intro s hs
  rw [List.eq_of_mem_replicate hs]; rfl

set_option maxRecDepth 100000 in
set_option maxHeartbeats 400000 in
theorem new_no (n : Int) (w : World) (hn : n < 1 ∨ 200 < n) :
    Calls Try.prog 23 #[.int .i64 n] w fun e w' => e = .returned (.tuple #[.pointer none, .iface 112 (.int .i64 1)]) ∧ w' = w := by
  by_cases h1 : n < 1
  · have g1 : decide (n < 1) = true := by simpa using h1
    go_enter Try.func23, Try.ntmps23
    go_wp2
    go_ret2
    exact ⟨rfl, rfl⟩
  · have g1 : decide (n < 1) = false := by simpa using h1
    have g2 : decide (200 < n) = true := by simp; omega
    go_enter Try.func23, Try.ntmps23
    go_wp2
    go_ret2
    exact ⟨rfl, rfl⟩

set_option maxRecDepth 100000 in
set_option maxHeartbeats 400000 in
theorem new_yes (n : Nat) (w : World) (h1 : 1 ≤ n) (h2 : n ≤ 200) :
    Calls Try.prog 23 #[.int .i64 (n : Int)] w fun e w' =>
      ∃ h : Hd, e = .returned (.tuple #[.pointer (some ⟨h.p, 0, none⟩), .nilIface]) ∧ IsDev w.heap.size w' h (DV.made (List.replicate n noughts) 0) ∧ Below w.heap.size w w' := by
  have g1 : decide ((n : Int) < 1) = false := by simp; omega
  have g2 : decide (200 < (n : Int)) = false := by simp; omega
  obtain ⟨i0, hi, hz0, hz1, hz2⟩ := info_parts info_sec
  obtain ⟨w1, hmk, hown, hgr⟩ := run_make_full (P := Try.prog) w w.heap.size 113 115 i0 zeroSec 16 Try.underlying113 hi hz0 hz1 .i64 .i64 n (by rw [hz2]; omega) (by unfold maxLen; omega) (Nat.le_refl _)
  rw [made_noughts] at hown
  have HO : Hid (w1.ownsRow w.heap.size 115 16 (.slice (some ⟨w.heap.size, 0, none⟩) n n) n (secsV (List.replicate n noughts))) := hown
  have HB : Hid (Below w.heap.size w w1) := (Below.refl _ _).grown hgr (Nat.le_refl _) (fun k e => by cases e)
  clear hown hgr hi hz0 hz1 hz2
  have hmd := made_any (g := w.heap.size) (cap := n) (List.replicate n noughts) 0 w1 (by simpa using h1) (by simpa using h2) mem_noughts (by omega) (by simpa using HO.out) HB.out.size
  rw [List.length_replicate] at hmd
  have HM := hmd
  clear hmd
  go_enter Try.func23, Try.ntmps23
  go_wp2_with fail
  refine HM.mono ?_
  rintro e w2 ⟨h, rfl, hd, hb, _⟩
  clear HM
  go_wp2
  go_ret2
  exact ⟨h, rfl, hd, HB.out.trans (hb.mono HB.out.size)⟩

/- What a sector is, out of the row of all. -/
theorem take_drop_secs (l : List (List UInt8)) (i : Nat) (h : ∀ s ∈ l, s.length = 16) (hi : i < l.length) : ((secsV l).drop (i * 16)).take 16 = secV (l.getD i []) := by
  induction l generalizing i with
  | nil => simp at hi
  | cons s l ih =>
    have hs := h s (by simp)
    have hsl : (secV s).length = 16 := by rw [secV_len, hs]
    have e : secsV (s :: l) = secV s ++ secsV l := by simp [secsV]
    rw [e]
    cases i with
    | zero => simp [List.take_append_of_le_length (show 16 ≤ (secV s).length by omega), List.take_of_length_le (show (secV s).length ≤ 16 by omega)]
    | succ i =>
      have h2 := ih i (fun x hx => h x (by simp [hx])) (by simpa using hi)
      rw [show (i + 1) * 16 = (secV s).length + i * 16 by omega, List.drop_append]
      simp only [Nat.add_sub_cancel_left, List.getD_cons_succ]
      rw [List.drop_of_length_le (by omega), List.nil_append]
      exact h2

theorem sec_range {w : World} {B g cap : Nat} {l : List (List UInt8)} (ho : w.ownsRow B 115 16 (.slice (some ⟨g, 0, none⟩) l.length cap) l.length (secsV l)) (hl : ∀ s ∈ l, s.length = 16) (i : Nat) (hi : i < l.length) :
    w.rangeAt g (i * 16) (secV (l.getD i [])) := by
  intro j v hv
  rw [← take_drop_secs l i hl hi] at hv
  rw [ho.cellAt (i * 16 + j) (by
    have : j < 16 := by
      rcases Nat.lt_or_ge j 16 with h | h
      · exact h
      · rw [List.getElem?_eq_none (by simp; omega)] at hv; cases hv
    omega)]
  rcases Nat.lt_or_ge j 16 with h | h
  · rw [List.getElem?_take_of_lt h, List.getElem?_drop] at hv; exact hv
  · rw [List.getElem?_eq_none (by simp; omega)] at hv; cases hv

def bytesOf (s : List UInt8) : ByteArray := ⟨s.toArray⟩

set_option maxRecDepth 100000 in
theorem conv_sec {w : World} {g o : Nat} {s : List UInt8} (n cap : Nat) (hn : s.length = n) (h : w.rangeAt g o (secV s)) : (convert 62 9 (.slice (some ⟨g, o, none⟩) n cap)).run Try.prog w = .ok (.string (bytesOf s)) w := by
  have := run_convert_bytes_arg (P := Try.prog) w 62 5 Try.underlying62 Try.underlying5 g o n cap (s.map fun b => (b.toNat : Int)) (by simpa using hn) (fun i hi => by
    have hi' : i < s.length := by omega
    rw [h i (.int .u8 ((s[i]'hi').toNat : Int)) (by simp [secV, List.getElem?_eq_getElem hi'])]
    simp [List.getD, List.getElem?_eq_getElem hi']) 9 Try.underlying9
  rw [this]
  congr 2
  simp only [strOfNums, List.map_map, bytesOf]
  congr 2
  have e : ((fun n : Int => UInt8.ofNat n.toNat) ∘ fun b : UInt8 => (b.toNat : Int)) = id := by
    funext b; simp
  rw [e, List.map_id]

set_option maxRecDepth 100000 in
set_option maxHeartbeats 400000 in
theorem read_no {B : Nat} {h : Hd} {d : DV} (at_ : Int) (w : World) (hd : IsDev B w h d) (hn : d.has at_ = false) :
    Calls Try.prog 27 #[.pointer (some ⟨h.p, 0, none⟩), .int .i64 at_] w fun e w' => e = .returned (.tuple #[.string ⟨#[]⟩, .iface 112 (.int .i64 1)]) ∧ w' = w := by
  have HH := has_any at_ w hd
  rw [hn] at HH
  clear hd hn
  go_enter Try.func27, Try.ntmps27
  go_wp2_with fail
  refine HH.mono ?_
  rintro e w' ⟨rfl, rfl⟩
  go_wp2
  go_ret2
  exact ⟨rfl, rfl⟩

set_option maxRecDepth 100000 in
set_option maxHeartbeats 400000 in
theorem read_yes {B : Nat} {h : Hd} {d : DV} (i : Nat) (w : World) (hd : IsDev B w h d) (hi : i < d.fl.length) :
    Calls Try.prog 27 #[.pointer (some ⟨h.p, 0, none⟩), .int .i64 (i : Int)] w fun e w' => e = .returned (.tuple #[.string (bytesOf (d.seen.getD i [])), .nilIface]) ∧ w' = w := by
  have HH := has_any i w hd
  rw [show d.has (i : Int) = true by unfold DV.has; simp; omega] at HH
  obtain ⟨c0, c1, c2, c3, c4, fz⟩ := hd.cells
  have hs := hd.os
  rw [← hd.ok.same] at hs hi
  have hr := sec_range hs hd.ok.l2 i hi
  have hl16 : (d.seen.getD i []).length = 16 := by
    rw [List.getD_eq_getElem?_getD, List.getElem?_eq_getElem hi]; exact hd.ok.l2 _ (List.getElem_mem hi)
  have hcv := conv_sec 16 16 hl16 hr
  have h200 := hd.ok.n2
  rw [← hd.ok.same] at c1 c0
  have h2 : d.seen.length ≤ 200 := by rw [hd.ok.same]; exact h200
  clear hd hs hr hl16 h200
  generalize d.seen.getD i [] = s at hcv ⊢
  have HH2 : Hid (Calls Try.prog 68 #[.pointer (some ⟨h.p, 0, none⟩), .int .i64 (i : Int)] w fun e w' => e = .returned (.bool true) ∧ w' = w) := HH
  clear HH
  go_enter Try.func27, Try.ntmps27
  go_wp2_with fail
  refine HH2.out.mono ?_
  rintro e w' ⟨rfl, hw⟩
  have hw' := hw.symm
  subst hw'
  clear hw
  go_wp2
  go_ret2
  exact ⟨rfl, rfl⟩
end Go.Proofs.Ytncjnjlakhohgaa
