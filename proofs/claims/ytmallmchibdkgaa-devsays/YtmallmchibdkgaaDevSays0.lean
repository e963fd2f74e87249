/-
DevSays, where it does not come to its loop.
-/
import Derived.Test.YtmallmchibdkgaaStays
import Derived.Deep.DeepCutAuto
import Derived.Deep.CutBlock
import Derived.Deep.RegionHeld3
namespace Go.Proofs.Ytmallmchibdkgaa
open Go.RowKit
attribute [local go_sem ↓] Go.wp_at_zero Go.wp_at_succ

/- What the first part of DevSays leaves: a world above, in which nothing old has turned. -/
theorem flat_chunks (s : ByteArray) (n : Nat) (hs : s.size = n * 16) : (chunkTo s n n).flatten = s.data.toList := by
  have hl : s.data.toList.length = n * 16 := by simpa using hs
  have key : ∀ k, k ≤ n → ((List.range k).map fun i => chunk s i).flatten = s.data.toList.take (k * 16) := by
    intro k hk
    induction k with
    | zero => simp
    | succ k ih =>
      rw [List.range_succ, List.map_append, List.flatten_append, ih (by omega)]
      simp only [List.map_cons, List.map_nil, List.flatten_cons, List.flatten_nil, List.append_nil]
      unfold chunk
      rw [show (k + 1) * 16 = k * 16 + 16 by omega, List.take_add]
  have e : chunkTo s n n = (List.range n).map fun i => chunk s i := by
    unfold chunkTo
    apply List.map_congr_left
    intro i hi
    rw [if_pos (List.mem_range.1 hi)]
  rw [e, key n (Nat.le_refl _), List.take_of_length_le (by omega)]

set_option maxRecDepth 100000 in
set_option maxHeartbeats 1000000 in
theorem early (sectors : Int) (b : ByteArray) (la : Option Addr) (len cap : Nat) (xs : List ActV) (w : World) (hT : Acts w la len xs) (hlen : len ≤ maxLen) (hb : b.size ≤ maxLen) (hf : lightB xs 60 = false ∨ 4000 < b.size) :
    Calls Try.prog 4 #[.int .i64 sectors, .string b, .slice la len cap] w fun e w' => e = .returned (.bool true) ∧ Below w.heap.size w w' := by
  unfold maxLen at hb
  have HT0 : Hid (Acts w la len xs) := hT
  clear hT
  by_cases h4 : lightB xs 60 = false
  · go_enter Try.func4, Try.ntmps4
    go_wp2_with fail
    refine (stays_any w).mono ?_
    rintro e w1 ⟨rfl, hb1⟩
    go_wp2_with fail
    refine (light_any la len cap 60 xs w1 (HT0.out.below hb1) hlen (by omega)).mono ?_
    rintro e w' ⟨he, hw⟩
    have hw' := hw.symm
    subst hw'
    clear hw
    rw [h4] at he
    subst he
    go_wp2
    go_ret
    exact ⟨rfl, hb1⟩
  · have h5 : lightB xs 60 = true := by simpa using h4
    have h6 : 4000 < b.size := by
      rcases hf with q | q
      · exact absurd q h4
      · exact q
    have g6 : decide (4000 < (b.size : Int)) = true := by simp; omega
    go_enter Try.func4, Try.ntmps4
    go_wp2_with fail
    refine (stays_any w).mono ?_
    rintro e w1 ⟨rfl, hb1⟩
    go_wp2_with fail
    refine (light_any la len cap 60 xs w1 (HT0.out.below hb1) hlen (by omega)).mono ?_
    rintro e w' ⟨he, hw⟩
    have hw' := hw.symm
    subst hw'
    clear hw
    rw [h5] at he
    subst he
    go_wp2
    go_ret
    exact ⟨rfl, hb1⟩


/- A lower base. -/
theorem IsDev.base {B B' : Nat} {w : World} {h : Hd} {d : DV} (hd : IsDev B' w h d) (hB : B ≤ B') : IsDev B w h d :=
  ⟨hd.ok, Nat.le_trans hB hd.pB, hd.blk, ownsRow_base hd.of hB, ownsRow_base hd.os hB, ownsRow_base hd.op hB, hd.ne, hd.pn⟩
theorem IsRef.base {B B' : Nat} {w : World} {q : Rh} {d : DV} (hd : IsRef B' w q d) (hB : B ≤ B') : IsRef B w q d :=
  ⟨Nat.le_trans hB hd.pB, hd.blk, ownsRow_base hd.of hB, ownsRow_base hd.o1 hB, ownsRow_base hd.o2 hB, hd.ne⟩
theorem IsRef.kept {B : Nat} {w w' : World} {q : Rh} {d : DV} {S : Nat → Prop} (hd : IsRef B w q d) (hk : Kept S w w') (hs : ∀ k, q.fp k → ¬ S k) : IsRef B w' q d :=
  hd.keep fun k hf => hk.block k (hd.lt k hf).2 (hs k hf)

/- What is seen is what was flushed, and the pending writes over it. -/
theorem made_sn (l : List (List UInt8)) (wr : Nat) : (DV.made l wr).sn := rfl
theorem failing_sn {d : DV} (h : d.sn) (n : Int) : (d.failing n).sn := h
theorem ticked_sn {d : DV} (h : d.sn) : d.ticked.sn := by
  unfold DV.ticked; split
  · exact h
  · exact failing_sn h _
theorem flushed_sn (d : DV) : d.flushed.sn := rfl
theorem setTo_more (p r : List (Nat × List UInt8)) (l : List (List UInt8)) (k : Nat) (hk : k ≤ p.length) : setTo (p ++ r) l k = setTo p l k := by
  induction k with
  | zero => rfl
  | succ k ih =>
    show (setTo (p ++ r) l k).set _ _ = (setTo p l k).set _ _
    rw [ih (by omega)]
    have e : (p ++ r).getD k (0, []) = p.getD k (0, []) := by
      rw [List.getD_eq_getElem?_getD, List.getD_eq_getElem?_getD, List.getElem?_append_left (by omega)]
    rw [e]
theorem wrote_sn {d : DV} (h : d.sn) (i : Nat) (s : List UInt8) : (d.wrote i s).sn := by
  unfold DV.sn DV.wrote
  show d.seen.set i s = setTo (d.pend ++ [(i, s)]) d.fl (d.pend ++ [(i, s)]).length
  rw [List.length_append]
  show _ = (setTo (d.pend ++ [(i, s)]) d.fl d.pend.length).set _ _
  rw [setTo_more _ _ _ _ (Nat.le_refl _), ← h]
  have e : (d.pend ++ [(i, s)]).getD d.pend.length (0, []) = (i, s) := by
    rw [List.getD_eq_getElem?_getD, List.getElem?_append_right (Nat.le_refl _)]; simp
  rw [e]

/- dev.Of, both ways. -/
theorem of_both (b : ByteArray) (w : World) (hb : b.size ≤ 4000) :
    Calls Try.prog 18 #[.string b] w fun e w' => ∃ vx ve, e = .returned (.tuple #[vx, ve]) ∧ Below w.heap.size w w' ∧
      (((b.size % 16 ≠ 0 ∨ b.size < 16 ∨ 3200 < b.size) ∧ vx = .pointer none ∧ ve = .iface 102 (.int .i64 1)) ∨
       (∃ (n : Nat) (h : Hd), b.size = n * 16 ∧ 1 ≤ n ∧ n ≤ 200 ∧ vx = .pointer (some ⟨h.p, 0, none⟩) ∧ ve = .nilIface ∧ IsDev w.heap.size w' h (DV.made (chunkTo b n n) 0))) := by
  by_cases hbn : b.size % 16 ≠ 0 ∨ b.size < 16 ∨ 3200 < b.size
  · refine (of_no b w (by unfold maxLen; omega) hbn).mono ?_
    rintro e w' ⟨rfl, rfl⟩
    exact ⟨_, _, rfl, Below.refl _ _, .inl ⟨hbn, rfl, rfl⟩⟩
  · refine (of_yes b (b.size / 16) w (by omega) (by omega) (by omega)).mono ?_
    rintro e w' ⟨h, rfl, hd, hB⟩
    exact ⟨_, _, rfl, hB, .inr ⟨b.size / 16, h, by omega, by omega, by omega, rfl, rfl, hd⟩⟩
end Go.Proofs.Ytmallmchibdkgaa
