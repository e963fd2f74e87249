/-
Join of two sets: all numbers of the other one are put in.
The document's own set (package stackyardref): how it lies in memory, and what its calls give.
A bucket of tokens (package bucket), and the document's own (package stackyardref): how each lies in memory, and what each call on it gives.
The document's own bucket (package stackyardref): what its calls give.
-/
import Derived.Test.YtjegaljdindfaabGreatDoorQBitsNext
import Derived.Test.YtjegaljdindfaabGreatDoorQActs4
import Derived.Deep.RegionHeld3
import Derived.Deep.DrawnRows
namespace Go.Proofs.YtjegaljdindfaabGreatDoor.S4
open Go.RowKit Go.Shelf
attribute [local go_sem] Oper.semAt_some

def joinL (n x : Nat) (ys : List Nat) : Nat := ys.foldl (fun (z y : Nat) => putV n z (y : Int) true) x

theorem joinL_snoc (n x : Nat) (ys : List Nat) (y : Nat) : joinL n x (ys ++ [y]) = putV n (joinL n x ys) (y : Int) true := by
  unfold joinL; rw [List.foldl_append]; rfl

theorem joinL_ok {n x : Nat} (h : SetOk n x) (ys : List Nat) : SetOk n (joinL n x ys) := by
  unfold joinL
  induction ys generalizing x with
  | nil => exact h
  | cons y ys ih => exact ih (putV_ok h _ _)

theorem joinL_bit {n x : Nat} (ys : List Nat) (j : Nat) : (joinL n x ys).testBit j = (x.testBit j || (decide (j < n) && decide (j ∈ ys))) := by
  unfold joinL
  induction ys generalizing x with
  | nil => simp
  | cons y ys ih =>
    rw [List.foldl_cons, ih, putV_bit]
    by_cases h : mayB n (y : Int) = true ∧ (y : Int) = (j : Int)
    · rw [if_pos h]
      have e : y = j := by have := h.2; omega
      subst e
      have hn : y < n := by have := h.1; unfold mayB at this; simp at this; omega
      simp [hn]
    · rw [if_neg h]
      by_cases e : j = y
      · subst e
        have hn : ¬ j < n := fun q => h ⟨by unfold mayB; simp; omega, rfl⟩
        simp [hn]
      · simp [e]

theorem keepsFrom_kept {W W' : World} {B p n x : Nat} (h : IsSet W p n x) (hk : Kept (fun k => k = p) W W') : KeepsFrom B W W' :=
  ⟨hk.size, fun k o _ ho hc => by
    refine (hk.block k (lt_of_some ho) (fun e => ?_)).trans ho
    rw [e, show W.heap[p]? = _ from h] at ho; cases ho; cases hc⟩

theorem Tab.ne {W : World} {p n x : Nat} (hT : Tab W) (h : IsSet W p n x) : p ≠ 0 := fun e => by
  have h1 := hT 0 (by decide)
  have h2 := h.cells.1
  rw [e] at h2
  rw [h1] at h2
  injection h2 with h2
  injection h2 with h2 h3
  cases h2

theorem keepTab_kept {W W' : World} {p n x : Nat} (h : IsSet W p n x) (hk : Kept (fun k => k = p) W W') : KeepTab W W' := fun t j hj => by
  have h0 := t.ne h
  have h1 := t j hj
  exact (World.cell?_of_block (hk.block 0 (World.block_lt_of_cell? W _ h1) (fun e => h0 e.symm))).trans h1

structure JnI (w W : World) (p n z : Nat) : Prop where
  b0 : Boxed W w.heap.size 110 (.pointer (some ⟨p, 0, none⟩))
  set : IsSet W p n z
  kept : Kept (fun k => k = p) w W

theorem JnI.own {w W W' : World} {p n z D : Nat} {row : Option Nat} (h : JnI w W p n z) (hD : w.heap.size ≤ D) (hg : W.grownBy W' row) (hr : ∀ r, row = some r → D ≤ r ∧ ∃ o : Obj, W.heap[r]? = some o ∧ o.isCells = false) : JnI w W' p n z := by
  refine ⟨boxed_grown h.b0 hg hr, ?_, h.kept.grown hg (fun k e => .inr (Nat.le_trans hD (hr k e).1))⟩
  refine (hg.block p (lt_of_some h.set) (fun e => ?_)).trans h.set
  obtain ⟨_, o, ho, hc⟩ := hr p e.symm
  rw [show W.heap[p]? = _ from h.set] at ho; cases ho; cases hc

end Go.Proofs.YtjegaljdindfaabGreatDoor.S4

namespace Go.Proofs.YtjegaljdindfaabGreatDoor.S4
open Go.RowKit
attribute [local go_sem ↓] Go.wp_at_zero Go.wp_at_succ

structure IsRset (w : World) (q n x : Nat) : Prop where
  blk : ∃ cur : Array Value, w.heap[q]? = some (.cells cur 119 (0, 0)) ∧ cur.size = 65 ∧ cur[0]? = some (.int .i64 (n : Int)) ∧ ∀ j, j < 64 → cur[1 + j]? = some (.bool (x.testBit j))

theorem IsRset.lt {w : World} {q n x : Nat} (h : IsRset w q n x) : q < w.heap.size := by
  obtain ⟨cur, h1, _⟩ := h.blk; exact lt_of_some h1

theorem IsRset.at {w : World} {q n x : Nat} (h : IsRset w q n x) : w.cell? ⟨q, 0, none⟩ = some (.int .i64 (n : Int)) := by
  obtain ⟨cur, h1, h2, h3, h4⟩ := h.blk
  simp [World.cell?, h1, h3]

theorem IsRset.bit {w : World} {q n x : Nat} (h : IsRset w q n x) (j : Nat) (hj : j < 64) : w.cell? ⟨q, 1 + j, none⟩ = some (.bool (x.testBit j)) ∧ w.frozen? ⟨q, 1 + j, none⟩ = false := by
  obtain ⟨cur, h1, h2, h3, h4⟩ := h.blk
  constructor
  · simp [World.cell?, h1, h4 j hj]
  · simp [World.frozen?, h1]

theorem IsRset.kept {w w' : World} {q n x : Nat} {S : Nat → Prop} (h : IsRset w q n x) (hk : Kept S w w') (hs : ¬ S q) : IsRset w' q n x := by
  obtain ⟨cur, h1, h2⟩ := h.blk
  exact ⟨cur, (hk.block q (lt_of_some h1) hs).trans h1, h2⟩

theorem IsRset.below {w w' : World} {q n x : Nat} (h : IsRset w q n x) (hb : Below w.heap.size w w') : IsRset w' q n x := by
  obtain ⟨cur, h1, h2⟩ := h.blk
  exact ⟨cur, (hb.block q (lt_of_some h1)).trans h1, h2⟩

theorem IsRset.set {w : World} {q n x y : Nat} (h : IsRset w q n x) (k : Nat) (hk : k < 64) (b : Bool) (hy : ∀ j, j < 64 → y.testBit j = if j = k then b else x.testBit j) : IsRset (w.setCell ⟨q, 1 + k, none⟩ (.bool b)) q n y := by
  obtain ⟨cur, h1, h2, h3, h4⟩ := h.blk
  refine ⟨_, heap_setCell_same w q (1 + k) _ _ _ h1, by simp [h2], ?_, fun j hj => ?_⟩
  · rw [Array.getElem?_setIfInBounds_ne (by omega)]; exact h3
  · rw [hy j hj]
    by_cases e : j = k
    · subst e
      rw [if_pos rfl, Array.getElem?_setIfInBounds_self_of_lt (by omega)]
    · rw [if_neg e, Array.getElem?_setIfInBounds_ne (by omega)]; exact h4 j hj

set_option maxRecDepth 100000 in
set_option maxHeartbeats 400000 in
theorem rmay_any {q n x : Nat} (i : Int) (w : World) (h : IsRset w q n x) :
    Calls Tryz.prog 161 #[.pointer (some ⟨q, 0, none⟩), .int .i64 i] w fun e w' => e = .returned (.bool (mayB n i)) ∧ w' = w := by
  have c0 := h.at
  clear h
  by_cases h0 : 0 ≤ i
  · have g0 : decide (0 ≤ i) = true := decide_eq_true h0
    have HF : Hid (decide (i < (n : Int)) = mayB n i) := by unfold Hid mayB; simp [h0]
    go_enter Tryz.func161, Tryz.ntmps161
    go_wp2
    go_ret
    exact ⟨ret_lb HF.out, rfl⟩
  · have g0 : decide (0 ≤ i) = false := decide_eq_false h0
    have HF : Hid (false = mayB n i) := by unfold Hid mayB; simp [h0]
    go_enter Tryz.func161, Tryz.ntmps161
    go_wp2
    go_ret
    exact ⟨ret_lb HF.out, rfl⟩

theorem may_nat {n : Nat} {i : Int} (hm : mayB n i = true) : ∃ k : Nat, i = k ∧ k < n := by
  unfold mayB at hm
  simp at hm
  exact ⟨i.toNat, by omega, by omega⟩

theorem may_of {n k : Nat} (h : k < n) : mayB n (k : Int) = true := by unfold mayB; simp; omega

set_option maxRecDepth 100000 in
set_option maxHeartbeats 400000 in
theorem rput_any {q n x : Nat} (i : Int) (b : Bool) (w : World) (h : IsRset w q n x) (hn : n ≤ 64) :
    Calls Tryz.prog 124 #[.pointer (some ⟨q, 0, none⟩), .int .i64 i, .bool b] w fun e w' => e = .returned (.bool (putB n x i b)) ∧ IsRset w' q n (putV n x i b) ∧ Kept (fun k => k = q) w w' := by
  have h1 := rmay_any i w h
  have HH := toHid h
  cases hm : mayB n i with
  | false =>
    rw [hm] at h1
    have e1 : putB n x i b = false := by unfold putB; simp [hm]
    have e2 : putV n x i b = x := by unfold putV; simp [e1]
    rw [e1, e2]
    clear h
    go_enter Tryz.func124, Tryz.ntmps124
    go_wp2_with fail
    refine h1.mono ?_
    rintro e w' ⟨rfl, hw⟩
    have hw' := hw.symm
    subst hw'
    clear hw
    go_wp2
    go_ret
    exact ⟨rfl, HH.out, Kept.refl _ w⟩
  | true =>
    obtain ⟨k, rfl, hk⟩ := may_nat hm
    rw [hm] at h1
    obtain ⟨c1, fz⟩ := h.bit k (by omega)
    have i0 : (0 : Int) ≤ (k : Int) := by omega
    have i1 : (k : Int) < 64 := by omega
    have e0 : putB n x (k : Int) b = (x.testBit k != b) := by unfold putB hasB; rw [hm]; simp
    have HY : Hid (∀ j, j < 64 → (putV n x (k : Int) b).testBit j = if j = k then b else x.testBit j) := fun j hj => by
      rw [putV_bit]
      by_cases e : j = k
      · rw [if_pos e, if_pos ⟨hm, by omega⟩]
      · rw [if_neg e, if_neg (fun q => e (by have := q.2; omega))]
    clear h
    generalize hbb : x.testBit k = bb at c1 e0
    cases hq : (bb != b) with
    | false =>
      have e1 : putB n x (k : Int) b = false := e0.trans hq
      have e2 : putV n x (k : Int) b = x := by unfold putV; simp [e1]
      have e3 : (bb == b) = true := by revert hq; cases bb <;> cases b <;> simp
      rw [e1, e2]
      clear e0 e1 e2 hq HY
      go_enter Tryz.func124, Tryz.ntmps124
      go_wp2_with fail
      refine h1.mono ?_
      rintro e w' ⟨rfl, hw⟩
      have hw' := hw.symm
      subst hw'
      clear hw
      go_wp2
      go_ret
      exact ⟨rfl, HH.out, Kept.refl _ w⟩
    | true =>
      have e1 : putB n x (k : Int) b = true := e0.trans hq
      have e3 : (bb == b) = false := by revert hq; cases bb <;> cases b <;> simp
      rw [e1]
      clear e0 e1 hq hbb
      go_enter Tryz.func124, Tryz.ntmps124
      go_wp2_with fail
      refine h1.mono ?_
      rintro e w' ⟨rfl, hw⟩
      have hw' := hw.symm
      subst hw'
      clear hw
      go_wp2
      go_ret
      exact ⟨rfl, HH.out.set k (by omega) b HY.out, Kept.setCell (S := fun k => k = q) (Kept.refl _ w) (p := ⟨q, 1 + k, none⟩) (.inl rfl) _⟩

set_option maxRecDepth 100000 in
set_option maxHeartbeats 400000 in
theorem rcount_any {q n x : Nat} (w : World) (h : IsRset w q n x) :
    Calls Tryz.prog 64 #[.pointer (some ⟨q, 0, none⟩)] w fun e w' => e = .returned (.int .i64 (cnt x 64 : Nat)) ∧ w' = w := by
  have HH := toHid h
  clear h
  obtain ⟨tot, ht⟩ : ∃ tot, cnt x 64 = tot := ⟨_, rfl⟩
  rw [ht]
  have HT := toHid ht
  clear ht
  go_enter Tryz.func64, Tryz.ntmps64
  go_wp2
  go_loop [3, 4] (fun c i => ∃ (k cc : Nat), k ≤ 64 ∧ i = .int .i64 k ∧ c = .int .i64 (cc : Nat) ∧ cnt x k = cc) (fun _ i => 64 - (intOf i).toNat)
  case atStart => exact ⟨0, 0, Nat.zero_le _, rfl, rfl, rfl⟩
  case round =>
    obtain ⟨k, cc, hk, rfl, rfl, hcc⟩ := hrel
    have hc := cnt_le x k
    rw [hcc] at hc
    have HC := toHid hcc
    clear hcc
    by_cases hlt : k < 64
    · obtain ⟨c1, _⟩ := HH.out.bit k hlt
      have i0 : (0 : Int) ≤ (k : Int) := by omega
      have i1 : (k : Int) < 64 := by omega
      have HC1 : Hid (cnt x (k + 1) = cc + if x.testBit k then 1 else 0) := by
        unfold Hid
        show cnt x k + _ = _
        rw [HC.out]
      clear HC
      cases hb : x.testBit k with
      | true =>
        rw [hb] at c1 HC1
        clear hb
        go_wp2
        go_round
        case rel => exact ⟨k + 1, cc + 1, by omega, by go_num, by go_num, HC1.out⟩
        case measure => simp [intOf]; omega
      | false =>
        rw [hb] at c1 HC1
        clear hb
        go_wp2
        go_round
        case rel => exact ⟨k + 1, cc, by omega, by go_num, rfl, HC1.out⟩
        case measure => simp [intOf]; omega
    · have hk64 : k = 64 := by omega
      subst hk64
      have e : tot = cc := HT.out.symm.trans HC.out
      subst e
      clear HT HC
      go_wp2
      go_ret
      exact ⟨rfl, rfl⟩

theorem elemsTo_pre (x a b : Nat) (h : a ≤ b) : elemsTo x a <+: elemsTo x b := by
  induction b with
  | zero =>
    have : a = 0 := by omega
    subst this; exact List.prefix_rfl
  | succ b ih =>
    by_cases e : a = b + 1
    · subst e; exact List.prefix_rfl
    · exact (ih (by omega)).trans (List.prefix_append _ _)

/- The first one from f on. -/
theorem nextI_at {x k : Nat} {xs : List Nat} {f : Int} (h : ElOf x xs) (hk : k < 64) (hb : x.testBit k = true) (hf : f ≤ (k : Int)) (hl : ∀ j : Nat, f ≤ (j : Int) → j < k → x.testBit j = false) : nextI xs f = (k : Int) ∧ nextB xs = true := by
  have hp : elemsTo x k ++ [k] <+: xs := by
    rw [h.eq]
    have := elemsTo_pre x (k + 1) 64 (by omega)
    have e : elemsTo x (k + 1) = elemsTo x k ++ [k] := by show elemsTo x k ++ _ = _; rw [hb]; rfl
    rw [e] at this; exact this
  refine nextI_hit hp (fun z hz => ?_) hf
  obtain ⟨z1, z2⟩ := (elemsTo_mem x k z).1 hz
  by_cases q : f ≤ (z : Int)
  · rw [hl z q z1] at z2; cases z2
  · omega

theorem nextI_round {x : Nat} {xs : List Nat} {f : Int} (h : ElOf x xs) (hf : f < 0 ∨ ∀ j : Nat, f ≤ (j : Int) → j < 64 → x.testBit j = false) : nextI xs f = ((xs.headD 0 : Nat) : Int) := by
  rcases hf with hf | hf
  · cases xs with
    | nil => rfl
    | cons y ys =>
      have : f ≤ (y : Int) := by omega
      exact (nextI_hit (pre := []) ⟨ys, rfl⟩ (fun _ h => by cases h) this).1
  · refine nextI_miss (fun z hz => ?_)
    rw [h.eq] at hz
    obtain ⟨z1, z2⟩ := (elemsTo_mem x 64 z).1 hz
    by_cases q : f ≤ (z : Int)
    · rw [hf z q z1] at z2; cases z2
    · omega

theorem head_at {x k : Nat} {xs : List Nat} (h : ElOf x xs) (hk : k < 64) (hb : x.testBit k = true) (hl : ∀ j : Nat, j < k → x.testBit j = false) : xs.headD 0 = k ∧ nextB xs = true := by
  obtain ⟨h1, h2⟩ := nextI_at (f := 0) h hk hb (by omega) (fun j _ hj => hl j hj)
  have e0 : elemsTo x k = [] := by
    cases q : elemsTo x k with
    | nil => rfl
    | cons y ys =>
      obtain ⟨z1, z2⟩ := (elemsTo_mem x k y).1 (by rw [q]; simp)
      rw [hl y z1] at z2; cases z2
  have := elemsTo_pre x (k + 1) 64 (by omega)
  have e : elemsTo x (k + 1) = [k] := by show elemsTo x k ++ _ = _; rw [hb, e0]; rfl
  rw [e] at this
  obtain ⟨r, hr⟩ := this
  have : xs = [k] ++ r := h.eq.trans hr.symm
  rw [this]
  exact ⟨rfl, rfl⟩

theorem none_at {x : Nat} {xs : List Nat} (h : ElOf x xs) (hl : ∀ j : Nat, j < 64 → x.testBit j = false) : xs = [] := by
  cases q : xs with
  | nil => rfl
  | cons y ys =>
    obtain ⟨z1, z2⟩ := (elemsTo_mem x 64 y).1 (by show y ∈ elems x; rw [← h.eq, q]; simp)
    rw [hl y z1] at z2; cases z2

set_option maxRecDepth 100000 in
set_option maxHeartbeats 1000000 in
theorem rnext_any {q n x : Nat} (xs : List Nat) (HXS : ElOf x xs) (f : Int) (w : World) (h : IsRset w q n x) (hok : SetOk n x) :
    Calls Tryz.prog 122 #[.pointer (some ⟨q, 0, none⟩), .int .i64 f] w fun e w' => e = .returned (.tuple #[.int .i64 (nextI xs f), .bool (nextB xs)]) ∧ w' = w := by
  have HH := toHid h
  have HX := toHid HXS
  have HOK := toHid hok
  have c0 := h.at
  have hn := hok.n1
  clear h HXS hok
  obtain ⟨vi, hvi⟩ : ∃ vi, nextI xs f = vi := ⟨_, rfl⟩
  obtain ⟨vb, hvb⟩ : ∃ vb, nextB xs = vb := ⟨_, rfl⟩
  rw [hvi, hvb]
  have HVI := toHid hvi
  have HVB := toHid hvb
  clear hvi hvb
  go_enter Tryz.func122, Tryz.ntmps122
  go_wp2_with fail
  go_loop [6] (fun i => ∃ v : Int, i = .int .i64 v ∧ f ≤ v ∧ (v = f ∨ (0 ≤ f ∧ v ≤ (n : Int))) ∧ ∀ j : Nat, f ≤ (j : Int) → (j : Int) < v → x.testBit j = false) (fun i => 64 - (intOf i).toNat)
  case atStart => exact ⟨f, rfl, Int.le_refl _, .inl rfl, fun j h1 h2 => by omega⟩
  case round =>
    obtain ⟨v, rfl, hfv, hor, hall⟩ := hrel
    have HA := toHid hall
    have hmy := rmay_any v w HH.out
    clear hall
    cases hm : mayB n v with
    | true =>
      rw [hm] at hmy
      obtain ⟨k, rfl, hk⟩ := may_nat hm
      obtain ⟨c1, _⟩ := HH.out.bit k (by omega)
      have i0 : (0 : Int) ≤ (k : Int) := by omega
      have i1 : (k : Int) < 64 := by omega
      cases hb : x.testBit k with
      | true =>
        rw [hb] at c1
        obtain ⟨e1, e2⟩ := nextI_at HX.out (by omega) hb hfv (fun j h1 h2 => HA.out j h1 (by omega))
        have e3 : vi = (k : Int) := HVI.out.symm.trans e1
        have e4 : vb = true := HVB.out.symm.trans e2
        subst e3 e4
        clear hb e1 e2 HVI HVB
        go_wp2_with fail
        refine hmy.mono ?_
        rintro e w' ⟨rfl, hw⟩
        have hw' := hw.symm
        subst hw'
        clear hw
        go_wp2
        go_ret2
        exact ⟨rfl, rfl⟩
      | false =>
        rw [hb] at c1
        have HA1 : Hid (∀ j : Nat, f ≤ (j : Int) → (j : Int) < (k : Int) + 1 → x.testBit j = false) := fun j h1 h2 => by
          by_cases e : j = k
          · subst e; exact hb
          · exact HA.out j h1 (by omega)
        clear hb HA
        go_wp2_with fail
        refine hmy.mono ?_
        rintro e w' ⟨rfl, hw⟩
        have hw' := hw.symm
        subst hw'
        clear hw
        go_wp2
        go_round
        case rel => exact ⟨(k : Int) + 1, by go_num, by omega, by omega, HA1.out⟩
        case measure => simp [intOf]; omega
    | false =>
      rw [hm] at hmy
      have HW : Hid (nextI xs f = ((xs.headD 0 : Nat) : Int)) := by
        refine nextI_round HX.out ?_
        by_cases hf0 : f < 0
        · exact .inl hf0
        · refine .inr (fun j h1 h2 => ?_)
          by_cases hj : (j : Int) < v
          · exact HA.out j h1 hj
          · have : n ≤ j := by
              unfold mayB at hm
              simp at hm
              have := hm (by omega)
              omega
            exact HOK.out.hi j this
      clear HA
      go_wp2_with fail
      refine hmy.mono ?_
      rintro e w' ⟨rfl, hw⟩
      have hw' := hw.symm
      subst hw'
      clear hw hm hmy
      go_wp2_with fail
      go_loop [7] (fun i => ∃ k : Nat, k ≤ n ∧ i = .int .i64 k ∧ ∀ j : Nat, j < k → x.testBit j = false) (fun i => 64 - (intOf i).toNat)
      case atStart => exact ⟨0, Nat.zero_le _, rfl, fun j hj => by omega⟩
      case round =>
        obtain ⟨k, hk, rfl, hall⟩ := hrel
        have HA := toHid hall
        clear hall
        by_cases hlt : k < n
        · obtain ⟨c1, _⟩ := HH.out.bit k (by omega)
          have i0 : (0 : Int) ≤ (k : Int) := by omega
          have i1 : (k : Int) < 64 := by omega
          have g1 : decide ((k : Int) < (n : Int)) = true := decide_eq_true (by omega)
          cases hb : x.testBit k with
          | true =>
            rw [hb] at c1
            obtain ⟨e1, e2⟩ := head_at HX.out (by omega) hb HA.out
            have e3 : vi = (k : Int) := HVI.out.symm.trans (HW.out.trans (by rw [e1]))
            have e4 : vb = true := HVB.out.symm.trans e2
            subst e3 e4
            clear hb e1 e2 HVI HVB HW
            go_wp2
            go_ret2
            exact ⟨rfl, rfl⟩
          | false =>
            rw [hb] at c1
            have HA1 : Hid (∀ j : Nat, j < k + 1 → x.testBit j = false) := fun j h2 => by
              by_cases e : j = k
              · subst e; exact hb
              · exact HA.out j (by omega)
            clear hb HA
            go_wp2
            go_round
            case rel => exact ⟨k + 1, by omega, by go_num, HA1.out⟩
            case measure => simp [intOf]; omega
        · have g1 : decide ((k : Int) < (n : Int)) = false := decide_eq_false (by omega)
          have e0 : xs = [] := none_at HX.out (fun j hj => by
            by_cases q : j < n
            · exact HA.out j (by omega)
            · exact HOK.out.hi j (by omega))
          have e3 : vi = 0 := HVI.out.symm.trans (HW.out.trans (by rw [e0]; rfl))
          have e4 : vb = false := HVB.out.symm.trans (by rw [e0]; rfl)
          subst e3 e4
          clear e0 HVI HVB HW HA
          go_wp2
          go_ret2
          exact ⟨rfl, rfl⟩
end Go.Proofs.YtjegaljdindfaabGreatDoor.S4

namespace Go.Proofs.YtjegaljdindfaabGreatDoor.S4
open Go.RowKit
attribute [local go_sem ↓] Go.wp_at_zero Go.wp_at_succ

/- A block of three numbers: rate, burst, level. -/
def Three (t : TypeId) (w : World) (p : Nat) (r b l : Int) : Prop := w.heap[p]? = some (.cells #[.int .i64 r, .int .i64 b, .int .i64 l] t (0, 0))

theorem Three.cells {t : TypeId} {w : World} {p : Nat} {r b l : Int} (h : Three t w p r b l) :
    w.cell? ⟨p, 0, none⟩ = some (.int .i64 r) ∧ w.cell? ⟨p, 1, none⟩ = some (.int .i64 b) ∧ w.cell? ⟨p, 2, none⟩ = some (.int .i64 l) ∧ w.frozen? ⟨p, 2, none⟩ = false := by
  have h' : w.heap[p]? = _ := h
  refine ⟨?_, ?_, ?_, ?_⟩ <;> simp [World.cell?, World.frozen?, h']

theorem Three.set {t : TypeId} {w : World} {p : Nat} {r b l : Int} (h : Three t w p r b l) (l' : Int) : Three t (w.setCell ⟨p, 2, none⟩ (.int .i64 l')) p r b l' := by
  unfold Three
  rw [heap_setCell_same w p 2 _ _ _ h]
  rfl

theorem Three.other {t : TypeId} {w : World} {p q : Nat} {r b l : Int} (h : Three t w p r b l) (hne : p ≠ q) (o : Nat) (u : Value) : Three t (w.setCell ⟨q, o, none⟩ u) p r b l := by
  unfold Three
  rw [heap_setCell_other w ⟨q, o, none⟩ p u hne]
  exact h

theorem Three.below {t : TypeId} {w w' : World} {p : Nat} {r b l : Int} (h : Three t w p r b l) (hb : Below w.heap.size w w') : Three t w' p r b l :=
  (hb.block p (lt_of_some h)).trans h

theorem Three.ne {t t' : TypeId} {w : World} {p q : Nat} {r b l r' b' l' : Int} (h : Three t w p r b l) (h' : Three t' w q r' b' l') (ht : t ≠ t') : p ≠ q := fun e => by
  subst e
  have : some (Obj.cells _ t _) = some (Obj.cells _ t' _) := (show w.heap[p]? = _ from h).symm.trans h'
  simp at this
  exact ht this.2

theorem new_block (w : World) (o : Obj) : (w.alloc o).heap[w.heap.size]? = some o := by
  show (w.heap.push o)[w.heap.size]? = some o
  simp

def inB (n most : Int) : Bool := decide (0 ≤ n ∧ n ≤ most)

set_option maxRecDepth 100000 in
set_option maxHeartbeats 400000 in
theorem within_any (n most : Int) (w : World) : Calls Tryz.prog 118 #[.int .i64 n, .int .i64 most] w fun e w' => e = .returned (.bool (inB n most)) ∧ w' = w := by
  by_cases h0 : 0 ≤ n
  · have g0 : decide (0 ≤ n) = true := decide_eq_true h0
    have HF : Hid (decide (n ≤ most) = inB n most) := by unfold Hid inB; simp [h0]
    go_enter Tryz.func118, Tryz.ntmps118
    go_wp2
    go_ret
    exact ⟨ret_lb HF.out, rfl⟩
  · have g0 : decide (0 ≤ n) = false := decide_eq_false h0
    have HF : Hid (false = inB n most) := by unfold Hid inB; simp [h0]
    go_enter Tryz.func118, Tryz.ntmps118
    go_wp2
    go_ret
    exact ⟨ret_lb HF.out, rfl⟩

set_option maxRecDepth 100000 in
set_option maxHeartbeats 400000 in
theorem bnew_bad (r b : Int) (w : World) (h : (inB r 1000 && inB b 1000) = false) :
    Calls Tryz.prog 49 #[.int .i64 r, .int .i64 b] w fun e w' => e = .returned (.tuple #[.pointer none, .iface 87 (.int .i64 1)]) ∧ w' = w := by
  have h1 := within_any r 1000 w
  have h2 := within_any b 1000 w
  cases e1 : inB r 1000 with
  | false =>
    rw [e1] at h1
    go_enter Tryz.func49, Tryz.ntmps49
    go_wp2_with fail
    refine h1.mono ?_
    rintro e w' ⟨rfl, hw⟩
    have hw' := hw.symm
    subst hw'
    clear hw
    go_wp2
    go_ret2
    exact ⟨rfl, rfl⟩
  | true =>
    have e2 : inB b 1000 = false := by simpa [e1] using h
    rw [e1] at h1
    rw [e2] at h2
    go_enter Tryz.func49, Tryz.ntmps49
    go_wp2_with fail
    refine h1.mono ?_
    rintro e w' ⟨rfl, hw⟩
    have hw' := hw.symm
    subst hw'
    clear hw
    go_wp2_with fail
    refine h2.mono ?_
    rintro e w' ⟨rfl, hw⟩
    have hw' := hw.symm
    subst hw'
    clear hw
    go_wp2
    go_ret2
    exact ⟨rfl, rfl⟩

set_option maxRecDepth 100000 in
set_option maxHeartbeats 400000 in
theorem bnew_good (r b : Int) (w : World) (e1 : inB r 1000 = true) (e2 : inB b 1000 = true) :
    Calls Tryz.prog 49 #[.int .i64 r, .int .i64 b] w fun e w' => e = .returned (.tuple #[.pointer (some ⟨w.heap.size, 0, none⟩), .nilIface]) ∧ Three 179 w' w.heap.size r b b ∧ Below w.heap.size w w' := by
  have h1 := within_any r 1000 w
  have h2 := within_any b 1000 w
  rw [e1] at h1
  rw [e2] at h2
  go_enter Tryz.func49, Tryz.ntmps49
  go_wp2_with fail
  refine h1.mono ?_
  rintro e w' ⟨rfl, hw⟩
  have hw' := hw.symm
  subst hw'
  clear hw
  go_wp2_with fail
  refine h2.mono ?_
  rintro e w' ⟨rfl, hw⟩
  have hw' := hw.symm
  subst hw'
  clear hw h1 h2
  go_wp2
  go_ret2
  exact ⟨rfl, new_block w _, (Below.refl _ w).alloc (Nat.le_refl _) _⟩

set_option maxRecDepth 100000 in
set_option maxHeartbeats 400000 in
theorem tick_bad {p : Nat} (n : Int) (w : World) (h : inB n 100000 = false) :
    Calls Tryz.prog 126 #[.pointer (some ⟨p, 0, none⟩), .int .i64 n] w fun e w' => e = .returned (.iface 87 (.int .i64 1)) ∧ w' = w := by
  have h1 := within_any n 100000 w
  rw [h] at h1
  go_enter Tryz.func126, Tryz.ntmps126
  go_wp2_with fail
  refine h1.mono ?_
  rintro e w' ⟨rfl, hw⟩
  have hw' := hw.symm
  subst hw'
  clear hw
  go_wp2
  go_ret
  exact ⟨rfl, rfl⟩

def tickV (r b l n : Int) : Int := if b < l + n * r then b else l + n * r

theorem Three.kept {t : TypeId} {w w' : World} {p : Nat} {r b l : Int} {S : Nat → Prop} (h : Three t w p r b l) (hk : Kept S w w') (hs : ¬ S p) : Three t w' p r b l :=
  (hk.block p (lt_of_some h) hs).trans h

theorem Three.drew {t : TypeId} {w : World} {p : Nat} {r b l : Int} (h : Three t w p r b l) : Three t w.drew p r b l := h

set_option maxRecDepth 100000 in
set_option maxHeartbeats 400000 in
theorem tick_good {p : Nat} {r b l : Int} (n : Int) (w : World) (h : Three 179 w p r b l) (hn : inB n 100000 = true) (hr : 0 ≤ r ∧ r ≤ 1000) (hl : 0 ≤ l ∧ l ≤ 1000) :
    Calls Tryz.prog 126 #[.pointer (some ⟨p, 0, none⟩), .int .i64 n] w fun e w' => e = .returned .nilIface ∧ Three 179 w' p r b (tickV r b l n) ∧ Kept (fun k => k = p) w w' := by
  have HH : Hid (Three 179 w p r b l) := h
  obtain ⟨c0, c1, c2, fz⟩ := h.cells
  clear h
  have h1 := within_any n 100000 w
  rw [hn] at h1
  have hn' : 0 ≤ n ∧ n ≤ 100000 := by unfold inB at hn; simpa using hn
  have e1 : IntKind.i64.wrap (n * r) = n * r := by
    have : 0 ≤ n * r := Int.mul_nonneg hn'.1 hr.1
    have : n * r ≤ 100000 * 1000 := Int.mul_le_mul hn'.2 hr.2 hr.1 (by omega)
    exact IntWalk.i64_in _ (by omega)
  have e2 : IntKind.i64.wrap (l + n * r) = l + n * r := by
    have : 0 ≤ n * r := Int.mul_nonneg hn'.1 hr.1
    have : n * r ≤ 100000 * 1000 := Int.mul_le_mul hn'.2 hr.2 hr.1 (by omega)
    exact IntWalk.i64_in _ (by omega)
  by_cases hb : b < l + n * r
  · have HV : Hid (tickV r b l n = b) := by unfold Hid tickV; rw [if_pos hb]
    go_enter Tryz.func126, Tryz.ntmps126
    go_wp2_with fail
    refine h1.mono ?_
    rintro e w' ⟨rfl, hw⟩
    have hw' := hw.symm
    subst hw'
    clear hw
    go_wp2_with fail
    go_region
    go_wp2
    go_ret
    exact ⟨rfl, by rw [HV.out]; first | exact (HH.out.set _).drew | (rw [show min (l + n * r) b = b by omega]; exact (HH.out.set _).drew), (Kept.setCell (S := fun k => k = p) (Kept.refl _ w) (p := ⟨p, 2, none⟩) (.inl rfl) _).drew⟩
  · have HV : Hid (tickV r b l n = l + n * r) := by unfold Hid tickV; rw [if_neg hb]
    go_enter Tryz.func126, Tryz.ntmps126
    go_wp2_with fail
    refine h1.mono ?_
    rintro e w' ⟨rfl, hw⟩
    have hw' := hw.symm
    subst hw'
    clear hw
    go_wp2_with fail
    go_region
    go_wp2
    go_ret
    exact ⟨rfl, by rw [HV.out]; first | exact (HH.out.set _).drew | (rw [show min (l + n * r) b = l + n * r by omega]; exact (HH.out.set _).drew), (Kept.setCell (S := fun k => k = p) (Kept.refl _ w) (p := ⟨p, 2, none⟩) (.inl rfl) _).drew⟩

def takeV (l n : Int) : Int := if inB n l then l - n else l

set_option maxRecDepth 100000 in
set_option maxHeartbeats 400000 in
theorem btake_any {p : Nat} {r b l : Int} (n : Int) (w : World) (h : Three 179 w p r b l) (hl : 0 ≤ l ∧ l ≤ 1000) :
    Calls Tryz.prog 114 #[.pointer (some ⟨p, 0, none⟩), .int .i64 n] w fun e w' => e = .returned (.bool (inB n l)) ∧ Three 179 w' p r b (takeV l n) ∧ Kept (fun k => k = p) w w' := by
  have HH : Hid (Three 179 w p r b l) := h
  obtain ⟨c0, c1, c2, fz⟩ := h.cells
  clear h
  have h1 := within_any n l w
  cases hn : inB n l with
  | false =>
    rw [hn] at h1
    have HV : Hid (takeV l n = l) := by unfold Hid takeV; simp [hn]
    go_enter Tryz.func114, Tryz.ntmps114
    go_wp2_with fail
    refine h1.mono ?_
    rintro e w' ⟨rfl, hw⟩
    have hw' := hw.symm
    subst hw'
    clear hw
    go_wp2
    go_ret
    exact ⟨rfl, by rw [HV.out]; exact HH.out, Kept.refl _ w⟩
  | true =>
    rw [hn] at h1
    have hn' : 0 ≤ n ∧ n ≤ l := by unfold inB at hn; simpa using hn
    have HV : Hid (takeV l n = l - n) := by unfold Hid takeV; simp [hn]
    have e2 : IntKind.i64.wrap (l - n) = l - n := IntWalk.i64_in _ (by omega)
    go_enter Tryz.func114, Tryz.ntmps114
    go_wp2_with fail
    refine h1.mono ?_
    rintro e w' ⟨rfl, hw⟩
    have hw' := hw.symm
    subst hw'
    clear hw
    go_wp2
    go_ret
    exact ⟨rfl, by rw [HV.out]; exact HH.out.set _, Kept.setCell (S := fun k => k = p) (Kept.refl _ w) (p := ⟨p, 2, none⟩) (.inl rfl) _⟩
end Go.Proofs.YtjegaljdindfaabGreatDoor.S4

namespace Go.Proofs.YtjegaljdindfaabGreatDoor.S4
open Go.RowKit
attribute [local go_sem ↓] Go.wp_at_zero Go.wp_at_succ

theorem tickV_end {r b l n : Int} {k : Nat} (hr : 0 ≤ r) (hk : (k : Int) ≤ n) (h : (k : Int) = n ∨ b ≤ tickV r b l k ∨ r ≤ 0) : tickV r b l k = tickV r b l n := by
  rcases h with h | h | h
  · rw [h]
  · have h1 : (k : Int) * r ≤ n * r := Int.mul_le_mul_of_nonneg_right hk hr
    have h0 : 0 ≤ (k : Int) * r := Int.mul_nonneg (by omega) hr
    unfold tickV at h ⊢
    split at h <;> split <;> split <;> omega
  · have : r = 0 := by omega
    subst this
    unfold tickV; simp

theorem tickV_next {r b l : Int} {k : Nat} (h : tickV r b l k < b) : (if tickV r b l k + r < b then tickV r b l k + r else b) = tickV r b l ((k : Int) + 1) := by
  have e : ((k : Int) + 1) * r = (k : Int) * r + r := by rw [Int.add_mul, Int.one_mul]
  unfold tickV at h ⊢
  rw [e]
  split at h
  · omega
  · rename_i q
    rw [if_neg q]
    split <;> split <;> omega

theorem tickV_in {r b l n : Int} (hr : 0 ≤ r) (hl : 0 ≤ l) (hb : 0 ≤ b) (hn : 0 ≤ n) : 0 ≤ tickV r b l n ∧ tickV r b l n ≤ b := by
  have h0 : 0 ≤ n * r := Int.mul_nonneg hn hr
  unfold tickV
  split <;> omega

theorem KeptD.set {a w : World} {q : Nat} {u : Value} (h : Kept (fun k => k = q) a w) : Kept (fun k => k = q) a (w.setCell ⟨q, 2, none⟩ u) := Kept.setCell (S := fun k => k = q) h (p := ⟨q, 2, none⟩) (.inl rfl) _

set_option maxRecDepth 100000 in
set_option maxHeartbeats 1000000 in
theorem rtick_any {q : Nat} {r b l : Int} (n : Nat) (w : World) (h : Three 116 w q r b l) (hn : n ≤ 100000) (hr : 0 ≤ r ∧ r ≤ 1000) (hl : 0 ≤ l ∧ l ≤ b) (hb : b ≤ 1000) :
    Calls Tryz.prog 58 #[.pointer (some ⟨q, 0, none⟩), .int .i64 (n : Int)] w fun e w' => (∃ v, e = .returned v) ∧ Three 116 w' q r b (tickV r b l n) ∧ Kept (fun k => k = q) w w' := by
  have e0 : tickV r b l ((0 : Nat) : Int) = l := by unfold tickV; simp; omega
  have HH : Hid (Three 116 w q r b (tickV r b l ((0 : Nat) : Int))) := by rw [e0]; exact h
  clear h e0
  go_enter Tryz.func58, Tryz.ntmps58
  go_wp2_with fail
  go_loopw [4] (fun i wr => ∃ k : Nat, k ≤ n ∧ i = .int .i64 k ∧ Three 116 wr q r b (tickV r b l k) ∧ Kept (fun k => k = q) w wr) (fun i _ => n - (intOf i).toNat)
  case atStart => exact ⟨0, Nat.zero_le _, rfl, HH.out, Kept.refl _ _⟩
  case round =>
    clear HH
    obtain ⟨k, hk, rfl, h3, hkp⟩ := hrel
    have H3 : Hid (Three 116 wr q r b (tickV r b l k)) := h3
    have HK : Hid (Kept (fun k => k = q) w wr) := hkp
    have hin := tickV_in (r := r) (b := b) (l := l) (n := (k : Int)) hr.1 hl.1 (by omega) (by omega)
    have HE : Hid ((k : Int) = n ∨ b ≤ tickV r b l k ∨ r ≤ 0 → tickV r b l k = tickV r b l n) := tickV_end hr.1 (by omega)
    have HN : Hid (tickV r b l k < b → (if tickV r b l k + r < b then tickV r b l k + r else b) = tickV r b l ((k : Int) + 1)) := tickV_next
    obtain ⟨c0, c1, c2, fz⟩ := h3.cells
    clear h3 hkp
    generalize hv : tickV r b l k = v at H3 hin HE HN c2
    clear hv
    by_cases hlt : k < n
    · have g1 : decide ((k : Int) < (n : Int)) = true := decide_eq_true (by omega)
      by_cases hvb : v < b
      · have g2 : decide (v < b) = true := decide_eq_true hvb
        by_cases hr0 : 0 < r
        · have g3 : decide (0 < r) = true := decide_eq_true hr0
          have q1 : IntKind.i64.wrap (v + r) = v + r := IntWalk.i64_in _ (by omega)
          have HN' := toHid (HN.out hvb)
          clear HN HE
          by_cases h5 : v + r < b
          · rw [if_pos h5] at HN'
            as_aux_lemma =>
              go_wp2_with fail
              go_region
              go_wp2_with fail
              go_region
              go_wp2
              go_roundw
              case rel => exact ⟨k + 1, by omega, by go_num, by rw [show ((k + 1 : Nat) : Int) = (k : Int) + 1 by omega, ← HN'.out]; first | exact (H3.out.set _) | exact (H3.out.drew.set _).drew | (rw [show min b (v + r) = v + r by omega]; exact (H3.out.drew.set _).drew), by first | exact KeptD.set HK.out | exact (KeptD.set HK.out).drew | exact (KeptD.set HK.out.drew).drew⟩
              case measure => simp [intOf]; omega
          · rw [if_neg h5] at HN'
            as_aux_lemma =>
              go_wp2_with fail
              go_region
              go_wp2_with fail
              go_region
              go_wp2
              go_roundw
              case rel => exact ⟨k + 1, by omega, by go_num, by rw [show ((k + 1 : Nat) : Int) = (k : Int) + 1 by omega, ← HN'.out]; first | exact (H3.out.set _) | exact (H3.out.drew.set _).drew | (rw [show min b (v + r) = b by omega]; exact (H3.out.drew.set _).drew), by first | exact KeptD.set HK.out | exact (KeptD.set HK.out).drew | exact (KeptD.set HK.out.drew).drew⟩
              case measure => simp [intOf]; omega
        · have g3 : decide (0 < r) = false := decide_eq_false hr0
          have HV := toHid (HE.out (.inr (.inr (by omega))))
          clear HN HE
          as_aux_lemma =>
            go_wp2_with fail
            go_region
            go_wp2
            go_end0
            exact ⟨⟨_, rfl⟩, by rw [← HV.out]; exact H3.out, by first | exact HK.out | exact HK.out.drew⟩
      · have g2 : decide (v < b) = false := decide_eq_false hvb
        have HV := toHid (HE.out (.inr (.inl (by omega))))
        clear HN HE
        as_aux_lemma =>
          go_wp2_with fail
          go_region
          go_wp2
          go_end0
          exact ⟨⟨_, rfl⟩, by rw [← HV.out]; exact H3.out, by first | exact HK.out | exact HK.out.drew⟩
    · have g1 : decide ((k : Int) < (n : Int)) = false := decide_eq_false (by omega)
      have HV := toHid (HE.out (.inl (by omega)))
      clear HN HE
      as_aux_lemma =>
        go_wp2_with fail
        go_region
        go_wp2
        go_end0
        exact ⟨⟨_, rfl⟩, by rw [← HV.out]; exact H3.out, by first | exact HK.out | exact HK.out.drew⟩

set_option maxRecDepth 100000 in
set_option maxHeartbeats 400000 in
theorem rtake_any {p : Nat} {r b l : Int} (n : Int) (w : World) (h : Three 116 w p r b l) (hl : 0 ≤ l ∧ l ≤ 1000) :
    Calls Tryz.prog 123 #[.pointer (some ⟨p, 0, none⟩), .int .i64 n] w fun e w' => e = .returned (.bool (inB n l)) ∧ Three 116 w' p r b (takeV l n) ∧ Kept (fun k => k = p) w w' := by
  have HH : Hid (Three 116 w p r b l) := h
  obtain ⟨c0, c1, c2, fz⟩ := h.cells
  clear h
  by_cases h1 : n < 0
  · have g1 : decide (n < 0) = true := decide_eq_true h1
    have hn : inB n l = false := by unfold inB; simp; omega
    have HV : Hid (takeV l n = l) := by unfold Hid takeV; simp [hn]
    rw [hn]
    go_enter Tryz.func123, Tryz.ntmps123
    go_wp2
    go_ret
    exact ⟨rfl, by rw [HV.out]; exact HH.out, Kept.refl _ w⟩
  · have g1 : decide (n < 0) = false := decide_eq_false h1
    by_cases h2 : l < n
    · have g2 : decide (l < n) = true := decide_eq_true h2
      have hn : inB n l = false := by unfold inB; simp; omega
      have HV : Hid (takeV l n = l) := by unfold Hid takeV; simp [hn]
      rw [hn]
      go_enter Tryz.func123, Tryz.ntmps123
      go_wp2
      go_ret
      exact ⟨rfl, by rw [HV.out]; exact HH.out, Kept.refl _ w⟩
    · have g2 : decide (l < n) = false := decide_eq_false h2
      have hn : inB n l = true := by unfold inB; simp; omega
      have HV : Hid (takeV l n = l - n) := by unfold Hid takeV; simp [hn]
      have e2 : IntKind.i64.wrap (l - n) = l - n := IntWalk.i64_in _ (by omega)
      rw [hn]
      go_enter Tryz.func123, Tryz.ntmps123
      go_wp2
      go_ret
      exact ⟨rfl, by rw [HV.out]; exact HH.out.set _, Kept.setCell (S := fun k => k = p) (Kept.refl _ w) (p := ⟨p, 2, none⟩) (.inl rfl) _⟩
end Go.Proofs.YtjegaljdindfaabGreatDoor.S4
