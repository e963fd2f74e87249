/-
The document's own set (package stackyardref): how it lies in memory, and what its calls give.
-/
import Derived.Test.YtlfecjgmmhbanaaDoorQBitsJoin
namespace Go.Proofs.YtlfecjgmmhbanaaDoor.S4
open Go.RowKit
attribute [local go_sem ↓] Go.wp_at_zero Go.wp_at_succ

structure IsRset (w : World) (q n x : Nat) : Prop where
  blk : ∃ cur : Array Value, w.heap[q]? = some (.cells cur 39 (0, 0)) ∧ cur.size = 65 ∧ cur[0]? = some (.int .i64 (n : Int)) ∧ ∀ j, j < 64 → cur[1 + j]? = some (.bool (x.testBit j))

theorem IsRset.lt {w : World} {q n x : Nat} (h : IsRset w q n x) : q < w.heap.size := by
  obtain ⟨cur, h1, _⟩ := h.blk; exact lt_of_some h1

theorem IsRset.at {w : World} {q n x : Nat} (h : IsRset w q n x) : w.cell? ⟨q, 0, none⟩ = some (.int .i64 (n : Int)) := by
  obtain ⟨cur, h1, h2, h3, h4⟩ := h.blk
  simp [World.cell?, h1, h3]

theorem IsRset.bit {w : World} {q n x : Nat} (h : IsRset w q n x) (j : Nat) (hj : j < 64) : w.cell? ⟨q, 1 + j, none⟩ = some (.bool (x.testBit j)) ∧ w.frozen? ⟨q, 1 + j, none⟩ = false := by
  obtain ⟨cur, h1, h2, h3, h4⟩ := h.blk
  constructor
  · simp [World.cell?, h1, h4 j hj]
  · simp [World.frozen?, h1]

theorem IsRset.kept {w w' : World} {q n x : Nat} {S : Nat → Prop} (h : IsRset w q n x) (hk : Kept S w w') (hs : ¬ S q) : IsRset w' q n x := by
  obtain ⟨cur, h1, h2⟩ := h.blk
  exact ⟨cur, (hk.block q (lt_of_some h1) hs).trans h1, h2⟩

theorem IsRset.below {w w' : World} {q n x : Nat} (h : IsRset w q n x) (hb : Below w.heap.size w w') : IsRset w' q n x := by
  obtain ⟨cur, h1, h2⟩ := h.blk
  exact ⟨cur, (hb.block q (lt_of_some h1)).trans h1, h2⟩

theorem IsRset.set {w : World} {q n x y : Nat} (h : IsRset w q n x) (k : Nat) (hk : k < 64) (b : Bool) (hy : ∀ j, j < 64 → y.testBit j = if j = k then b else x.testBit j) : IsRset (w.setCell ⟨q, 1 + k, none⟩ (.bool b)) q n y := by
  obtain ⟨cur, h1, h2, h3, h4⟩ := h.blk
  refine ⟨_, heap_setCell_same w q (1 + k) _ _ _ h1, by simp [h2], ?_, fun j hj => ?_⟩
  · rw [Array.getElem?_setIfInBounds_ne (by omega)]; exact h3
  · rw [hy j hj]
    by_cases e : j = k
    · subst e
      rw [if_pos rfl, Array.getElem?_setIfInBounds_self_of_lt (by omega)]
    · rw [if_neg e, Array.getElem?_setIfInBounds_ne (by omega)]; exact h4 j hj

set_option maxRecDepth 100000 in
set_option maxHeartbeats 400000 in
theorem rmay_any {q n x : Nat} (i : Int) (w : World) (h : IsRset w q n x) :
    Calls Tryd.prog 24 #[.pointer (some ⟨q, 0, none⟩), .int .i64 i] w fun e w' => e = .returned (.bool (mayB n i)) ∧ w' = w := by
  have c0 := h.at
  clear h
  by_cases h0 : 0 ≤ i
  · have g0 : decide (0 ≤ i) = true := decide_eq_true h0
    have HF : Hid (decide (i < (n : Int)) = mayB n i) := by unfold Hid mayB; simp [h0]
    go_enter Tryd.func24, Tryd.ntmps24
    go_wp2
    go_ret
    exact ⟨ret_lb HF.out, rfl⟩
  · have g0 : decide (0 ≤ i) = false := decide_eq_false h0
    have HF : Hid (false = mayB n i) := by unfold Hid mayB; simp [h0]
    go_enter Tryd.func24, Tryd.ntmps24
    go_wp2
    go_ret
    exact ⟨ret_lb HF.out, rfl⟩

theorem may_nat {n : Nat} {i : Int} (hm : mayB n i = true) : ∃ k : Nat, i = k ∧ k < n := by
  unfold mayB at hm
  simp at hm
  exact ⟨i.toNat, by omega, by omega⟩

theorem may_of {n k : Nat} (h : k < n) : mayB n (k : Int) = true := by unfold mayB; simp; omega

set_option maxRecDepth 100000 in
set_option maxHeartbeats 400000 in
theorem rhas_any {q n x : Nat} (i : Int) (w : World) (h : IsRset w q n x) (hn : n ≤ 64) :
    Calls Tryd.prog 17 #[.pointer (some ⟨q, 0, none⟩), .int .i64 i] w fun e w' => e = .returned (.bool (hasB n x i)) ∧ w' = w := by
  have h1 := rmay_any i w h
  cases hm : mayB n i with
  | false =>
    rw [hm] at h1
    have HF : Hid (false = hasB n x i) := by unfold Hid hasB; simp [hm]
    clear h
    go_enter Tryd.func17, Tryd.ntmps17
    go_wp2_with fail
    refine h1.mono ?_
    rintro e w' ⟨rfl, hw⟩
    have hw' := hw.symm
    subst hw'
    clear hw
    go_wp2
    go_ret
    exact ⟨ret_lb HF.out, rfl⟩
  | true =>
    obtain ⟨k, rfl, hk⟩ := may_nat hm
    rw [hm] at h1
    have HF : Hid (x.testBit k = hasB n x (k : Int)) := by unfold Hid hasB; rw [hm]; simp
    obtain ⟨c1, _⟩ := h.bit k (by omega)
    have i0 : (0 : Int) ≤ (k : Int) := by omega
    have i1 : (k : Int) < 64 := by omega
    clear h
    generalize x.testBit k = bb at c1 HF
    go_enter Tryd.func17, Tryd.ntmps17
    go_wp2_with fail
    refine h1.mono ?_
    rintro e w' ⟨rfl, hw⟩
    have hw' := hw.symm
    subst hw'
    clear hw
    go_wp2
    go_ret
    exact ⟨ret_lb HF.out, rfl⟩

set_option maxRecDepth 100000 in
set_option maxHeartbeats 400000 in
theorem rput_any {q n x : Nat} (i : Int) (b : Bool) (w : World) (h : IsRset w q n x) (hn : n ≤ 64) :
    Calls Tryd.prog 12 #[.pointer (some ⟨q, 0, none⟩), .int .i64 i, .bool b] w fun e w' => e = .returned (.bool (putB n x i b)) ∧ IsRset w' q n (putV n x i b) ∧ Kept (fun k => k = q) w w' := by
  have h1 := rmay_any i w h
  have HH := toHid h
  cases hm : mayB n i with
  | false =>
    rw [hm] at h1
    have e1 : putB n x i b = false := by unfold putB; simp [hm]
    have e2 : putV n x i b = x := by unfold putV; simp [e1]
    rw [e1, e2]
    clear h
    go_enter Tryd.func12, Tryd.ntmps12
    go_wp2_with fail
    refine h1.mono ?_
    rintro e w' ⟨rfl, hw⟩
    have hw' := hw.symm
    subst hw'
    clear hw
    go_wp2
    go_ret
    exact ⟨rfl, HH.out, Kept.refl _ w⟩
  | true =>
    obtain ⟨k, rfl, hk⟩ := may_nat hm
    rw [hm] at h1
    obtain ⟨c1, fz⟩ := h.bit k (by omega)
    have i0 : (0 : Int) ≤ (k : Int) := by omega
    have i1 : (k : Int) < 64 := by omega
    have e0 : putB n x (k : Int) b = (x.testBit k != b) := by unfold putB hasB; rw [hm]; simp
    have HY : Hid (∀ j, j < 64 → (putV n x (k : Int) b).testBit j = if j = k then b else x.testBit j) := fun j hj => by
      rw [putV_bit]
      by_cases e : j = k
      · rw [if_pos e, if_pos ⟨hm, by omega⟩]
      · rw [if_neg e, if_neg (fun q => e (by have := q.2; omega))]
    clear h
    generalize hbb : x.testBit k = bb at c1 e0
    cases hq : (bb != b) with
    | false =>
      have e1 : putB n x (k : Int) b = false := e0.trans hq
      have e2 : putV n x (k : Int) b = x := by unfold putV; simp [e1]
      have e3 : (bb == b) = true := by revert hq; cases bb <;> cases b <;> simp
      rw [e1, e2]
      clear e0 e1 e2 hq HY
      go_enter Tryd.func12, Tryd.ntmps12
      go_wp2_with fail
      refine h1.mono ?_
      rintro e w' ⟨rfl, hw⟩
      have hw' := hw.symm
      subst hw'
      clear hw
      go_wp2
      go_ret
      exact ⟨rfl, HH.out, Kept.refl _ w⟩
    | true =>
      have e1 : putB n x (k : Int) b = true := e0.trans hq
      have e3 : (bb == b) = false := by revert hq; cases bb <;> cases b <;> simp
      rw [e1]
      clear e0 e1 hq hbb
      go_enter Tryd.func12, Tryd.ntmps12
      go_wp2_with fail
      refine h1.mono ?_
      rintro e w' ⟨rfl, hw⟩
      have hw' := hw.symm
      subst hw'
      clear hw
      go_wp2
      go_ret
      exact ⟨rfl, HH.out.set k (by omega) b HY.out, Kept.setCell (S := fun k => k = q) (Kept.refl _ w) (p := ⟨q, 1 + k, none⟩) (.inl rfl) _⟩

set_option maxRecDepth 100000 in
set_option maxHeartbeats 400000 in
theorem rcount_any {q n x : Nat} (w : World) (h : IsRset w q n x) :
    Calls Tryd.prog 18 #[.pointer (some ⟨q, 0, none⟩)] w fun e w' => e = .returned (.int .i64 (cnt x 64 : Nat)) ∧ w' = w := by
  have HH := toHid h
  clear h
  obtain ⟨tot, ht⟩ : ∃ tot, cnt x 64 = tot := ⟨_, rfl⟩
  rw [ht]
  have HT := toHid ht
  clear ht
  go_enter Tryd.func18, Tryd.ntmps18
  go_wp2
  go_loop [3, 4] (fun c i => ∃ (k cc : Nat), k ≤ 64 ∧ i = .int .i64 k ∧ c = .int .i64 (cc : Nat) ∧ cnt x k = cc) (fun _ i => 64 - (intOf i).toNat)
  case atStart => exact ⟨0, 0, Nat.zero_le _, rfl, rfl, rfl⟩
  case round =>
    obtain ⟨k, cc, hk, rfl, rfl, hcc⟩ := hrel
    have hc := cnt_le x k
    rw [hcc] at hc
    have HC := toHid hcc
    clear hcc
    by_cases hlt : k < 64
    · obtain ⟨c1, _⟩ := HH.out.bit k hlt
      have i0 : (0 : Int) ≤ (k : Int) := by omega
      have i1 : (k : Int) < 64 := by omega
      have HC1 : Hid (cnt x (k + 1) = cc + if x.testBit k then 1 else 0) := by
        unfold Hid
        show cnt x k + _ = _
        rw [HC.out]
      clear HC
      cases hb : x.testBit k with
      | true =>
        rw [hb] at c1 HC1
        clear hb
        go_wp2
        go_round
        case rel => exact ⟨k + 1, cc + 1, by omega, by go_num, by go_num, HC1.out⟩
        case measure => simp [intOf]; omega
      | false =>
        rw [hb] at c1 HC1
        clear hb
        go_wp2
        go_round
        case rel => exact ⟨k + 1, cc, by omega, by go_num, rfl, HC1.out⟩
        case measure => simp [intOf]; omega
    · have hk64 : k = 64 := by omega
      subst hk64
      have e : tot = cc := HT.out.symm.trans HC.out
      subst e
      clear HT HC
      go_wp2
      go_ret
      exact ⟨rfl, rfl⟩

theorem elemsTo_pre (x a b : Nat) (h : a ≤ b) : elemsTo x a <+: elemsTo x b := by
  induction b with
  | zero =>
    have : a = 0 := by omega
    subst this; exact List.prefix_rfl
  | succ b ih =>
    by_cases e : a = b + 1
    · subst e; exact List.prefix_rfl
    · exact (ih (by omega)).trans (List.prefix_append _ _)

/- The first one from f on. -/
theorem nextI_at {x k : Nat} {xs : List Nat} {f : Int} (h : ElOf x xs) (hk : k < 64) (hb : x.testBit k = true) (hf : f ≤ (k : Int)) (hl : ∀ j : Nat, f ≤ (j : Int) → j < k → x.testBit j = false) : nextI xs f = (k : Int) ∧ nextB xs = true := by
  have hp : elemsTo x k ++ [k] <+: xs := by
    rw [h.eq]
    have := elemsTo_pre x (k + 1) 64 (by omega)
    have e : elemsTo x (k + 1) = elemsTo x k ++ [k] := by show elemsTo x k ++ _ = _; rw [hb]; rfl
    rw [e] at this; exact this
  refine nextI_hit hp (fun z hz => ?_) hf
  obtain ⟨z1, z2⟩ := (elemsTo_mem x k z).1 hz
  by_cases q : f ≤ (z : Int)
  · rw [hl z q z1] at z2; cases z2
  · omega

theorem nextI_round {x : Nat} {xs : List Nat} {f : Int} (h : ElOf x xs) (hf : f < 0 ∨ ∀ j : Nat, f ≤ (j : Int) → j < 64 → x.testBit j = false) : nextI xs f = ((xs.headD 0 : Nat) : Int) := by
  rcases hf with hf | hf
  · cases xs with
    | nil => rfl
    | cons y ys =>
      have : f ≤ (y : Int) := by omega
      exact (nextI_hit (pre := []) ⟨ys, rfl⟩ (fun _ h => by cases h) this).1
  · refine nextI_miss (fun z hz => ?_)
    rw [h.eq] at hz
    obtain ⟨z1, z2⟩ := (elemsTo_mem x 64 z).1 hz
    by_cases q : f ≤ (z : Int)
    · rw [hf z q z1] at z2; cases z2
    · omega

theorem head_at {x k : Nat} {xs : List Nat} (h : ElOf x xs) (hk : k < 64) (hb : x.testBit k = true) (hl : ∀ j : Nat, j < k → x.testBit j = false) : xs.headD 0 = k ∧ nextB xs = true := by
  obtain ⟨h1, h2⟩ := nextI_at (f := 0) h hk hb (by omega) (fun j _ hj => hl j hj)
  have e0 : elemsTo x k = [] := by
    cases q : elemsTo x k with
    | nil => rfl
    | cons y ys =>
      obtain ⟨z1, z2⟩ := (elemsTo_mem x k y).1 (by rw [q]; simp)
      rw [hl y z1] at z2; cases z2
  have := elemsTo_pre x (k + 1) 64 (by omega)
  have e : elemsTo x (k + 1) = [k] := by show elemsTo x k ++ _ = _; rw [hb, e0]; rfl
  rw [e] at this
  obtain ⟨r, hr⟩ := this
  have : xs = [k] ++ r := h.eq.trans hr.symm
  rw [this]
  exact ⟨rfl, rfl⟩

theorem none_at {x : Nat} {xs : List Nat} (h : ElOf x xs) (hl : ∀ j : Nat, j < 64 → x.testBit j = false) : xs = [] := by
  cases q : xs with
  | nil => rfl
  | cons y ys =>
    obtain ⟨z1, z2⟩ := (elemsTo_mem x 64 y).1 (by show y ∈ elems x; rw [← h.eq, q]; simp)
    rw [hl y z1] at z2; cases z2

set_option maxRecDepth 100000 in
set_option maxHeartbeats 1000000 in
theorem rnext_any {q n x : Nat} (xs : List Nat) (HXS : ElOf x xs) (f : Int) (w : World) (h : IsRset w q n x) (hok : SetOk n x) :
    Calls Tryd.prog 14 #[.pointer (some ⟨q, 0, none⟩), .int .i64 f] w fun e w' => e = .returned (.tuple #[.int .i64 (nextI xs f), .bool (nextB xs)]) ∧ w' = w := by
  have HH := toHid h
  have HX := toHid HXS
  have HOK := toHid hok
  have c0 := h.at
  have hn := hok.n1
  clear h HXS hok
  obtain ⟨vi, hvi⟩ : ∃ vi, nextI xs f = vi := ⟨_, rfl⟩
  obtain ⟨vb, hvb⟩ : ∃ vb, nextB xs = vb := ⟨_, rfl⟩
  rw [hvi, hvb]
  have HVI := toHid hvi
  have HVB := toHid hvb
  clear hvi hvb
  go_enter Tryd.func14, Tryd.ntmps14
  go_wp2_with fail
  go_loop [6] (fun i => ∃ v : Int, i = .int .i64 v ∧ f ≤ v ∧ (v = f ∨ (0 ≤ f ∧ v ≤ (n : Int))) ∧ ∀ j : Nat, f ≤ (j : Int) → (j : Int) < v → x.testBit j = false) (fun i => 64 - (intOf i).toNat)
  case atStart => exact ⟨f, rfl, Int.le_refl _, .inl rfl, fun j h1 h2 => by omega⟩
  case round =>
    obtain ⟨v, rfl, hfv, hor, hall⟩ := hrel
    have HA := toHid hall
    have hmy := rmay_any v w HH.out
    clear hall
    cases hm : mayB n v with
    | true =>
      rw [hm] at hmy
      obtain ⟨k, rfl, hk⟩ := may_nat hm
      obtain ⟨c1, _⟩ := HH.out.bit k (by omega)
      have i0 : (0 : Int) ≤ (k : Int) := by omega
      have i1 : (k : Int) < 64 := by omega
      cases hb : x.testBit k with
      | true =>
        rw [hb] at c1
        obtain ⟨e1, e2⟩ := nextI_at HX.out (by omega) hb hfv (fun j h1 h2 => HA.out j h1 (by omega))
        have e3 : vi = (k : Int) := HVI.out.symm.trans e1
        have e4 : vb = true := HVB.out.symm.trans e2
        subst e3 e4
        clear hb e1 e2 HVI HVB
        go_wp2_with fail
        refine hmy.mono ?_
        rintro e w' ⟨rfl, hw⟩
        have hw' := hw.symm
        subst hw'
        clear hw
        go_wp2
        go_ret2
        exact ⟨rfl, rfl⟩
      | false =>
        rw [hb] at c1
        have HA1 : Hid (∀ j : Nat, f ≤ (j : Int) → (j : Int) < (k : Int) + 1 → x.testBit j = false) := fun j h1 h2 => by
          by_cases e : j = k
          · subst e; exact hb
          · exact HA.out j h1 (by omega)
        clear hb HA
        go_wp2_with fail
        refine hmy.mono ?_
        rintro e w' ⟨rfl, hw⟩
        have hw' := hw.symm
        subst hw'
        clear hw
        go_wp2
        go_round
        case rel => exact ⟨(k : Int) + 1, by go_num, by omega, by omega, HA1.out⟩
        case measure => simp [intOf]; omega
    | false =>
      rw [hm] at hmy
      have HW : Hid (nextI xs f = ((xs.headD 0 : Nat) : Int)) := by
        refine nextI_round HX.out ?_
        by_cases hf0 : f < 0
        · exact .inl hf0
        · refine .inr (fun j h1 h2 => ?_)
          by_cases hj : (j : Int) < v
          · exact HA.out j h1 hj
          · have : n ≤ j := by
              unfold mayB at hm
              simp at hm
              have := hm (by omega)
              omega
            exact HOK.out.hi j this
      clear HA
      go_wp2_with fail
      refine hmy.mono ?_
      rintro e w' ⟨rfl, hw⟩
      have hw' := hw.symm
      subst hw'
      clear hw hm hmy
      go_wp2_with fail
      go_loop [7] (fun i => ∃ k : Nat, k ≤ n ∧ i = .int .i64 k ∧ ∀ j : Nat, j < k → x.testBit j = false) (fun i => 64 - (intOf i).toNat)
      case atStart => exact ⟨0, Nat.zero_le _, rfl, fun j hj => by omega⟩
      case round =>
        obtain ⟨k, hk, rfl, hall⟩ := hrel
        have HA := toHid hall
        clear hall
        by_cases hlt : k < n
        · obtain ⟨c1, _⟩ := HH.out.bit k (by omega)
          have i0 : (0 : Int) ≤ (k : Int) := by omega
          have i1 : (k : Int) < 64 := by omega
          have g1 : decide ((k : Int) < (n : Int)) = true := decide_eq_true (by omega)
          cases hb : x.testBit k with
          | true =>
            rw [hb] at c1
            obtain ⟨e1, e2⟩ := head_at HX.out (by omega) hb HA.out
            have e3 : vi = (k : Int) := HVI.out.symm.trans (HW.out.trans (by rw [e1]))
            have e4 : vb = true := HVB.out.symm.trans e2
            subst e3 e4
            clear hb e1 e2 HVI HVB HW
            go_wp2
            go_ret2
            exact ⟨rfl, rfl⟩
          | false =>
            rw [hb] at c1
            have HA1 : Hid (∀ j : Nat, j < k + 1 → x.testBit j = false) := fun j h2 => by
              by_cases e : j = k
              · subst e; exact hb
              · exact HA.out j (by omega)
            clear hb HA
            go_wp2
            go_round
            case rel => exact ⟨k + 1, by omega, by go_num, HA1.out⟩
            case measure => simp [intOf]; omega
        · have g1 : decide ((k : Int) < (n : Int)) = false := decide_eq_false (by omega)
          have e0 : xs = [] := none_at HX.out (fun j hj => by
            by_cases q : j < n
            · exact HA.out j (by omega)
            · exact HOK.out.hi j (by omega))
          have e3 : vi = 0 := HVI.out.symm.trans (HW.out.trans (by rw [e0]; rfl))
          have e4 : vb = false := HVB.out.symm.trans (by rw [e0]; rfl)
          subst e3 e4
          clear e0 HVI HVB HW HA
          go_wp2
          go_ret2
          exact ⟨rfl, rfl⟩
end Go.Proofs.YtlfecjgmmhbanaaDoor.S4
