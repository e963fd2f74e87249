/-
All numbers of a set, rising: the iterator (All and its function), held against the list of them.
The function that All hands back: for every loop's body, all numbers in their order, or as many as the body asked for.
Next of a set: the least number from one on, going round.
-/
import Derived.Test.YtjegaljdindfaabGreatDoorQBits
import Derived.RangeFuncNested
import Derived.RangeFuncBound
import Derived.RangeFuncCalls
import Derived.RangeFuncLeaves
import Derived.Shelf.Abstract
import Derived.Shelf.RegionOpen
import Derived.OwnWalkIn
import Derived.TacticsInMore
import Derived.LoopNIn
import Derived.LoopIn
namespace Go.Proofs.YtjegaljdindfaabGreatDoor.S4
open Go.RowKit Go.Shelf
attribute [local go_sem ↓] Go.wp_at_zero Go.wp_at_succ

/- The numbers below k that are in, rising. -/
def elemsTo (x : Nat) : Nat → List Nat
  | 0 => []
  | k + 1 => elemsTo x k ++ if x.testBit k then [k] else []

def elems (x : Nat) : List Nat := elemsTo x 64

theorem elemsTo_len (x k : Nat) : (elemsTo x k).length = cnt x k := by
  induction k with
  | zero => rfl
  | succ k ih =>
    show (elemsTo x k ++ _).length = cnt x k + _
    rw [List.length_append, ih]
    split <;> rfl

theorem elemsTo_zero (k : Nat) : elemsTo 0 k = [] := by
  induction k with
  | zero => rfl
  | succ k ih => show elemsTo 0 k ++ _ = []; rw [ih]; simp

theorem elemsTo_mem (x k j : Nat) : j ∈ elemsTo x k ↔ j < k ∧ x.testBit j = true := by
  induction k with
  | zero => simp [elemsTo]
  | succ k ih =>
    show j ∈ elemsTo x k ++ _ ↔ _
    rw [List.mem_append, ih]
    by_cases h : x.testBit k = true
    · rw [if_pos h, List.mem_singleton]
      constructor
      · rintro (⟨h1, h2⟩ | rfl)
        · exact ⟨by omega, h2⟩
        · exact ⟨by omega, h⟩
      · rintro ⟨h1, h2⟩
        by_cases e : j = k
        · exact .inr e
        · exact .inl ⟨by omega, h2⟩
    · rw [if_neg h]
      constructor
      · rintro (⟨h1, h2⟩ | h1)
        · exact ⟨by omega, h2⟩
        · cases h1
      · rintro ⟨h1, h2⟩
        by_cases e : j = k
        · subst e; exact absurd h2 h
        · exact .inl ⟨by omega, h2⟩

theorem elemsTo_rise (x k : Nat) : List.Pairwise (· < ·) (elemsTo x k) := by
  induction k with
  | zero => exact List.Pairwise.nil
  | succ k ih =>
    show List.Pairwise (· < ·) (elemsTo x k ++ _)
    rw [List.pairwise_append]
    refine ⟨ih, ?_, ?_⟩
    · split
      · exact List.pairwise_singleton _ _
      · exact List.Pairwise.nil
    · intro a ha b hb
      have h1 := ((elemsTo_mem x k a).1 ha).1
      split at hb
      · rw [List.mem_singleton] at hb; omega
      · cases hb

/- The lowest one, and what is left without it. -/
theorem low_parts (x : Nat) (h0 : x ≠ 0) (hx : x < 18446744073709551616) : ∃ m, x = 2 ^ Lib.ctz 64 x * (2 * m + 1) ∧ Lib.ctz 64 x < 64 := by
  have := Lib.ctzFrom_spec 64 x (by omega) hx
  unfold Lib.ctz
  rw [if_neg h0]
  exact this

theorem low_bit (c m j : Nat) : (2 ^ c * (2 * m + 1)).testBit j = (decide (c ≤ j) && (2 * m + 1).testBit (j - c)) := Nat.testBit_two_pow_mul ..

theorem rest_bit (c m j : Nat) : ((2 ^ c * (2 * m + 1)) &&& (2 ^ c * (2 * m + 1) - 1)).testBit j = ((2 ^ c * (2 * m + 1)).testBit j && decide (j ≠ c)) := by
  have hp : 0 < 2 ^ c := Nat.pow_pos (by decide)
  have e : 2 ^ c * (2 * m + 1) - 1 = 2 ^ c * (2 * m) + (2 ^ c - 1) := by
    rw [Nat.mul_add, Nat.mul_one]; omega
  rw [Nat.testBit_and, e, Nat.testBit_two_pow_mul_add _ (by omega), low_bit]
  by_cases h : j < c
  · simp [show ¬ c ≤ j by omega]
  · rw [if_neg h]
    have h1 : decide (c ≤ j) = true := decide_eq_true (by omega)
    rw [h1, Bool.true_and]
    by_cases hj : j = c
    · subst hj
      simp [Nat.testBit_zero]
    · obtain ⟨k, hk⟩ : ∃ k, j - c = k + 1 := ⟨j - c - 1, by omega⟩
      rw [hk, Nat.testBit_succ, Nat.testBit_succ, show (2 * m + 1) / 2 = m by omega, show 2 * m / 2 = m by omega]
      simp [hj]

theorem elems_step (x : Nat) (h0 : x ≠ 0) (hx : x < 18446744073709551616) : elems x = Lib.ctz 64 x :: elems (x &&& (x - 1)) ∧ (x &&& (x - 1)) < x ∧ Lib.ctz 64 x < 64 := by
  obtain ⟨m, e, hc⟩ := low_parts x h0 hx
  generalize Lib.ctz 64 x = c at e hc
  refine ⟨?_, Nat.lt_of_le_of_lt Nat.and_le_right (by omega), hc⟩
  have hb : ∀ j, j < c → x.testBit j = false := fun j hj => by rw [e, low_bit]; simp [show ¬ c ≤ j by omega]
  have hcb : x.testBit c = true := by rw [e, low_bit]; simp [Nat.testBit_zero]
  have hr : ∀ j, (x &&& (x - 1)).testBit j = (x.testBit j && decide (j ≠ c)) := fun j => by
    rw [e]; exact rest_bit c m j
  generalize x &&& (x - 1) = y at hr
  have z1 : ∀ k, k ≤ c → elemsTo x k = [] ∧ elemsTo y k = [] := by
    intro k
    induction k with
    | zero => intro _; exact ⟨rfl, rfl⟩
    | succ k ih =>
      intro hk
      obtain ⟨i1, i2⟩ := ih (by omega)
      have b1 := hb k (by omega)
      have b2 : y.testBit k = false := by rw [hr, b1]; rfl
      refine ⟨?_, ?_⟩
      · show elemsTo x k ++ _ = []; rw [i1, b1]; rfl
      · show elemsTo y k ++ _ = []; rw [i2, b2]; rfl
  have z2 : ∀ k, elemsTo x (c + 1 + k) = c :: elemsTo y (c + 1 + k) := by
    intro k
    induction k with
    | zero =>
      obtain ⟨i1, i2⟩ := z1 c (Nat.le_refl _)
      have b2 : y.testBit c = false := by rw [hr]; simp
      show elemsTo x c ++ _ = c :: (elemsTo y c ++ _)
      rw [i1, i2, hcb, b2]; rfl
    | succ k ih =>
      have es : ∀ z, elemsTo z (c + 1 + (k + 1)) = elemsTo z (c + 1 + k) ++ if z.testBit (c + 1 + k) then [c + 1 + k] else [] := fun z => rfl
      have : decide (c + 1 + k ≠ c) = true := decide_eq_true (by omega)
      rw [es, es, ih, hr, List.cons_append, this, Bool.and_true]
  have := z2 (63 - c)
  rw [show c + 1 + (63 - c) = 64 by omega] at this
  exact this

theorem elems_zero : elems 0 = [] := elemsTo_zero 64

/- The table of Go's library, in its variable. -/
def Tab (w : World) : Prop := ∀ j, j < Lib.deBruijn64tab.length → w.cell? ⟨0, j, none⟩ = some (.int .u8 (Lib.deBruijn64tab.getD j 0 : Nat))

theorem tz_key (x a : Nat) (hx : x < 18446744073709551616) (hx0 : x ≠ 0) (hlow : x &&& (18446744073709551616 - x) = a) :
    IntKind.u64.wrap (bits BinOp.and IntKind.u64 (x : Int) (IntKind.u64.wrap (-(x : Int))) * 285870213051353865) / 288230376151711744 = ((a * 285870213051353865 % 18446744073709551616 / 288230376151711744 : Nat) : Int) := by
  have e1 : IntKind.u64.wrap (-(x : Int)) = ((18446744073709551616 - x : Nat) : Int) := by rw [IntKind.wrap_u64]; omega
  rw [e1, bits_and_u64_nat x _ hx (by omega), hlow, IntKind.wrap_u64]
  omega

set_option maxRecDepth 100000 in
set_option maxHeartbeats 1000000 in
theorem tz_core (x k idx : Nat) (w : World) (hx0 : ((x : Int) == 0) = false)
    (key : IntKind.u64.wrap (bits BinOp.and IntKind.u64 (x : Int) (IntKind.u64.wrap (-(x : Int))) * 285870213051353865) / 288230376151711744 = (idx : Int))
    (hi : idx < 64) (hk : k < 64) (hcell : w.cell? ⟨0, idx, none⟩ = some (.int .u8 (k : Int))) :
    Calls Tryz.prog 179 #[.int .u64 (x : Int)] w fun e w' => e = .returned (.int .i64 (k : Int)) ∧ w' = w := by
  go_enter Tryz.func179, Tryz.ntmps179
  go_wp2_with (simp only [key])
  go_ret
  exact ⟨rfl, rfl⟩

theorem tz_any (x : Nat) (w : World) (h0 : x ≠ 0) (hx : x < 18446744073709551616) (hT : Tab w) :
    Calls Tryz.prog 179 #[.int .u64 (x : Int)] w fun e w' => e = .returned (.int .i64 ((Lib.ctz 64 x : Nat) : Int)) ∧ w' = w := by
  obtain ⟨hlow, hk⟩ := Lib.lowest_bit 64 x h0 hx
  obtain ⟨hi, htab⟩ := Lib.deBruijn64_at _ hk
  have hcell := hT _ hi
  rw [htab] at hcell
  exact tz_core x _ _ w (by simp; omega) (tz_key x _ hx h0 hlow) hi hk hcell

set_option maxRecDepth 100000 in
set_option maxHeartbeats 400000 in
theorem sall_any {p n x : Nat} (w : World) (h : IsSet w p n x) :
    Calls Tryz.prog 156 #[.pointer (some ⟨p, 0, none⟩)] w fun e w' => e = .returned (.func (.func 178) #[] #[.pointer (some ⟨w.heap.size, 0, none⟩)]) ∧ w' = w.alloc (.cells #[.int .u64 (x : Int)] 184) := by
  have hmf : ∀ (fn : Fn) (first cap : Array Value) (w : World), (Instr.makeFunc fn first cap).run Tryz.prog w = .ok (.func fn first cap) w := fun _ _ _ _ => rfl
  obtain ⟨c0, c1, fz⟩ := h.cells
  clear h
  go_enter Tryz.func156, Tryz.ntmps156
  go_wp2
  go_ret
  exact ⟨rfl, rfl⟩
end Go.Proofs.YtjegaljdindfaabGreatDoor.S4

namespace Go.Proofs.YtjegaljdindfaabGreatDoor.S4
open Go.RowKit Go.Shelf
attribute [local go_sem] Oper.semAt_some

/- What a round keeps of what the iterator reads. -/
def KeepTab (W W' : World) : Prop := Tab W → Tab W'

theorem and_down (v : Nat) (h0 : v ≠ 0) (hv : v < 18446744073709551616) : IntKind.u64.wrap ((v : Int) - 1) = ((v - 1 : Nat) : Int) ∧ bits .and .u64 (v : Int) ((v - 1 : Nat) : Int) = ((v &&& (v - 1) : Nat) : Int) := by
  refine ⟨?_, bits_and_u64_nat _ _ hv (by omega)⟩
  rw [IntKind.wrap_u64]; omega

theorem nodepth {n : Nat} : Fence.wide.depth.isSome = true → 1 ≤ n := fun h => by cases h

structure ElOf (v : Nat) (rest : List Nat) : Prop where
  eq : rest = elems v

theorem ElOf.zero {rest : List Nat} (h : ElOf 0 rest) : rest = [] := h.eq.trans elems_zero
theorem ElOf.len {v : Nat} {rest : List Nat} (h : ElOf v rest) : rest.length ≤ 64 := by
  rw [h.eq]; unfold elems; rw [elemsTo_len]; exact cnt_le v 64
theorem ElOf.step {v : Nat} {rest : List Nat} (h : ElOf v rest) (h0 : v ≠ 0) (hv : v < 18446744073709551616) : ∃ r, rest = Lib.ctz 64 v :: r ∧ ElOf (v &&& (v - 1)) r ∧ (v &&& (v - 1)) < v := by
  obtain ⟨s1, s2, _⟩ := elems_step v h0 hv
  exact ⟨_, h.eq.trans s1, ⟨rfl⟩, s2⟩

set_option maxRecDepth 100000 in
set_option maxHeartbeats 2000000 in
theorem all1_in (n : Nat) (l Bn x : Nat) (xs : List Nat) (HXS : ElOf x xs) (hx : x < 18446744073709551616) (J Jx : List Nat → World → Prop)
    (hY : ∀ pre y W, J pre W → pre.length < 64 → YieldAt Fence.wide (n - 1) Tryz.prog l #[.int .i64 ((y : Nat) : Int)] W fun e W' =>
      (e = .returned (.bool true) ∧ J (pre ++ [y]) W' ∧ KeepTab W W') ∨ (e = .returned (.bool false) ∧ Jx (pre ++ [y]) W'))
    (W : World) (hBn : W.cell? ⟨Bn, 0, none⟩ = some (.int .u64 (x : Int))) (hT : Tab W) (h0 : J [] W) :
    CallsIn Fence.wide n Tryz.prog 178 #[.func (.yield l) #[] #[], .pointer (some ⟨Bn, 0, none⟩)] W fun e W' => (∃ v, e = .returned v) ∧
      ((∃ ys, ys = xs ∧ J ys W') ∨ (∃ pre, pre <+: xs ∧ Jx pre W')) := by
  have HT := toHid hT
  clear hT
  have HLE : Hid (xs.length ≤ 64) := HXS.len
  refine callsIn_of_wp Tryz.func178 rfl trivial ?_ rfl
  simp only [Tryz.ntmps178, List.size_toArray, List.length_cons, List.length_nil, Nat.reduceAdd, Nat.reduceSub, Array.replicate_succ, Array.replicate_zero, List.push_toArray, List.append_toArray, List.nil_append, List.cons_append]
  gi_wp2
  gi_loopw [3] (fun q wr => ∃ (pre rest : List Nat) (v : Nat), q = .int .u64 (v : Int) ∧ v < 18446744073709551616 ∧ xs = pre ++ rest ∧ ElOf v rest ∧ Tab wr ∧ J pre wr)
    (fun q wr => (intOf q).toNat)
  case atStart =>
    exact ⟨[], xs, x, rfl, hx, rfl, HXS, HT.out, h0⟩
  case round =>
    obtain ⟨pre, rest, v, rfl, hv, he, hr, hT, hJs⟩ := hrel
    have HT1 := toHid hT
    clear hT
    by_cases hv0 : v = 0
    · subst hv0
      have hr0 := hr.zero
      subst hr0
      have g0 : (((0 : Nat) : Int) != 0) = false := rfl
      gi_wp2
      go_end0
      exact ⟨⟨_, rfl⟩, .inl ⟨pre, by simp [he], hJs⟩⟩
    · have g0 : ((v : Int) != 0) = true := by simp; omega
      obtain ⟨r, s1, s3, s2⟩ := hr.step hv0 hv
      obtain ⟨d1, d2⟩ := and_down v hv0 hv
      have HTZ := toHid (tz_any v wr hv0 hv HT1.out)
      generalize Lib.ctz 64 v = c at s1 HTZ
      subst s1
      have hlen : pre.length < 64 := by have := HLE.out; rw [he] at this; simp at this; omega
      have hY1 := hY pre c wr hJs hlen
      obtain ⟨fn, tmps, assign, body, hy, hR⟩ := hY1
      have HE := toHid he
      clear he
      generalize v &&& (v - 1) = v2 at s2 s3 d2
      have h2 : v2 < 18446744073709551616 := by omega
      generalize v - 1 = v1 at d1 d2
      gi_wp2_with fail
      refine ⟨trivial, nodepth, (callsIn_wide.2 HTZ.out).mono ?_⟩
      rintro e w' ⟨rfl, hw⟩
      have hw' := hw.symm
      subst hw'
      clear hw
      gi_wp2_with fail
      refine ⟨nodepth, hR.mono ?_⟩
      rintro e W3 (⟨rfl, hJ3, hk3⟩ | ⟨rfl, hJx3⟩)
      · have HT3 := toHid (hk3 HT1.out)
        clear hk3
        gi_wp2
        go_roundw
        case rel => exact ⟨pre ++ [c], r, v2, rfl, h2, by simp [HE.out], s3, HT3.out, hJ3⟩
        case measure => simp [intOf]; omega
      · gi_wp2
        refine bodyPost_ret (results_none rfl _ _ _) rfl ?_
        exact ⟨⟨_, rfl⟩, .inr ⟨pre ++ [c], ⟨r, by simp [HE.out]⟩, hJx3⟩⟩

/- The function value that All hands back. -/
theorem all_stops (n : Nat) (Bn x : Nat) (xs : List Nat) (HXS : ElOf x xs) (hx : x < 18446744073709551616) (w : World) (hBn : w.cell? ⟨Bn, 0, none⟩ = some (.int .u64 (x : Int))) (hT : Tab w) :
    SeqStopsK Fence.wide n Tryz.prog 178 #[.pointer (some ⟨Bn, 0, none⟩)] (fun y : Nat => #[Value.int .i64 (y : Int)]) KeepTab (fun ys => ys = xs) (fun pre => pre <+: xs) 64 w := fun l J Jx W hW _ _ hY h0 =>
  all1_in n l Bn x xs HXS hx J Jx hY W ((hW.cell (p := ⟨Bn, 0, none⟩) (World.block_lt_of_cell? w _ hBn)).trans hBn) (fun j hj => (hW.cell (p := ⟨0, j, none⟩) (World.block_lt_of_cell? w _ (hT j hj))).trans (hT j hj)) h0

theorem keepTab_t {A B C : World} (h : KeepTab A B) (k : KeepTab B C) : KeepTab A C := fun t => k (h t)

theorem keepTab_b (W : World) (l : Nat) (o o' : Obj) (h : W.heap[l]? = some o) (hc : o.isCells = false) : KeepTab W (W.putObj l o') := fun t j hj => by
  have ht := t j hj
  have hne : (0 : Nat) ≠ l := fun e => by
    subst e
    unfold World.cell? at ht
    rw [h] at ht
    cases o <;> simp [Obj.isCells] at hc ht
  have e : (W.putObj l o').heap[0]? = W.heap[0]? := World.putObj_heap_other hne
  exact (World.cell?_of_block e).trans ht
end Go.Proofs.YtjegaljdindfaabGreatDoor.S4

namespace Go.Proofs.YtjegaljdindfaabGreatDoor.S4
open Go.RowKit Go.Shelf
attribute [local go_sem] Oper.semAt_some

/- What turns no cells leaves a box as it is. -/
theorem boxed_grown {W W' : World} {row : Option Nat} {B D : Nat} {t : TypeId} {v : Value} (h : Boxed W B t v) (hg : W.grownBy W' row) (hr : ∀ r, row = some r → D ≤ r ∧ ∃ o : Obj, W.heap[r]? = some o ∧ o.isCells = false) : Boxed W' B t v :=
  h.kept hg (fun e => by
    obtain ⟨_, o, ho, hc⟩ := hr B e.symm
    rw [show W.heap[B]? = _ from h] at ho; cases ho; cases hc)

theorem Tab.below {w W : World} {n : Nat} (h : Tab w) (hb : Below n w W) (h0 : 0 < n) : Tab W := fun j hj => (hb.cell (p := ⟨0, j, none⟩) h0).trans (h j hj)

def nextI (xs : List Nat) (from_ : Int) : Int := match xs.find? (fun k : Nat => decide (from_ ≤ (k : Int))) with
  | some k => (k : Int)
  | none => ((xs.headD 0 : Nat) : Int)
def nextB (xs : List Nat) : Bool := !xs.isEmpty

theorem nextI_hit {xs pre : List Nat} {y : Nat} {from_ : Int} (h : pre ++ [y] <+: xs) (h1 : ∀ z ∈ pre, (z : Int) < from_) (h2 : from_ ≤ (y : Int)) : nextI xs from_ = (y : Int) ∧ nextB xs = true := by
  obtain ⟨r, rfl⟩ := h
  constructor
  · have : ((pre ++ [y]) ++ r).find? (fun k : Nat => decide (from_ ≤ (k : Int))) = some y := by
      rw [List.append_assoc, List.find?_append]
      rw [List.find?_eq_none.2 (fun z hz => by simpa using h1 z hz)]
      simp [h2]
    unfold nextI; rw [this]
  · unfold nextB; cases pre <;> simp

theorem nextI_miss {xs : List Nat} {from_ : Int} (h1 : ∀ z ∈ xs, (z : Int) < from_) : nextI xs from_ = ((xs.headD 0 : Nat) : Int) := by
  unfold nextI
  rw [List.find?_eq_none.2 (fun z hz => by simpa using h1 z hz)]

/- The marks that loops over functions leave are taken up at the return. -/
theorem kept_putObj (W : World) (D : Nat) (o : Obj) : Kept (fun k => k = D) W (W.putObj D o) :=
  ⟨rfl, rfl, rfl, by simp, fun k _ hs => World.putObj_heap_other hs⟩

theorem leave_marks {P : Program} {fn : Func} {tmps : Array Value} {R : Ending → World → Prop} {n : Nat} : ∀ (ds : List Nat) (W : World), (∀ D ∈ ds, W.heap[D]? = some (.deferred (some []))) → ds.Nodup →
    (∀ W', Kept (fun k => k ∈ ds) W W' → LeavesInM Fence.wide n P fn tmps R [] .returning W') →
    LeavesInM Fence.wide n P fn tmps R (ds.map fun D => { target := .collected D, args := #[] }) .returning W
  | [], W, _, _, hfin => hfin W (Kept.refl _ W)
  | D :: ds, W, hall, hnd, hfin => by
    refine ⟨by simp, .inl ⟨D, _, rfl, run_takeDeferred (hall D (by simp)), ?_⟩⟩
    rw [List.nodup_cons] at hnd
    refine leave_marks ds _ (fun D' hD' => ?_) hnd.2 (fun W' hk => hfin W' ?_)
    · have hne : D' ≠ D := fun e => hnd.1 (by rw [← e]; exact hD')
      rw [World.putObj_heap_other hne]; exact hall D' (by simp [hD'])
    · exact ((kept_putObj W D _).mono (fun k _ e => by simp [show k = D from e])).trans (hk.mono (fun k _ e => List.mem_cons_of_mem _ e))

theorem mark_kept {W W' : World} {B D : Nat} {row : Option Nat} (h : W.heap[D]? = some (.deferred (some []))) (hD : D < B) (hg : W.grownBy W' row) (hr : ∀ r, row = some r → B ≤ r ∧ ∃ o : Obj, W.heap[r]? = some o ∧ o.isCells = false) : W'.heap[D]? = some (.deferred (some [])) :=
  (hg.block D (lt_of_some h) (fun e => by have := (hr D e.symm).1; omega)).trans h

theorem mark_set {W : World} {D b o : Nat} {v : Value} (h : W.heap[D]? = some (.deferred (some []))) (hne : D ≠ b) : (W.setCell ⟨b, o, none⟩ v).heap[D]? = some (.deferred (some [])) :=
  (heap_setCell_other W ⟨b, o, none⟩ D v hne).trans h

/- The variables of Next, each in a block of its own. -/
structure NxI (w W : World) (B : Nat) (f v : Int) (b : Bool) : Prop where
  b0 : Boxed W B 3 (.int .i64 f)
  b1 : Boxed W (B + 1) 3 (.int .i64 v)
  b2 : Boxed W (B + 1 + 1) 4 (.bool b)
  bel : Below w.heap.size w W

theorem NxI.own {w W W' : World} {B D : Nat} {f v : Int} {b : Bool} {row : Option Nat} (h : NxI w W B f v b) (hD : w.heap.size ≤ D) (hg : W.grownBy W' row) (hr : ∀ r, row = some r → D ≤ r ∧ ∃ o : Obj, W.heap[r]? = some o ∧ o.isCells = false) : NxI w W' B f v b :=
  ⟨boxed_grown h.b0 hg hr, boxed_grown h.b1 hg hr, boxed_grown h.b2 hg hr, h.bel.grown hg h.bel.size (fun k e => Nat.le_trans hD (hr k e).1)⟩

theorem NxI.alloc {w W : World} {B : Nat} {f v : Int} {b : Bool} (h : NxI w W B f v b) (o : Obj) : NxI w (W.alloc o) B f v b := ⟨h.b0.alloc o, h.b1.alloc o, h.b2.alloc o, h.bel.alloc h.bel.size o⟩

theorem NxI.put {w W : World} {B : Nat} {f v : Int} {b : Bool} (h : NxI w W B f v b) (hB : w.heap.size ≤ B) (v' : Int) (b' : Bool) : NxI w ((W.setCell ⟨B + 1, 0, none⟩ (.int .i64 v')).setCell ⟨B + 1 + 1, 0, none⟩ (.bool b')) B f v' b' :=
  ⟨(h.b0.other (by omega) _).other (by omega) _, (h.b1.set _).other (by omega) _, (h.b2.other (by omega) _).set _, (h.bel.setCell (p := ⟨B + 1, 0, none⟩) (show w.heap.size ≤ B + 1 by omega) _).setCell (p := ⟨B + 1 + 1, 0, none⟩) (show w.heap.size ≤ B + 1 + 1 by omega) _⟩

theorem NxI.kept {w W W' : World} {B : Nat} {f v : Int} {b : Bool} {S : Nat → Prop} (h : NxI w W B f v b) (hk : Kept S W W') (hS : ∀ k, S k → B + 1 + 1 < k ∧ w.heap.size ≤ k) : NxI w W' B f v b :=
  ⟨(hk.block _ h.b0.lt (fun s => by have := hS _ s; omega)).trans h.b0, (hk.block _ h.b1.lt (fun s => by have := hS _ s; omega)).trans h.b1, (hk.block _ h.b2.lt (fun s => by have := hS _ s; omega)).trans h.b2, h.bel.trans (hk.below h.bel.size (fun k s => (hS k s).2))⟩

/- At the return: what stands in the two cells is handed back. -/
theorem next_leave {w W : World} {f v v' : Int} {b b' : Bool} (tmps : Array Value) (t4 : tmps.getD 4 undef = .pointer (some ⟨w.heap.size + 1, 0, none⟩)) (t5 : tmps.getD 5 undef = .pointer (some ⟨w.heap.size + 1 + 1, 0, none⟩)) (h : NxI w W w.heap.size f v b) (ev : v' = v) (eb : b' = b) :
    LeavesInM Fence.wide 9 Tryz.prog Tryz.f113 tmps (fun e w' => e = .returned (.tuple #[.int .i64 v', .bool b']) ∧ Below w.heap.size w w') [] .returning W := by
  subst ev eb
  have c1 := h.b1.cell
  have c2 := h.b2.cell
  refine ⟨.tuple #[.int .i64 v', .bool b'], ?_, rfl, h.bel⟩
  have t4' : tmps[4]?.getD undef = .pointer (some ⟨w.heap.size + 1, 0, none⟩) := by simpa using t4
  have t5' : tmps[5]?.getD undef = .pointer (some ⟨w.heap.size + 1 + 1, 0, none⟩) := by simpa using t5
  simp [results, Tryz.f113, go_sem, c1, c2, t4', t5']

set_option maxRecDepth 100000 in
set_option maxHeartbeats 2000000 in
theorem snext_any {p n x : Nat} (xs : List Nat) (HXS : ElOf x xs) (f : Int) (w : World) (h : IsSet w p n x) (hok : SetOk n x) (hT : Tab w) :
    Calls Tryz.prog 113 #[.pointer (some ⟨p, 0, none⟩), .int .i64 f] w fun e w' => e = .returned (.tuple #[.int .i64 (nextI xs f), .bool (nextB xs)]) ∧ Below w.heap.size w w' := by
  have HS := toHid h
  have HT := toHid hT
  have hx := hok.lt
  have hw0 : 0 < w.heap.size := World.block_lt_of_cell? w _ (hT 0 (by decide))
  have HX := toHid HXS
  clear h hT hok HXS
  refine (callsIn_wide (n := 9)).1 ?_
  refine callsIn_of_wp_marks Tryz.func113 rfl trivial ?_ rfl
  simp only [Tryz.ntmps113, List.size_toArray, List.length_cons, List.length_nil, Nat.reduceAdd, Nat.reduceSub, Array.replicate_succ, Array.replicate_zero, List.push_toArray, List.append_toArray, List.nil_append, List.cons_append]
  have hs3 : (((w.alloc (.cells #[.int .i64 f] 3)).alloc (.cells #[.int .i64 0] 3)).alloc (.cells #[.bool false] 4)).heap.size = w.heap.size + 3 := by simp
  have HN3 : Hid (NxI w (((w.alloc (.cells #[.int .i64 f] 3)).alloc (.cells #[.int .i64 0] 3)).alloc (.cells #[.bool false] 4)) w.heap.size f 0 false) := by
    refine ⟨((Boxed.new w _ _).alloc _).alloc _, ?_, ?_, (((Below.refl _ w).alloc (Nat.le_refl _) _).alloc (by simp) _).alloc (by simp; omega) _⟩
    · have := (Boxed.new (w.alloc (.cells #[.int .i64 f] 3)) 3 (.int .i64 0)).alloc (.cells #[.bool false] 4)
      rw [World.size_alloc] at this; exact this
    · have := Boxed.new ((w.alloc (.cells #[.int .i64 f] 3)).alloc (.cells #[.int .i64 0] 3)) 4 (.bool false)
      rw [World.size_alloc, World.size_alloc] at this; exact this
  gi_wp2_with fail
  generalize ((w.alloc (.cells #[.int .i64 f] 3)).alloc (.cells #[.int .i64 0] 3)).alloc (.cells #[.bool false] 4) = W3 at hs3 HN3 ⊢
  refine ⟨trivial, (callsIn_wide.2 (sall_any _ (HS.out.below HN3.out.bel))).mono ?_⟩
  rintro e w' ⟨rfl, hw⟩
  subst hw
  have HN4 := toHid (HN3.out.alloc (.cells #[.int .u64 (x : Int)] 184))
  have hs4 : Hid ((W3.alloc (.cells #[.int .u64 (x : Int)] 184)).heap.size = w.heap.size + 4) := by unfold Hid; simp; omega
  have hB3 : (W3.alloc (.cells #[.int .u64 (x : Int)] 184)).cell? ⟨W3.heap.size, 0, none⟩ = some (.int .u64 (x : Int)) := (Boxed.new W3 _ _).cell
  rw [hs3] at hB3
  gi_wp2_with fail
  generalize W3.alloc (.cells #[.int .u64 (x : Int)] 184) = W4 at hs4 HN4 hB3 ⊢
  clear HN3 hs3
  refine wpIn_rangeFunc_ownG rfl (by omega) (gf := 178) (lb := #[.pointer (some ⟨w.heap.size + 3, 0, none⟩)]) rfl trivial (enters_of Tryz.func178 (by kernel_rfl) rfl)
    (all_stops 8 (w.heap.size + 3) x xs HX.out hx W4 hB3 (HT.out.below HN4.out.bel hw0)) keepTab_t (fun W l o o' _ h hc _ => keepTab_b W l o o' h hc) (Below.refl _ _) (fun _ => rfl)
    (fun pre W => (∀ z ∈ pre, ((z : Nat) : Int) < f) ∧ NxI w W w.heap.size f 0 false)
    (fun c pre W => c = .ret ∧ ∃ (pre' : List Nat) (y : Nat), pre = pre' ++ [y] ∧ (∀ z ∈ pre', ((z : Nat) : Int) < f) ∧ f ≤ (y : Int) ∧ NxI w W w.heap.size f y true)
    (fun s A B row hs hg hr => ⟨hs.1, hs.2.own (by have := hs4.out; omega) hg hr⟩)
    (fun c s A B row hs hg hr => by
      obtain ⟨h1, pre', y, h2, h3, h4, h5⟩ := hs
      exact ⟨h1, pre', y, h2, h3, h4, h5.own (by have := hs4.out; omega) hg hr⟩)
    ⟨fun _ h => (by cases h), HN4.out⟩
    (fun y => { tmps := #[.pointer (some ⟨p, 0, none⟩), .int .i64 f, undef, .pointer (some ⟨w.heap.size, 0, none⟩), .pointer (some ⟨w.heap.size + 1, 0, none⟩), .pointer (some ⟨w.heap.size + 1 + 1, 0, none⟩), .int .i64 ((y : Nat) : Int), undef, .pointer (some ⟨p, 0, none⟩), .func (.func 178) #[] #[.pointer (some ⟨w.heap.size + 3, 0, none⟩)], .int .i64 ((y : Nat) : Int), undef, undef, undef, undef, undef, undef, undef, undef], defers := [] }) ?assign ?body ?done ?stop
  case assign =>
    intro l y W K hK
    gi_wp2
    exact hK
  case body =>
    rintro l pre y W ⟨hp, hn⟩ _
    have HN := toHid hn
    have c0 := hn.b0.cell
    have c1 := hn.b1.cell
    have c2 := hn.b2.cell
    have f1 := hn.b1.frozen
    have f2 := hn.b2.frozen
    clear hn
    by_cases hf : f ≤ (y : Int)
    · have g : decide (f ≤ (y : Int)) = true := decide_eq_true hf
      gi_wp2
      exact ⟨((KeepsOthers.setCell _ _ _).trans (KeepsOthers.setCell _ _ _)).from _, rfl, pre, y, rfl, hp, hf, HN.out.put (Nat.le_refl _) _ _⟩
    · have g : decide (f ≤ (y : Int)) = false := decide_eq_false hf
      gi_wp2
      exact ⟨KeepsFrom.refl _ _, fun t => t, fun z hz => (List.mem_append.1 hz).elim (hp z) (fun e => by rw [List.mem_singleton] at e; subst e; omega), HN.out⟩
  case stop =>
    rintro D c pre W hD hpre ⟨rfl, pre', y, rfl, h1, h2, hn⟩ hK
    obtain ⟨e1, e2⟩ := nextI_hit hpre h1 h2
    gi_wp2
    refine leave_marks [D] W (fun D' h => by rw [List.mem_singleton] at h; subst h; exact hK) (by simp) (fun W' hk => next_leave _ rfl rfl (hn.kept hk (fun k h => by rw [List.mem_singleton] at h; have := hs4.out; omega)) e1 e2)
  case done =>
    rintro D ys W hD hys ⟨hp, hn⟩ hK
    subst hys
    have HM := toHid (nextI_miss hp)
    have HN5 := toHid (hn.alloc (.cells #[.int .u64 (x : Int)] 184))
    have HS5 := toHid (sall_any W (HS.out.below hn.bel))
    have hK5 : Hid ((W.alloc (.cells #[.int .u64 (x : Int)] 184)).heap[D]? = some (.deferred (some []))) := (Below.heap_alloc W _ D (lt_of_some hK)).trans hK
    have hB5 : Hid ((W.alloc (.cells #[.int .u64 (x : Int)] 184)).cell? ⟨W.heap.size, 0, none⟩ = some (.int .u64 (x : Int))) := (Boxed.new W _ _).cell
    have hD5 : Hid (w.heap.size + 4 ≤ D ∧ D < (W.alloc (.cells #[.int .u64 (x : Int)] 184)).heap.size) := ⟨by have := hs4.out; omega, by have := lt_of_some hK; simp; omega⟩
    clear hp hn hK hD hB3 HN4 hs4
    gi_wp2_with fail
    refine ⟨trivial, (callsIn_wide.2 HS5.out).mono ?_⟩
    rintro e w' ⟨rfl, hw⟩
    subst hw
    clear HS5
    gi_wp2_with fail
    generalize W.alloc (.cells #[.int .u64 (x : Int)] 184) = W5 at HN5 hK5 hB5 hD5 ⊢
    generalize W.heap.size = B5 at hB5 ⊢
    refine wpIn_rangeFunc_ownG rfl (by omega) (gf := 178) (lb := #[.pointer (some ⟨B5, 0, none⟩)]) rfl trivial (enters_of Tryz.func178 (by kernel_rfl) rfl)
      (all_stops 8 B5 x ys HX.out hx W5 hB5.out (HT.out.below HN5.out.bel hw0)) keepTab_t (fun W l o o' _ h hc _ => keepTab_b W l o o' h hc) (Below.refl _ _) (fun _ => rfl)
      (fun pre W => pre = [] ∧ W.heap[D]? = some (.deferred (some [])) ∧ NxI w W w.heap.size f 0 false)
      (fun c pre W => c = .ret ∧ W.heap[D]? = some (.deferred (some [])) ∧ ∃ (y : Nat), pre = [y] ∧ NxI w W w.heap.size f y true)
      (fun s A B row hs hg hr => ⟨hs.1, mark_kept hs.2.1 hD5.out.2 hg hr, hs.2.2.own (by have := hD5.out; omega) hg hr⟩)
      (fun c s A B row hs hg hr => by
        obtain ⟨h1, h2, y, h3, h4⟩ := hs
        exact ⟨h1, mark_kept h2 hD5.out.2 hg hr, y, h3, h4.own (by have := hD5.out; omega) hg hr⟩)
      ⟨rfl, hK5.out, HN5.out⟩
      (fun y => { tmps := #[.pointer (some ⟨p, 0, none⟩), .int .i64 f, undef, .pointer (some ⟨w.heap.size, 0, none⟩), .pointer (some ⟨w.heap.size + 1, 0, none⟩), .pointer (some ⟨w.heap.size + 1 + 1, 0, none⟩), undef, .int .i64 ((y : Nat) : Int), .pointer (some ⟨p, 0, none⟩), .func (.func 178) #[] #[.pointer (some ⟨w.heap.size + 3, 0, none⟩)], undef, undef, undef, undef, undef, .pointer (some ⟨p, 0, none⟩), .func (.func 178) #[] #[.pointer (some ⟨B5, 0, none⟩)], .int .i64 ((y : Nat) : Int), undef], defers := [] }) ?assign2 ?body2 ?done2 ?stop2
    case assign2 =>
      intro l y W K hK
      gi_wp2
      exact hK
    case body2 =>
      rintro l pre y W ⟨rfl, hk, hn⟩ _
      have HN := toHid hn
      have HK := toHid hk
      have c1 := hn.b1.cell
      have c2 := hn.b2.cell
      have f1 := hn.b1.frozen
      have f2 := hn.b2.frozen
      clear hn hk
      gi_wp2
      exact ⟨((KeepsOthers.setCell _ _ _).trans (KeepsOthers.setCell _ _ _)).from _, rfl, mark_set (mark_set HK.out (by have := hD5.out; omega)) (by have := hD5.out; omega), y, rfl, HN.out.put (Nat.le_refl _) _ _⟩
    case stop2 =>
      rintro D2 c pre W hD2 hpre ⟨rfl, hk, y, rfl, hn⟩ hK2
      have e1 : ys.headD 0 = y ∧ nextB ys = true := by
        obtain ⟨r, rfl⟩ := hpre
        exact ⟨rfl, rfl⟩
      gi_wp2
      refine leave_marks [D2, D] W (fun D' h => by
        simp at h
        rcases h with rfl | rfl
        · exact hK2
        · exact hk) (by have := hD5.out; simp; omega) (fun W' hk' => next_leave _ rfl rfl (hn.kept hk' (fun k h => by simp at h; have := hD5.out; omega)) (HM.out.trans (by rw [e1.1])) e1.2)
    case done2 =>
      rintro D2 zs W hD2 hzs ⟨h0, hk, hn⟩ hK2
      subst hzs
      subst h0
      have HN := toHid hn
      have HK := toHid hk
      have c1 := hn.b1.cell
      have c2 := hn.b2.cell
      have f1 := hn.b1.frozen
      have f2 := hn.b2.frozen
      have HK2 := toHid hK2
      clear hn hk hK2
      gi_wp2
      refine leave_marks [D2, D] _ (fun D' h => by
        simp at h
        rcases h with rfl | rfl
        · exact mark_set (mark_set HK2.out (by have := hD5.out; omega)) (by have := hD5.out; omega)
        · exact mark_set (mark_set HK.out (by have := hD5.out; omega)) (by have := hD5.out; omega)) (by have := hD5.out; simp; omega) (fun W' hk' => next_leave _ rfl rfl ((HN.out.put (Nat.le_refl _) 0 false).kept hk' (fun k h => by simp at h; have := hD5.out; omega)) HM.out rfl)
end Go.Proofs.YtjegaljdindfaabGreatDoor.S4
