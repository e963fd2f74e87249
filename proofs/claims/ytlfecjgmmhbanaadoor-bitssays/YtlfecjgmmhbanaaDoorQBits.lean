/-
A set of small numbers (package bits): how it lies in memory, and what each of its small calls gives.
-/
import Derived.Test.YtlfecjgmmhbanaaDoorQActs4
import Derived.Test.YtlfecjgmmhbanaaDoorQOnes4
import Derived.Laws.Bits64
import Derived.Laws.Bits64b
import Derived.Lib.TrailingZeros
namespace Go.Proofs.YtlfecjgmmhbanaaDoor.S4
open Go.RowKit
attribute [local go_sem ↓] Go.wp_at_zero Go.wp_at_succ

def IsSet (w : World) (p n x : Nat) : Prop := w.heap[p]? = some (.cells #[.int .i64 (n : Int), .int .u64 (x : Int)] 56 (0, 0))

/- What numbers it may have, and has. -/
structure SetOk (n x : Nat) : Prop where
  n1 : n ≤ 64
  hi : ∀ i, n ≤ i → x.testBit i = false

theorem SetOk.lt {n x : Nat} (h : SetOk n x) : x < 18446744073709551616 := by
  have : x < 2 ^ 64 := Nat.lt_pow_two_of_testBit x (fun i hi => h.hi i (Nat.le_trans h.n1 hi))
  exact this

theorem IsSet.cells {w : World} {p n x : Nat} (h : IsSet w p n x) : w.cell? ⟨p, 0, none⟩ = some (.int .i64 (n : Int)) ∧ w.cell? ⟨p, 1, none⟩ = some (.int .u64 (x : Int)) ∧ w.frozen? ⟨p, 1, none⟩ = false := by
  have h' : w.heap[p]? = _ := h
  refine ⟨?_, ?_, ?_⟩ <;> simp [World.cell?, World.frozen?, h']

theorem IsSet.below {w w' : World} {p n x : Nat} (h : IsSet w p n x) (hb : Below w.heap.size w w') : IsSet w' p n x := (hb.block p (lt_of_some h)).trans h
theorem IsSet.kept {w w' : World} {p n x : Nat} {S : Nat → Prop} (h : IsSet w p n x) (hk : Kept S w w') (hs : ¬ S p) : IsSet w' p n x := (hk.block p (lt_of_some h) hs).trans h
theorem IsSet.set {w : World} {p n x : Nat} (h : IsSet w p n x) (y : Nat) : IsSet (w.setCell ⟨p, 1, none⟩ (.int .u64 (y : Int))) p n y := by
  unfold IsSet
  rw [heap_setCell_same w p 1 _ _ _ h]
  rfl

theorem newB (w : World) (o : Obj) : (w.alloc o).heap[w.heap.size]? = some o := by
  show (w.heap.push o)[w.heap.size]? = some o
  simp

def mayB (n : Nat) (i : Int) : Bool := decide (0 ≤ i ∧ i < (n : Int))
def hasB (n x : Nat) (i : Int) : Bool := mayB n i && x.testBit i.toNat

set_option maxRecDepth 100000 in
set_option maxHeartbeats 400000 in
theorem snew_bad (n : Int) (w : World) (h : n < 0 ∨ 64 < n) :
    Calls Tryd.prog 10 #[.int .i64 n] w fun e w' => e = .returned (.tuple #[.pointer none, .iface 23 (.int .i64 1)]) ∧ w' = w := by
  by_cases h1 : n < 0
  · have g1 : decide (n < 0) = true := decide_eq_true h1
    go_enter Tryd.func10, Tryd.ntmps10
    go_wp2
    go_ret2
    exact ⟨rfl, rfl⟩
  · have g1 : decide (n < 0) = false := decide_eq_false h1
    have g2 : decide (64 < n) = true := decide_eq_true (by omega)
    go_enter Tryd.func10, Tryd.ntmps10
    go_wp2
    go_ret2
    exact ⟨rfl, rfl⟩

set_option maxRecDepth 100000 in
set_option maxHeartbeats 400000 in
theorem snew_good (n : Nat) (w : World) (h : n ≤ 64) :
    Calls Tryd.prog 10 #[.int .i64 (n : Int)] w fun e w' => e = .returned (.tuple #[.pointer (some ⟨w.heap.size, 0, none⟩), .nilIface]) ∧ IsSet w' w.heap.size n 0 ∧ Below w.heap.size w w' := by
  have g1 : decide ((n : Int) < 0) = false := decide_eq_false (by omega)
  have g2 : decide (64 < (n : Int)) = false := decide_eq_false (by omega)
  go_enter Tryd.func10, Tryd.ntmps10
  go_wp2
  go_ret2
  exact ⟨rfl, newB w _, (Below.refl _ w).alloc (Nat.le_refl _) _⟩

theorem set_start (n : Nat) (h : n ≤ 64) : SetOk n 0 := ⟨h, fun i _ => Nat.zero_testBit i⟩

set_option maxRecDepth 100000 in
set_option maxHeartbeats 400000 in
theorem ssize_any {p n x : Nat} (w : World) (h : IsSet w p n x) :
    Calls Tryd.prog 21 #[.pointer (some ⟨p, 0, none⟩)] w fun e w' => e = .returned (.int .i64 (n : Int)) ∧ w' = w := by
  obtain ⟨c0, c1, fz⟩ := h.cells
  clear h
  go_enter Tryd.func21, Tryd.ntmps21
  go_wp2
  go_ret
  exact ⟨rfl, rfl⟩

set_option maxRecDepth 100000 in
set_option maxHeartbeats 400000 in
theorem smay_any {p n x : Nat} (i : Int) (w : World) (h : IsSet w p n x) :
    Calls Tryd.prog 23 #[.pointer (some ⟨p, 0, none⟩), .int .i64 i] w fun e w' => e = .returned (.bool (mayB n i)) ∧ w' = w := by
  obtain ⟨c0, c1, fz⟩ := h.cells
  clear h
  by_cases h0 : 0 ≤ i
  · have g0 : decide (0 ≤ i) = true := decide_eq_true h0
    have HF : Hid (decide (i < (n : Int)) = mayB n i) := by unfold Hid mayB; simp [h0]
    go_enter Tryd.func23, Tryd.ntmps23
    go_wp2
    go_ret
    exact ⟨ret_lb HF.out, rfl⟩
  · have g0 : decide (0 ≤ i) = false := decide_eq_false h0
    have HF : Hid (false = mayB n i) := by unfold Hid mayB; simp [h0]
    go_enter Tryd.func23, Tryd.ntmps23
    go_wp2
    go_ret
    exact ⟨ret_lb HF.out, rfl⟩

theorem bit_word (x k : Nat) (hx : x < 18446744073709551616) : (bits BinOp.and .u64 ((x : Int) / 2 ^ k) 1 == 1) = x.testBit k := by
  have h1 : x / 2 ^ k < 18446744073709551616 := Nat.lt_of_le_of_lt (Nat.div_le_self _ _) hx
  have e1 : bits BinOp.and .u64 ((x / 2 ^ k : Nat) : Int) ((1 : Nat) : Int) = ((x / 2 ^ k &&& 1 : Nat) : Int) := bits_and_u64_nat _ 1 h1 (by decide)
  have e2 : ((x / 2 ^ k : Nat) : Int) = (x : Int) / 2 ^ k := by rw [Int.natCast_ediv, Int.natCast_pow]; rfl
  rw [← e2]
  show (bits BinOp.and .u64 ((x / 2 ^ k : Nat) : Int) ((1 : Nat) : Int) == 1) = _
  rw [e1, Nat.testBit_eq_decide_div_mod_eq, Nat.and_one_is_mod]
  rcases Nat.mod_two_eq_zero_or_one (x / 2 ^ k) with q | q <;> rw [q] <;> rfl

set_option maxRecDepth 100000 in
set_option maxHeartbeats 400000 in
theorem shas_any {p n x : Nat} (i : Int) (w : World) (h : IsSet w p n x) (hok : SetOk n x) :
    Calls Tryd.prog 19 #[.pointer (some ⟨p, 0, none⟩), .int .i64 i] w fun e w' => e = .returned (.bool (hasB n x i)) ∧ w' = w := by
  have h1 := smay_any i w h
  obtain ⟨c0, c1, fz⟩ := h.cells
  have hx := hok.lt
  have hn := hok.n1
  clear h hok
  cases hm : mayB n i with
  | false =>
    rw [hm] at h1
    have HF : Hid (false = hasB n x i) := by unfold Hid hasB; simp [hm]
    go_enter Tryd.func19, Tryd.ntmps19
    go_wp2_with fail
    refine h1.mono ?_
    rintro e w' ⟨rfl, hw⟩
    have hw' := hw.symm
    subst hw'
    clear hw
    go_wp2
    go_ret
    exact ⟨ret_lb HF.out, rfl⟩
  | true =>
    rw [hm] at h1
    obtain ⟨k, rfl⟩ : ∃ k : Nat, i = k := ⟨i.toNat, by unfold mayB at hm; simp at hm; omega⟩
    have hk : k < n := by unfold mayB at hm; simp at hm; omega
    have HF : Hid ((bits BinOp.and .u64 ((x : Int) / 2 ^ k) 1 == 1) = hasB n x (k : Int)) := by
      unfold Hid hasB
      rw [hm, Bool.true_and, Int.toNat_natCast, bit_word x k hx]
    go_enter Tryd.func19, Tryd.ntmps19
    go_wp2_with fail
    refine h1.mono ?_
    rintro e w' ⟨rfl, hw⟩
    have hw' := hw.symm
    subst hw'
    clear hw
    go_wp2
    go_ret
    exact ⟨ret_lb HF.out, rfl⟩

theorem and_i64 (a : Nat) (ha : a < 9223372036854775808) : bits .and .i64 (a : Int) 127 = ((a % 128 : Nat) : Int) := by
  have h1 : (BitVec.ofInt 64 (a : Int)).toNat = a := by
    rw [BitVec.ofInt_natCast, BitVec.toNat_ofNat]; exact Nat.mod_eq_of_lt (by omega)
  have h2 : (BitVec.ofInt 64 (127 : Int)).toNat = 127 := by decide
  have h3 : a &&& 127 = a % 128 := Nat.and_two_pow_sub_one_eq_mod a 7
  show IntKind.i64.wrap ((BitVec.ofInt 64 (a : Int) &&& BitVec.ofInt 64 (127 : Int)).toNat : Int) = _
  rw [BitVec.toNat_and, h1, h2, h3]
  exact IntWalk.i64_in _ (by omega)

theorem wrap_nat (a : Nat) (ha : a < 18446744073709551616) : IntKind.u64.wrap (a : Int) = (a : Int) := by
  rw [IntKind.wrap_u64]; omega

theorem and_nat (a m : Nat) (ha : a < 18446744073709551616) (hm : m < 18446744073709551616) : bits .and .u64 (a : Int) (m : Int) = ((a &&& m : Nat) : Int) := bits_and_u64_nat a m ha hm

theorem q1_nat (x : Nat) (hx : x < 18446744073709551616) : IntKind.u64.wrap (bits .and .u64 ((x : Int) / 2) 6148914691236517205 + bits .and .u64 (x : Int) 6148914691236517205) = ((o1 x : Nat) : Int) := by
  have e1 := and_nat (x / 2) 6148914691236517205 (by omega) (by decide)
  have e2 := and_nat x 6148914691236517205 hx (by decide)
  have e3 : ((x / 2 : Nat) : Int) = (x : Int) / 2 := by omega
  rw [e3] at e1
  have e1' : bits .and .u64 ((x : Int) / 2) 6148914691236517205 = ((x / 2 &&& 6148914691236517205 : Nat) : Int) := e1
  have e2' : bits .and .u64 (x : Int) 6148914691236517205 = ((x &&& 6148914691236517205 : Nat) : Int) := e2
  rw [e1', e2', ← Int.natCast_add]
  exact wrap_nat _ (o1_lt x hx)

theorem q2_nat (y : Nat) (hy : y < 18446744073709551616) (hl : o2 y < 18446744073709551616) : IntKind.u64.wrap (bits .and .u64 ((y : Int) / 4) 3689348814741910323 + bits .and .u64 (y : Int) 3689348814741910323) = ((o2 y : Nat) : Int) := by
  have e1 := and_nat (y / 4) 3689348814741910323 (by omega) (by decide)
  have e2 := and_nat y 3689348814741910323 hy (by decide)
  have e3 : ((y / 4 : Nat) : Int) = (y : Int) / 4 := by omega
  rw [e3] at e1
  have e1' : bits .and .u64 ((y : Int) / 4) 3689348814741910323 = ((y / 4 &&& 3689348814741910323 : Nat) : Int) := e1
  have e2' : bits .and .u64 (y : Int) 3689348814741910323 = ((y &&& 3689348814741910323 : Nat) : Int) := e2
  rw [e1', e2', ← Int.natCast_add]
  exact wrap_nat _ hl

theorem q3_nat (y : Nat) (hy : y < 4919131752989213765) : IntKind.u64.wrap ((y : Int) / 16 + (y : Int)) = ((y / 16 + y : Nat) : Int) ∧ bits .and .u64 ((y / 16 + y : Nat) : Int) 1085102592571150095 = ((o3 y : Nat) : Int) := by
  constructor
  · rw [IntKind.wrap_u64]; omega
  · exact and_nat (y / 16 + y) 1085102592571150095 (by omega) (by decide)

theorem q4_nat (y d : Nat) (h : y + y / d < 18446744073709551616) : IntKind.u64.wrap ((y : Int) + (y : Int) / (d : Int)) = ((y + y / d : Nat) : Int) := by
  rw [← Int.natCast_ediv, ← Int.natCast_add]
  exact wrap_nat _ h

set_option maxRecDepth 100000 in
set_option maxHeartbeats 400000 in
theorem ones_any (x : Nat) (w : World) (hx : x < 18446744073709551616) :
    Calls Tryd.prog 27 #[.int .u64 (x : Int)] w fun e w' => e = .returned (.int .i64 (cnt x 64 : Nat)) ∧ w' = w := by
  have q1 := q1_nat x hx
  have b1 := o1_lt x hx
  have b2 := o2_lt x hx
  obtain ⟨b3, b4, b5, b6, hlast⟩ := ones_end x hx
  generalize o1 x = y1 at q1 b1 b2 b3 b4 b5 b6 hlast
  have q2 := q2_nat y1 b1 (by omega)
  generalize o2 y1 = y2 at q2 b2 b3 b4 b5 b6 hlast
  obtain ⟨q3, q3'⟩ := q3_nat y2 b2
  generalize y2 / 16 + y2 = z2 at q3 q3'
  generalize o3 y2 = y3 at q3' b3 b4 b5 b6 hlast
  have q4 := q4_nat y3 256 (show o4 y3 < _ by omega)
  have q4' : IntKind.u64.wrap ((y3 : Int) + (y3 : Int) / 256) = ((o4 y3 : Nat) : Int) := q4
  generalize o4 y3 = y4 at q4' b4 b5 b6 hlast
  have q5 := q4_nat y4 65536 (show o5 y4 < _ by omega)
  have q5' : IntKind.u64.wrap ((y4 : Int) + (y4 : Int) / 65536) = ((o5 y4 : Nat) : Int) := q5
  generalize o5 y4 = y5 at q5' b5 b6 hlast
  have q6 := q4_nat y5 4294967296 (show o6 y5 < _ by omega)
  have q6' : IntKind.u64.wrap ((y5 : Int) + (y5 : Int) / 4294967296) = ((o6 y5 : Nat) : Int) := q6
  generalize o6 y5 = y6 at q6' b6 hlast
  have q7 := and_i64 y6 (by omega)
  have q8 : IntKind.i64.wrap (y6 : Int) = (y6 : Int) := IntWalk.i64_in _ (by omega)
  rw [hlast] at q7
  generalize cnt x 64 = c at q7 ⊢
  clear q4 q5 q6 b1 b2 b3 b4 b5 b6 hlast hx
  go_enter Tryd.func27, Tryd.ntmps27
  go_wp2
  go_ret
  exact ⟨rfl, rfl⟩

set_option maxRecDepth 100000 in
set_option maxHeartbeats 400000 in
theorem scount_any {p n x : Nat} (w : World) (h : IsSet w p n x) (hok : SetOk n x) :
    Calls Tryd.prog 20 #[.pointer (some ⟨p, 0, none⟩)] w fun e w' => e = .returned (.int .i64 (cnt x 64 : Nat)) ∧ w' = w := by
  have h1 := ones_any x w hok.lt
  obtain ⟨c0, c1, fz⟩ := h.cells
  clear h hok
  generalize cnt x 64 = c at h1 ⊢
  go_enter Tryd.func20, Tryd.ntmps20
  go_wp2_with fail
  refine h1.mono ?_
  rintro e w' ⟨rfl, hw⟩
  have hw' := hw.symm
  subst hw'
  clear hw
  go_wp2
  go_ret
  exact ⟨rfl, rfl⟩

/- What Put answers, and what the set then is. -/
def putB (n x : Nat) (i : Int) (b : Bool) : Bool := mayB n i && (hasB n x i != b)
def putV (n x : Nat) (i : Int) (b : Bool) : Nat := if putB n x i b then x ^^^ 2 ^ i.toNat else x

theorem putV_ok {n x : Nat} (h : SetOk n x) (i : Int) (b : Bool) : SetOk n (putV n x i b) := by
  unfold putV
  split
  · rename_i q
    have hm : mayB n i = true := by unfold putB at q; simp at q; exact q.1
    unfold mayB at hm
    simp at hm
    refine ⟨h.n1, fun j hj => ?_⟩
    rw [Nat.testBit_xor, h.hi j hj, Nat.testBit_two_pow_of_ne (by omega)]
    rfl
  · exact h

/- What the set has behind a Put. -/
theorem putV_bit {n x : Nat} (i : Int) (b : Bool) (j : Nat) : (putV n x i b).testBit j = if mayB n i = true ∧ i = (j : Int) then b else x.testBit j := by
  unfold putV putB
  cases hm : mayB n i with
  | false => simp
  | true =>
    obtain ⟨k, rfl⟩ : ∃ k : Nat, i = k := ⟨i.toNat, by unfold mayB at hm; simp at hm; omega⟩
    have hh : hasB n x (k : Int) = x.testBit k := by unfold hasB; rw [hm, Bool.true_and, Int.toNat_natCast]
    rw [hh, Bool.true_and, Int.toNat_natCast]
    by_cases e : k = j
    · subst e
      rw [if_pos (⟨rfl, rfl⟩ : true = true ∧ (k : Int) = (k : Int))]
      by_cases q : x.testBit k = b
      · have : ¬ (x.testBit k != b) = true := by simp [q]
        rw [if_neg this]; exact q
      · have : (x.testBit k != b) = true := by simpa using q
        rw [if_pos this, Nat.testBit_xor, Nat.testBit_two_pow_self]
        revert q
        cases x.testBit k <;> cases b <;> simp
    · have e' : ¬ (true = true ∧ (k : Int) = (j : Int)) := fun h => e (by have := h.2; omega)
      rw [if_neg e']
      split
      · rw [Nat.testBit_xor, Nat.testBit_two_pow_of_ne e]; simp
      · rfl

theorem xor_word (x k : Nat) (hx : x < 18446744073709551616) (hk : k < 64) : bits BinOp.xor .u64 (x : Int) (IntKind.u64.wrap (2 ^ k)) = ((x ^^^ 2 ^ k : Nat) : Int) := by
  have h1 : 2 ^ k < 18446744073709551616 := Nat.pow_lt_pow_right (by decide) hk
  have e : (2 : Int) ^ k = ((2 ^ k : Nat) : Int) := by rw [Int.natCast_pow]; rfl
  rw [e, wrap_nat _ h1]
  exact bits_xor_u64_nat _ _ hx h1

set_option maxRecDepth 100000 in
set_option maxHeartbeats 400000 in
theorem sput_any {p n x : Nat} (i : Int) (b : Bool) (w : World) (h : IsSet w p n x) (hok : SetOk n x) :
    Calls Tryd.prog 11 #[.pointer (some ⟨p, 0, none⟩), .int .i64 i, .bool b] w fun e w' => e = .returned (.bool (putB n x i b)) ∧ IsSet w' p n (putV n x i b) ∧ Kept (fun k => k = p) w w' := by
  have h1 := smay_any i w h
  have h2 := shas_any i w h hok
  have HH := toHid h
  obtain ⟨c0, c1, fz⟩ := h.cells
  have hx := hok.lt
  have hn := hok.n1
  clear h hok
  cases hm : mayB n i with
  | false =>
    rw [hm] at h1
    have e1 : putB n x i b = false := by unfold putB; simp [hm]
    have e2 : putV n x i b = x := by unfold putV; simp [e1]
    rw [e1, e2]
    go_enter Tryd.func11, Tryd.ntmps11
    go_wp2_with fail
    refine h1.mono ?_
    rintro e w' ⟨rfl, hw⟩
    have hw' := hw.symm
    subst hw'
    clear hw
    go_wp2
    go_ret
    exact ⟨rfl, HH.out, Kept.refl _ w⟩
  | true =>
    rw [hm] at h1
    have e0 : putB n x i b = (hasB n x i != b) := by unfold putB; simp [hm]
    generalize hh : hasB n x i = hb at h2 e0
    cases hq : (hb != b) with
    | false =>
      have e1 : putB n x i b = false := e0.trans hq
      have e2 : putV n x i b = x := by unfold putV; simp [e1]
      have e3 : (hb == b) = true := by revert hq; cases hb <;> cases b <;> simp
      rw [e1, e2]
      clear e0 e1 e2 hq hh
      go_enter Tryd.func11, Tryd.ntmps11
      go_wp2_with fail
      refine h1.mono ?_
      rintro e w' ⟨rfl, hw⟩
      have hw' := hw.symm
      subst hw'
      clear hw
      go_wp2_with fail
      refine h2.mono ?_
      rintro e w' ⟨rfl, hw⟩
      have hw' := hw.symm
      subst hw'
      clear hw
      go_wp2
      go_ret
      exact ⟨rfl, HH.out, Kept.refl _ w⟩
    | true =>
      have e1 : putB n x i b = true := e0.trans hq
      have e2 : putV n x i b = x ^^^ 2 ^ i.toNat := by unfold putV; simp [e1]
      have e3 : (hb == b) = false := by revert hq; cases hb <;> cases b <;> simp
      rw [e1, e2]
      clear e0 e1 e2 hq hh
      obtain ⟨k, rfl⟩ : ∃ k : Nat, i = k := ⟨i.toNat, by unfold mayB at hm; simp at hm; omega⟩
      have hk : k < 64 := by unfold mayB at hm; simp at hm; omega
      rw [Int.toNat_natCast]
      have HX : Hid (bits BinOp.xor .u64 (x : Int) (IntKind.u64.wrap (2 ^ k)) = ((x ^^^ 2 ^ k : Nat) : Int)) := xor_word x k hx hk
      go_enter Tryd.func11, Tryd.ntmps11
      go_wp2_with fail
      refine h1.mono ?_
      rintro e w' ⟨rfl, hw⟩
      have hw' := hw.symm
      subst hw'
      clear hw
      go_wp2_with fail
      refine h2.mono ?_
      rintro e w' ⟨rfl, hw⟩
      have hw' := hw.symm
      subst hw'
      clear hw
      go_wp2_with fail
      go_region
      go_wp2
      go_ret
      exact ⟨rfl, by rw [HX.out]; exact HH.out.set _, (Kept.setCell (S := fun k => k = p) (Kept.refl _ w) (p := ⟨p, 1, none⟩) (.inl rfl) _).drew⟩
end Go.Proofs.YtlfecjgmmhbanaaDoor.S4
