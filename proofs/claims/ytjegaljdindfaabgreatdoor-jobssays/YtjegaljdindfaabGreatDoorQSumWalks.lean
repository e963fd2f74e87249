/-
The plain mathematics of the sum (A1): a register that is halved, and changed where it was odd; a text as one number; no Go text is named here.
The calls of package sum, over the translation: what each gives, and what it leaves of the world.
-/
import Derived.Test.YtjegaljdindfaabGreatDoorRows
import Derived.WalkKit
import Derived.WalkSpells
import Derived.WalkLawsBesides
import Derived.Laws.BitsAllLaws
namespace Go.Proofs.YtjegaljdindfaabGreatDoor.Crc

def poly : Nat := 3988292384

def stp (s : Nat) : Nat := if s % 2 = 1 then (s / 2) ^^^ poly else s / 2

def many : Nat → Nat → Nat
  | 0, s => s
  | n + 1, s => many n (stp s)

theorem many_add (a b s : Nat) : many (a + b) s = many b (many a s) := by
  induction a generalizing s with
  | zero => simp [many]
  | succ a ih => rw [Nat.succ_add]; simp only [many]; exact ih (stp s)

theorem many_succ (n s : Nat) : many (n + 1) s = stp (many n s) := by
  rw [many_add n 1 s]; rfl

theorem xor_mod2 (x y : Nat) : (x ^^^ y) % 2 = (x % 2 + y % 2) % 2 := by
  have h := Nat.testBit_xor x y 0
  simp only [Nat.testBit_zero] at h
  have h1 : (x ^^^ y) % 2 = 0 ∨ (x ^^^ y) % 2 = 1 := by omega
  have hx : x % 2 = 0 ∨ x % 2 = 1 := by omega
  have hy : y % 2 = 0 ∨ y % 2 = 1 := by omega
  rcases h1 with h1 | h1 <;> rcases hx with hx | hx <;> rcases hy with hy | hy <;> simp [h1, hx, hy] at h ⊢

theorem xor_half (x y : Nat) : (x ^^^ y) / 2 = (x / 2) ^^^ (y / 2) := Nat.xor_div_two

theorem stp_xor (x y : Nat) : stp (x ^^^ y) = stp x ^^^ stp y := by
  unfold stp
  rw [xor_mod2, xor_half]
  have hx : x % 2 = 0 ∨ x % 2 = 1 := by omega
  have hy : y % 2 = 0 ∨ y % 2 = 1 := by omega
  rcases hx with hx | hx <;> rcases hy with hy | hy <;> simp [hx, hy]
  · rw [Nat.xor_assoc]
  · rw [Nat.xor_assoc, Nat.xor_assoc, Nat.xor_comm (y / 2) poly]
  · rw [Nat.xor_assoc, ← Nat.xor_assoc poly, Nat.xor_comm poly (y / 2), Nat.xor_assoc, Nat.xor_self, Nat.xor_zero]

theorem many_xor (n x y : Nat) : many n (x ^^^ y) = many n x ^^^ many n y := by
  induction n generalizing x y with
  | zero => rfl
  | succ n ih => simp only [many]; rw [stp_xor, ih]

theorem stp_dbl (x : Nat) : stp (2 * x) = x := by
  unfold stp
  rw [if_neg (by omega)]; omega

theorem many_shl (n x : Nat) : many n (2 ^ n * x) = x := by
  induction n generalizing x with
  | zero => simp [many]
  | succ n ih =>
    simp only [many]
    rw [Nat.pow_succ, Nat.mul_assoc, Nat.mul_left_comm, stp_dbl, ih]

theorem stp_lt (x : Nat) (h : x < 4294967296) : stp x < 4294967296 := by
  unfold stp
  split
  · exact Nat.xor_lt_two_pow (n := 32) (by omega) (by unfold poly; omega)
  · omega

theorem many_lt (n x : Nat) (h : x < 4294967296) : many n x < 4294967296 := by
  induction n generalizing x with
  | zero => exact h
  | succ n ih => exact ih _ (stp_lt x h)

theorem xor_eq_zero (x y : Nat) : x ^^^ y = 0 ↔ x = y := by
  constructor
  · intro h
    have : (x ^^^ y) ^^^ y = 0 ^^^ y := by rw [h]
    rw [Nat.xor_assoc, Nat.xor_self, Nat.xor_zero, Nat.zero_xor] at this
    exact this
  · rintro rfl; exact Nat.xor_self _

theorem stp_zero (x : Nat) (h : x < 4294967296) (e : stp x = 0) : x = 0 := by
  unfold stp at e
  split at e
  · have := (xor_eq_zero _ _).1 e
    unfold poly at this; omega
  · omega

theorem many_zero (n x : Nat) (h : x < 4294967296) (e : many n x = 0) : x = 0 := by
  induction n generalizing x with
  | zero => exact e
  | succ n ih => exact stp_zero x h (ih _ (stp_lt x h) e)

theorem many_of_zero (n : Nat) : many n 0 = 0 := by
  induction n with
  | zero => rfl
  | succ n ih => exact ih

/- A text as one number: the first byte the lowest. -/
def num : List UInt8 → Nat
  | [] => 0
  | b :: l => b.toNat + 256 * num l

theorem num_lt (l : List UInt8) : num l < 2 ^ (8 * l.length) := by
  induction l with
  | nil => simp [num]
  | cons b l ih =>
    have hb := b.toNat_lt
    simp only [num, List.length_cons]
    rw [show 8 * (l.length + 1) = 8 + 8 * l.length by omega, Nat.pow_add]
    have : (2 : Nat) ^ 8 = 256 := rfl
    rw [this]; omega

theorem num_inj (l m : List UInt8) (h : l.length = m.length) (e : num l = num m) : l = m := by
  induction l generalizing m with
  | nil => cases m with
    | nil => rfl
    | cons _ _ => simp at h
  | cons b l ih =>
    cases m with
    | nil => simp at h
    | cons c m =>
      simp only [num] at e
      have hb := b.toNat_lt
      have hc := c.toNat_lt
      have h1 : b.toNat = c.toNat := by omega
      have h2 : num l = num m := by omega
      rw [ih m (by simpa using h) h2, UInt8.toNat_inj.1 h1]

theorem num_append (l m : List UInt8) : num (l ++ m) = num l + 2 ^ (8 * l.length) * num m := by
  induction l with
  | nil => simp [num]
  | cons b l ih =>
    simp only [num, List.cons_append, List.length_cons]
    rw [ih, show 8 * (l.length + 1) = 8 + 8 * l.length by omega, Nat.pow_add]
    have : (2 : Nat) ^ 8 = 256 := rfl
    rw [this, Nat.mul_add, Nat.mul_assoc]; omega

theorem add_eq_xor (i x y : Nat) (h : x < 2 ^ i) : x + 2 ^ i * y = x ^^^ (2 ^ i * y) := by
  apply Nat.eq_of_testBit_eq
  intro j
  rw [Nat.testBit_xor, Nat.add_comm, Nat.testBit_two_pow_mul_add y h, Nat.testBit_two_pow_mul]
  by_cases hj : j < i
  · have : ¬ j ≥ i := by omega
    simp [hj, this]
  · have hz : x.testBit j = false := Nat.testBit_lt_two_pow (Nat.lt_of_lt_of_le h (Nat.pow_le_pow_right (by omega) (by omega)))
    have : j ≥ i := by omega
    simp [hj, this, hz]

/- The register behind a text: byte by byte. -/
def byt (s : Nat) (b : UInt8) : Nat := many 8 (s ^^^ b.toNat)
def crc (s : Nat) (l : List UInt8) : Nat := l.foldl byt s

theorem crc_append (s : Nat) (l m : List UInt8) : crc s (l ++ m) = crc (crc s l) m := by
  simp [crc]

theorem crc_num (s : Nat) (l : List UInt8) : crc s l = many (8 * l.length) (s ^^^ num l) := by
  induction l generalizing s with
  | nil => simp [crc, num, many]
  | cons b l ih =>
    have e : crc s (b :: l) = crc (byt s b) l := rfl
    have hb := b.toNat_lt
    have hn : num (b :: l) = b.toNat ^^^ (2 ^ 8 * num l) := by
      rw [← add_eq_xor 8 _ _ (by omega)]; rfl
    rw [e, ih, hn, List.length_cons, show 8 * (l.length + 1) = 8 + 8 * l.length by omega, many_add, ← Nat.xor_assoc, many_xor 8, many_shl]; rfl

theorem byt_lt (s : Nat) (b : UInt8) (h : s < 4294967296) : byt s b < 4294967296 := by
  have hb := b.toNat_lt
  exact many_lt _ _ (Nat.xor_lt_two_pow (n := 32) (by omega) (by omega))

theorem crc_lt (s : Nat) (l : List UInt8) (h : s < 4294967296) : crc s l < 4294967296 := by
  induction l generalizing s with
  | nil => exact h
  | cons b l ih => exact ih _ (byt_lt s b h)

def ones : Nat := 4294967295

def more (s : Nat) (l : List UInt8) : Nat := crc (s ^^^ ones) l ^^^ ones
def total (l : List UInt8) : Nat := crc ones l ^^^ ones

theorem more_lt (s : Nat) (l : List UInt8) (h : s < 4294967296) : more s l < 4294967296 :=
  Nat.xor_lt_two_pow (n := 32) (crc_lt _ _ (Nat.xor_lt_two_pow (n := 32) (by omega) (by unfold ones; omega))) (by unfold ones; omega)

theorem total_lt (l : List UInt8) : total l < 4294967296 :=
  Nat.xor_lt_two_pow (n := 32) (crc_lt _ _ (by unfold ones; omega)) (by unfold ones; omega)

theorem more_total (l m : List UInt8) : more (total l) m = total (l ++ m) := by
  unfold more total
  rw [Nat.xor_assoc, Nat.xor_self, Nat.xor_zero, crc_append]

theorem total_nil : total [] = 0 := by simp [total, crc]

theorem more_zero (l : List UInt8) : more 0 l = total l := by
  have := more_total [] l
  rw [total_nil] at this; simpa using this

/- Bit by bit: what is behind i bits of a number. -/
def bitwise (n i : Nat) : Nat := many i (ones ^^^ (n % 2 ^ i))

theorem bitwise_zero (n : Nat) : bitwise n 0 = ones := by simp [bitwise, many, Nat.mod_one]

theorem bitwise_succ (n i : Nat) : bitwise n (i + 1) = stp (bitwise n i ^^^ (n / 2 ^ i % 2)) := by
  have h : n % 2 ^ (i + 1) = (n % 2 ^ i) ^^^ (2 ^ i * (n / 2 ^ i % 2)) := by
    rw [← add_eq_xor i _ _ (Nat.mod_lt _ (Nat.two_pow_pos i)), Nat.pow_succ, Nat.mod_mul]
  unfold bitwise
  rw [h, ← Nat.xor_assoc, many_succ, many_xor, many_shl]

theorem bitwise_lt (n i : Nat) : bitwise n i < 4294967296 := by
  induction i with
  | zero => rw [bitwise_zero]; unfold ones; omega
  | succ i ih =>
    rw [bitwise_succ]
    exact stp_lt _ (Nat.xor_lt_two_pow (n := 32) ih (by have := Nat.mod_lt (n / 2 ^ i) (show 0 < 2 by omega); omega))

theorem bitwise_all (l : List UInt8) : bitwise (num l) (8 * l.length) = crc ones l := by
  rw [crc_num]; unfold bitwise
  rw [Nat.mod_eq_of_lt (num_lt l)]

theorem num_bit (l : List UInt8) (i : Nat) (h : i < 8 * l.length) : num l / 2 ^ i % 2 = (l[i / 8]'(by omega)).toNat / 2 ^ (i % 8) % 2 := by
  induction l generalizing i with
  | nil => simp at h
  | cons b l ih =>
    have hb := b.toNat_lt
    by_cases hi : i < 8
    · have e0 : i / 8 = 0 := by omega
      have e1 : i % 8 = i := by omega
      simp only [e0, e1, List.getElem_cons_zero, num]
      have h8 : (256 : Nat) = 2 ^ i * (2 * 2 ^ (7 - i)) := by
        rw [← Nat.mul_assoc, Nat.mul_comm (2 ^ i) 2, Nat.mul_assoc, ← Nat.pow_add, show i + (7 - i) = 7 by omega]
      rw [h8, Nat.mul_assoc, Nat.add_mul_div_left _ _ (Nat.two_pow_pos i), Nat.mul_assoc, Nat.add_mul_mod_self_left]
    · obtain ⟨j, rfl⟩ : ∃ j, i = j + 8 := ⟨i - 8, by omega⟩
      have e0 : (j + 8) / 8 = j / 8 + 1 := by omega
      have e1 : (j + 8) % 8 = j % 8 := by omega
      simp only [e0, e1, List.getElem_cons_succ, num]
      rw [← ih j (by simp only [List.length_cons] at h; omega), Nat.pow_add, Nat.mul_comm (2 ^ j), ← Nat.div_div_eq_div_mul]
      congr 2
      have : (2 : Nat) ^ 8 = 256 := rfl
      rw [this]; omega

theorem stp_bit (s b : Nat) (hb : b < 2) : stp (s ^^^ b) = if (s % 2) ^^^ b = 1 then (s / 2) ^^^ poly else s / 2 := by
  unfold stp
  rw [xor_mod2, xor_half]
  have hs : s % 2 = 0 ∨ s % 2 = 1 := by omega
  have hb' : b = 0 ∨ b = 1 := by omega
  rcases hs with hs | hs <;> rcases hb' with rfl | rfl <;> simp [hs]

theorem shl_xor (i x y : Nat) : 2 ^ i * (x ^^^ y) = (2 ^ i * x) ^^^ (2 ^ i * y) := by
  apply Nat.eq_of_testBit_eq
  intro j
  rw [Nat.testBit_xor, Nat.testBit_two_pow_mul, Nat.testBit_two_pow_mul, Nat.testBit_two_pow_mul, Nat.testBit_xor]
  cases decide (j ≥ i) <;> simp

theorem num_flip (l : List UInt8) (p : Nat) (v : UInt8) (h : p < 8 * l.length) (hv : v.toNat = (l[p / 8]'(by omega)).toNat ^^^ 2 ^ (p % 8)) : num (l.set (p / 8) v) = num l ^^^ 2 ^ p := by
  induction l generalizing p with
  | nil => simp at h
  | cons b l ih =>
    have hb := b.toNat_lt
    by_cases hi : p < 8
    · have e0 : p / 8 = 0 := by omega
      have e1 : p % 8 = p := by omega
      simp only [e0, e1, List.getElem_cons_zero] at hv
      simp only [e0, List.set_cons_zero, num]
      rw [hv]
      have hlt : b.toNat ^^^ 2 ^ p < 2 ^ 8 := Nat.xor_lt_two_pow (by omega) (Nat.pow_lt_pow_right (by omega) hi)
      have a1 := add_eq_xor 8 (b.toNat ^^^ 2 ^ p) (num l) hlt
      have a2 := add_eq_xor 8 b.toNat (num l) (by omega)
      have : (2 : Nat) ^ 8 = 256 := rfl
      rw [this] at a1 a2
      rw [a1, a2, Nat.xor_assoc, Nat.xor_assoc, Nat.xor_comm (2 ^ p)]
    · obtain ⟨j, rfl⟩ : ∃ j, p = j + 8 := ⟨p - 8, by omega⟩
      have e0 : (j + 8) / 8 = j / 8 + 1 := by omega
      have e1 : (j + 8) % 8 = j % 8 := by omega
      simp only [e0, e1, List.getElem_cons_succ] at hv
      simp only [e0, List.set_cons_succ, num]
      rw [ih j (by simp only [List.length_cons] at h; omega) hv]
      have a1 := add_eq_xor 8 b.toNat (num l ^^^ 2 ^ j) (by omega)
      have a2 := add_eq_xor 8 b.toNat (num l) (by omega)
      have h3 : (2 : Nat) ^ (j + 8) = 2 ^ 8 * 2 ^ j := by rw [Nat.pow_add, Nat.mul_comm]
      have : (2 : Nat) ^ 8 = 256 := rfl
      rw [this] at a1 a2
      rw [a1, a2, h3, ← this, shl_xor, Nat.xor_assoc]

theorem mod_bit1 (x k : Nat) (h : x / 2 ^ k % 2 = 1) : x % 2 ^ (k + 1) = (x % 2 ^ k) ^^^ 2 ^ k := by
  have e := add_eq_xor k (x % 2 ^ k) 1 (Nat.mod_lt _ (Nat.two_pow_pos k))
  rw [Nat.mul_one] at e
  rw [← e, Nat.pow_succ, Nat.mod_mul, h, Nat.mul_one]

theorem mod_bit0 (x k : Nat) (h : ¬ x / 2 ^ k % 2 = 1) : x % 2 ^ (k + 1) = x % 2 ^ k := by
  have : x / 2 ^ k % 2 = 0 := by omega
  rw [Nat.pow_succ, Nat.mod_mul, this, Nat.mul_zero, Nat.add_zero]

theorem flip_step (n x a k : Nat) (h : x / 2 ^ k % 2 = 1) : (n ^^^ (2 ^ a * (x % 2 ^ k))) ^^^ 2 ^ (a + k) = n ^^^ (2 ^ a * (x % 2 ^ (k + 1))) := by
  rw [mod_bit1 x k h, shl_xor, Nat.xor_assoc, Nat.pow_add]

theorem turned (l m : List UInt8) (a x : Nat) (hl : m.length = l.length) (ha : a ≤ 8 * l.length) (hx : x < 4294967296) (h : num m = num l ^^^ (2 ^ a * x)) : m = l ↔ total m = total l := by
  constructor
  · rintro rfl; rfl
  · intro e
    have e1 : crc ones m = crc ones l := by
      have e2 : total m ^^^ ones = total l ^^^ ones := by rw [e]
      unfold total at e2
      rw [Nat.xor_assoc, Nat.xor_assoc, Nat.xor_self, Nat.xor_zero, Nat.xor_zero] at e2
      exact e2
    rw [crc_num, crc_num, hl, h, ← Nat.xor_assoc, many_xor (8 * l.length) (ones ^^^ num l)] at e1
    have e3 : many (8 * l.length) (2 ^ a * x) = 0 := by
      have := congrArg (fun z => many (8 * l.length) (ones ^^^ num l) ^^^ z) e1
      simp only [← Nat.xor_assoc, Nat.xor_self, Nat.zero_xor] at this
      exact this
    rw [show 8 * l.length = a + (8 * l.length - a) by omega, many_add, many_shl] at e3
    have e4 := many_zero _ _ hx e3
    rw [e4, Nat.mul_zero, Nat.xor_zero] at h
    exact num_inj m l hl h
end Go.Proofs.YtjegaljdindfaabGreatDoor.Crc

namespace Go.Proofs.YtjegaljdindfaabGreatDoor
open Go.RowKit

theorem ret_u32 {a b : Int} (h : a = b) : Ending.returned (.int .u32 a) = .returned (.int .u32 b) := by rw [h]

theorem stp_odd (m : Nat) (h : m < 4294967296) (e : ((m : Int) % 2 == 1) = true) : bits .xor .u32 ((m : Int) / 2) 3988292384 = (Crc.stp m : Int) := by
  have e1 : m % 2 = 1 := by have := beq_iff_eq.1 e; omega
  rw [u32_xor _ _ (by omega) (by omega) (by omega) (by omega)]
  unfold Crc.stp Crc.poly
  rw [if_pos e1]
  congr 2

theorem stp_even (m : Nat) (e : ((m : Int) % 2 == 1) = false) : ((m : Int) / 2) = (Crc.stp m : Int) := by
  have e1 : ¬ m % 2 = 1 := by have := beq_eq_false_iff_ne.1 e; omega
  unfold Crc.stp
  rw [if_neg e1]
  omega

theorem int_u32 {a b : Int} (h : a = b) : Value.int .u32 a = Value.int .u32 b := by rw [h]

set_option maxRecDepth 100000 in
set_option maxHeartbeats 400000 in
theorem step_any (s : Nat) (b : UInt8) (w : World) (hs : s < 4294967296) :
    Calls Tryz.prog 195 #[.int .u32 s, .int .u8 b.toNat] w fun e w' => e = .returned (.int .u32 (Crc.byt s b)) ∧ w' = w := by
  have hb := b.toNat_lt
  have hx : bits .xor .u32 (s : Int) (b.toNat : Int) = ((s ^^^ b.toNat : Nat) : Int) := u32_xor_nat s b.toNat hs (by omega)
  have hlt0 : s ^^^ b.toNat < 4294967296 := Nat.xor_lt_two_pow (n := 32) hs (by omega)
  go_enter Tryz.func195, Tryz.ntmps195
  go_wp2
  go_loop [0, 9] (fun t i => ∃ k : Nat, k ≤ 8 ∧ i = .int .i64 k ∧ t = .int .u32 (Crc.many k (s ^^^ b.toNat))) (fun _ i => 8 - (intOf i).toNat)
  case atStart => exact ⟨0, by omega, rfl, rfl⟩
  case round =>
    obtain ⟨k, hk, rfl, rfl⟩ := hrel
    have hm := Crc.many_lt k _ hlt0
    have HK : Hid (¬ k < 8 → Crc.many k (s ^^^ b.toNat) = Crc.byt s b) := by
      intro h
      have h8 : k = 8 := by omega
      rw [h8]; rfl
    have hs1 := Crc.many_succ k (s ^^^ b.toNat)
    have HS : Hid (Crc.many (k + 1) (s ^^^ b.toNat) = Crc.stp (Crc.many k (s ^^^ b.toNat))) := hs1
    clear hs1
    generalize Crc.many k (s ^^^ b.toNat) = m at HS HK hm ⊢
    by_cases hlt : k < 8
    · go_wp2
      · go_round
        case rel => exact ⟨k + 1, by omega, by go_num, int_u32 (by rw [HS.out]; exact stp_odd m hm (by assumption))⟩
        case measure => simp [intOf]; omega
      · go_round
        case rel => exact ⟨k + 1, by omega, by go_num, int_u32 (by rw [HS.out]; exact stp_even m (by assumption))⟩
        case measure => simp [intOf]; omega
    · go_wp2
      go_ret
      exact ⟨ret_u32 (by rw [HK.out hlt]), rfl⟩

set_option maxRecDepth 100000 in
set_option maxHeartbeats 400000 in
theorem more_any (s : Nat) (t : ByteArray) (w : World) (hs : s < 4294967296) (ht : t.size ≤ maxLen) :
    Calls Tryz.prog 190 #[.int .u32 s, .string t] w fun e w' => e = .returned (.int .u32 (Crc.more s t.data.toList)) ∧ w' = w := by
  unfold maxLen at ht
  have hx : bits .xor .u32 (s : Int) 4294967295 = ((s ^^^ Crc.ones : Nat) : Int) := u32_xor_nat s 4294967295 hs (by omega)
  have hlt0 : s ^^^ Crc.ones < 4294967296 := Nat.xor_lt_two_pow (n := 32) hs (by unfold Crc.ones; omega)
  go_enter Tryz.func190, Tryz.ntmps190
  go_wp2
  go_loop [0, 5, 10] (fun x _ i => ∃ k : Nat, k ≤ t.size ∧ i = .int .i64 k ∧ x = .int .u32 (Crc.crc (s ^^^ Crc.ones) (t.data.toList.take k))) (fun _ _ i => t.size - (intOf i).toNat)
  case atStart => exact ⟨0, Nat.zero_le _, rfl, rfl⟩
  case round =>
    obtain ⟨k, hk, rfl, rfl⟩ := hrel
    have hm := Crc.crc_lt (s ^^^ Crc.ones) (t.data.toList.take k) hlt0
    have HK : Hid (¬ k < t.size → Crc.crc (s ^^^ Crc.ones) (t.data.toList.take k) ^^^ Crc.ones = Crc.more s t.data.toList) := by
      intro h
      rw [List.take_of_length_le (by simp; omega)]; rfl
    by_cases hlt : k < t.size
    · have HS : Hid (Crc.crc (s ^^^ Crc.ones) (t.data.toList.take (k + 1)) = Crc.byt (Crc.crc (s ^^^ Crc.ones) (t.data.toList.take k)) t[k]) := by
        have e : t.data.toList.take (k + 1) = t.data.toList.take k ++ [t[k]] := by
          rw [List.take_succ_eq_append_getElem (by simpa using hlt)]; rfl
        rw [e, Crc.crc_append]; rfl
      generalize Crc.crc (s ^^^ Crc.ones) (t.data.toList.take k) = m at HS HK hm ⊢
      go_wp2_with (go_at_call 195; refine (step_any _ _ _ hm).mono ?_; rintro e w' ⟨rfl, rfl⟩)
      go_round
      case rel => exact ⟨k + 1, by omega, by go_num, int_u32 (by rw [HS.out])⟩
      case measure => simp [intOf]; omega
    · generalize Crc.crc (s ^^^ Crc.ones) (t.data.toList.take k) = m at HK hm ⊢
      go_wp2
      go_ret
      exact ⟨ret_u32 (by rw [← HK.out hlt]; exact u32_xor_nat m 4294967295 hm (by omega)), rfl⟩

def flat (ls : List ByteArray) : List UInt8 := (ls.map fun s => s.data.toList).flatten

theorem flat_snoc (ls : List ByteArray) (s : ByteArray) : flat (ls ++ [s]) = flat ls ++ s.data.toList := by
  simp [flat]

theorem take_getD (ls : List ByteArray) (k : Nat) (h : k < ls.length) : ls.take (k + 1) = ls.take k ++ [ls.getD k ByteArray.empty] := by
  rw [List.take_succ_eq_append_getElem h]
  simp [List.getD, List.getElem?_eq_getElem h]

set_option maxRecDepth 100000 in
set_option maxHeartbeats 400000 in
theorem of_any (ls : List ByteArray) (b off cap : Nat) (w : World) (hn : ls.length ≤ 9223372036854775806) (hl : ∀ k, k < ls.length → (ls.getD k ByteArray.empty).size ≤ maxLen)
    (hc : ∀ k, k < ls.length → w.cell? ⟨b, off + k, none⟩ = some (.string (ls.getD k ByteArray.empty))) :
    Calls Tryz.prog 185 #[.slice (some ⟨b, off, none⟩) ls.length cap] w fun e w' => e = .returned (.int .u32 (Crc.total (flat ls))) ∧ w' = w := by
  go_enter Tryz.func185, Tryz.ntmps185
  go_wp2
  go_loop [3, 5, 8] (fun x _ i => ∃ k : Nat, k ≤ ls.length ∧ i = .int .i64 k ∧ x = .int .u32 (Crc.total (flat (ls.take k)))) (fun _ _ i => ls.length - (intOf i).toNat)
  case atStart => exact ⟨0, Nat.zero_le _, rfl, by simp [flat, Crc.total_nil]⟩
  case round =>
    obtain ⟨k, hk, rfl, rfl⟩ := hrel
    have hm := Crc.total_lt (flat (ls.take k))
    have HK : Hid (¬ k < ls.length → Crc.total (flat (ls.take k)) = Crc.total (flat ls)) := by
      intro h
      rw [List.take_of_length_le (by omega)]
    by_cases hlt : k < ls.length
    · have HS : Hid (Crc.total (flat (ls.take (k + 1))) = Crc.more (Crc.total (flat (ls.take k))) (ls.getD k ByteArray.empty).data.toList) := by
        unfold Hid; rw [take_getD ls k hlt, flat_snoc, Crc.more_total]
      have hcell := hc k hlt
      have hsz := hl k hlt
      generalize Crc.total (flat (ls.take k)) = m at HS HK hm ⊢
      generalize ls.getD k ByteArray.empty = s at HS hcell hsz
      clear hc hl
      go_wp2_with (go_at_call 190; refine (more_any _ _ _ hm hsz).mono ?_; rintro e w' ⟨rfl, rfl⟩)
      go_round
      case rel => exact ⟨k + 1, by omega, by go_num, int_u32 (by rw [HS.out])⟩
      case measure => simp [intOf]; omega
    · generalize Crc.total (flat (ls.take k)) = m at HK hm ⊢
      clear hc hl
      go_wp2
      go_ret
      exact ⟨ret_u32 (by rw [← HK.out hlt]), rfl⟩

theorem of_one (s : ByteArray) (b cap : Nat) (w : World) (hs : s.size ≤ maxLen) (hc : w.cell? ⟨b, 0, none⟩ = some (.string s)) :
    Calls Tryz.prog 185 #[.slice (some ⟨b, 0, none⟩) 1 cap] w fun e w' => e = .returned (.int .u32 (Crc.total s.data.toList)) ∧ w' = w := by
  have := of_any [s] b 0 cap w (by simp) (fun k hk => by
    have : k = 0 := by simpa using hk
    subst this; exact hs) (fun k hk => by
    have : k = 0 := by simpa using hk
    subst this; exact hc)
  have e : flat [s] = s.data.toList := by simp [flat]
  rw [e] at this
  exact this

theorem of_two (s t : ByteArray) (b cap : Nat) (w : World) (hs : s.size ≤ maxLen) (ht : t.size ≤ maxLen) (hc : w.cell? ⟨b, 0, none⟩ = some (.string s)) (hd : w.cell? ⟨b, 1, none⟩ = some (.string t)) :
    Calls Tryz.prog 185 #[.slice (some ⟨b, 0, none⟩) 2 cap] w fun e w' => e = .returned (.int .u32 (Crc.total (s.data.toList ++ t.data.toList))) ∧ w' = w := by
  have := of_any [s, t] b 0 cap w (by simp) (fun k hk => by
    match k, hk with
    | 0, _ => exact hs
    | 1, _ => exact ht) (fun k hk => by
    match k, hk with
    | 0, _ => exact hc
    | 1, _ => exact hd)
  have e : flat [s, t] = s.data.toList ++ t.data.toList := by simp [flat]
  rw [e] at this
  exact this

theorem ref_low (m c j : Nat) (hm : m < 4294967296) (hc : c < 256) : bits .xor .u32 (bits .and .u32 (m : Int) 1) (bits .and .u32 ((c : Int) / 2 ^ j % 4294967296) 1) = (((m % 2) ^^^ (c / 2 ^ j % 2) : Nat) : Int) := by
  have h1 : bits .and .u32 (m : Int) 1 = ((m % 2 : Nat) : Int) := by
    have := u32_and_nat m 1 hm (by omega)
    rw [nat_mask1] at this; exact this
  have hcj : c / 2 ^ j ≤ c := Nat.div_le_self _ _
  have e : ((c : Int) / 2 ^ j % 4294967296) = ((c / 2 ^ j : Nat) : Int) := by
    have : (c : Int) / 2 ^ j = ((c / 2 ^ j : Nat) : Int) := by simp
    rw [this]
    generalize c / 2 ^ j = q at hcj
    omega
  have h2 : bits .and .u32 ((c : Int) / 2 ^ j % 4294967296) 1 = ((c / 2 ^ j % 2 : Nat) : Int) := by
    rw [e]
    have := u32_and_nat (c / 2 ^ j) 1 (by omega) (by omega)
    rw [nat_mask1] at this; exact this
  rw [h1, h2]
  exact u32_xor_nat _ _ (by omega) (by omega)

theorem ref_odd (m c j : Nat) (hm : m < 4294967296) (hc : c < 256)
    (e : (bits .xor .u32 (bits .and .u32 (m : Int) 1) (bits .and .u32 ((c : Int) / 2 ^ j % 4294967296) 1) == 1) = true) :
    bits .xor .u32 ((m : Int) / 2) 3988292384 = (Crc.stp (m ^^^ (c / 2 ^ j % 2)) : Int) := by
  rw [ref_low m c j hm hc] at e
  have e1 : (m % 2) ^^^ (c / 2 ^ j % 2) = 1 := by have := beq_iff_eq.1 e; omega
  rw [Crc.stp_bit _ _ (by omega), if_pos e1, u32_xor _ _ (by omega) (by omega) (by omega) (by omega)]
  congr 2

theorem ref_even (m c j : Nat) (hm : m < 4294967296) (hc : c < 256)
    (e : (bits .xor .u32 (bits .and .u32 (m : Int) 1) (bits .and .u32 ((c : Int) / 2 ^ j % 4294967296) 1) == 1) = false) :
    (m : Int) / 2 = (Crc.stp (m ^^^ (c / 2 ^ j % 2)) : Int) := by
  rw [ref_low m c j hm hc] at e
  have e1 : ¬ (m % 2) ^^^ (c / 2 ^ j % 2) = 1 := by have := beq_eq_false_iff_ne.1 e; omega
  rw [Crc.stp_bit _ _ (by omega), if_neg e1]
  omega

set_option maxRecDepth 100000 in
set_option maxHeartbeats 400000 in
theorem ref_any (t : ByteArray) (w : World) (ht : t.size ≤ 1000000) :
    Calls Tryz.prog 172 #[.string t] w fun e w' => e = .returned (.int .u32 (Crc.total t.data.toList)) ∧ w' = w := by
  go_enter Tryz.func172, Tryz.ntmps172
  go_wp2
  go_loop [3, 4] (fun x i => ∃ k : Nat, k ≤ 8 * t.size ∧ i = .int .i64 k ∧ x = .int .u32 (Crc.bitwise (Crc.num t.data.toList) k)) (fun _ i => 8 * t.size - (intOf i).toNat)
  case atStart => exact ⟨0, Nat.zero_le _, rfl, by rw [Crc.bitwise_zero]; rfl⟩
  case round =>
    obtain ⟨k, hk, rfl, rfl⟩ := hrel
    have hm := Crc.bitwise_lt (Crc.num t.data.toList) k
    by_cases hlt : k < 8 * t.size
    · have HS : Hid (Crc.bitwise (Crc.num t.data.toList) (k + 1) = Crc.stp (Crc.bitwise (Crc.num t.data.toList) k ^^^ ((t[k / 8]'(by omega)).toNat / 2 ^ (k % 8) % 2))) := by
        unfold Hid; rw [Crc.bitwise_succ, Crc.num_bit _ k (by simpa using hlt)]; rfl
      generalize Crc.bitwise (Crc.num t.data.toList) k = m at HS hm ⊢
      have hcb := (t[k / 8]'(by omega)).toNat_lt
      go_wp2
      · go_round
        case rel => exact ⟨k + 1, by omega, by go_num, int_u32 (by rw [HS.out]; exact ref_odd m _ _ hm hcb (by assumption))⟩
        case measure => simp [intOf]; omega
      · go_round
        case rel => exact ⟨k + 1, by omega, by go_num, int_u32 (by rw [HS.out]; exact ref_even m _ _ hm hcb (by assumption))⟩
        case measure => simp [intOf]; omega
    · have HK : Hid (Crc.bitwise (Crc.num t.data.toList) k ^^^ Crc.ones = Crc.total t.data.toList) := by
        have h8 : k = 8 * t.data.toList.length := by simp; omega
        unfold Hid
        rw [h8, Crc.bitwise_all]; rfl
      generalize Crc.bitwise (Crc.num t.data.toList) k = m at HK hm ⊢
      go_wp2
      go_ret
      exact ⟨ret_u32 (by rw [← HK.out]; exact u32_xor_nat m 4294967295 hm (by omega)), rfl⟩

/- The four bytes of a sum, the lowest first. -/
def fourI (s : Nat) : List Int := [(s : Int) % 256, (s : Int) / 256 % 256, (s : Int) / 65536 % 256, (s : Int) / 16777216]
def four (s : Nat) : ByteArray := strOfNums (fourI s)

theorem cells4 (w : World) (x0 x1 x2 x3 : Int) (i : Nat) (h : i < 4) :
    (w.alloc (.cells #[.int .u8 x0, .int .u8 x1, .int .u8 x2, .int .u8 x3] 5)).cell? ⟨w.heap.size, 0 + i, none⟩ = some (.int .u8 ([x0, x1, x2, x3].getD i 0)) := by
  match i, h with
  | 0, _ => simp [go_sem]
  | 1, _ => simp [go_sem]
  | 2, _ => simp [go_sem]
  | 3, _ => simp [go_sem]

set_option maxRecDepth 100000 in
set_option maxHeartbeats 400000 in
theorem bytes_any (s : Nat) (w : World) (hs : s < 4294967296) :
    Calls Tryz.prog 184 #[.int .u32 s] w fun e w' => e = .returned (.string (four s)) ∧ Below w.heap.size w w' := by
  have hcv := run_convert_bytes_arg (P := Tryz.prog) (w.alloc (.cells #[.int .u8 ((s : Int) % 256), .int .u8 ((s : Int) / 256 % 256), .int .u8 ((s : Int) / 65536 % 256), .int .u8 ((s : Int) / 16777216)] 5)) 132 5 Tryz.underlying132 Tryz.underlying5 w.heap.size 0 4 4 (fourI s) rfl (cells4 w _ _ _ _) 9 Tryz.underlying9
  go_enter Tryz.func184, Tryz.ntmps184
  go_wp2
  go_ret
  exact ⟨rfl, (Below.refl _ _).alloc (Nat.le_refl _) _⟩
end Go.Proofs.YtjegaljdindfaabGreatDoor
