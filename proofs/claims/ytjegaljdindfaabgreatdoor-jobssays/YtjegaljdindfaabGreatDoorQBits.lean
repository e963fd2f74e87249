/-
How many bits of a number of 64 are 1: the sum by halves, quarters and bytes is that count.
A set of small numbers (package bits): how it lies in memory, and what each of its small calls gives.
-/
import Derived.Test.YtjegaljdindfaabGreatDoorRows
import Derived.Test.YtjegaljdindfaabGreatDoorQActs4
import Derived.Laws.Bits64
import Derived.Laws.Bits64b
import Derived.Lib.TrailingZeros
namespace Go.Proofs.YtjegaljdindfaabGreatDoor.S4

/- How many of the first n bits are 1. -/
def cnt (x : Nat) : Nat → Nat
  | 0 => 0
  | k + 1 => cnt x k + if x.testBit k then 1 else 0

theorem cnt_le (x n : Nat) : cnt x n ≤ n := by
  induction n with
  | zero => exact Nat.le_refl _
  | succ n ih => show cnt x n + _ ≤ _; split <;> omega

theorem cnt_add (x a b : Nat) : cnt x (a + b) = cnt x a + cnt (x / 2 ^ a) b := by
  induction b with
  | zero => rfl
  | succ b ih =>
    show cnt x (a + b) + (if x.testBit (a + b) then 1 else 0) = cnt x a + (cnt (x / 2 ^ a) b + if (x / 2 ^ a).testBit b then 1 else 0)
    rw [ih, Nat.testBit_div_two_pow, Nat.add_comm b a]; omega

theorem cnt_mod (x a : Nat) : cnt x a = cnt (x % 2 ^ a) a := by
  have : ∀ k, k ≤ a → cnt x k = cnt (x % 2 ^ a) k := by
    intro k
    induction k with
    | zero => intro _; rfl
    | succ k ih =>
      intro hk
      show cnt x k + _ = cnt (x % 2 ^ a) k + _
      rw [ih (by omega), Nat.testBit_mod_two_pow]
      simp [show k < a by omega]
  exact this a (Nat.le_refl _)

theorem and_split (a b A B : Nat) (ha : a < 256) (hb : b < 256) : (a + 256 * A) &&& (b + 256 * B) = (a &&& b) + 256 * (A &&& B) := by
  have hab : a &&& b < 2 ^ 8 := Nat.and_lt_two_pow _ hb
  have h1 : ∀ (x X : Nat), x + 256 * X = 2 ^ 8 * X + x := fun x X => by omega
  rw [h1, h1, h1]
  apply Nat.eq_of_testBit_eq
  intro i
  rw [Nat.testBit_and, Nat.testBit_two_pow_mul_add _ ha, Nat.testBit_two_pow_mul_add _ hb, Nat.testBit_two_pow_mul_add _ hab]
  split
  · rw [Nat.testBit_and]
  · rw [Nat.testBit_and]

/- The three steps at a byte. -/
def g1 (b : Nat) : Nat := (b / 2 &&& 85) + (b &&& 85)
def g2 (b : Nat) : Nat := (b / 4 &&& 51) + (b &&& 51)
def g3 (b : Nat) : Nat := (b / 16 + b) &&& 15

def bytes (f : Nat → Nat) : Nat → Nat → Nat
  | 0, _ => 0
  | k + 1, x => f (x % 256) + 256 * bytes f k (x / 256)

def rep (c : Nat) : Nat → Nat
  | 0 => 0
  | k + 1 => c + 256 * rep c k

theorem g1_lt : ∀ b, b < 256 → g1 b < 256 := by decide +kernel
theorem g1_hi : ∀ b, b < 256 → ((b / 2 + 128) &&& 85) = (b / 2 &&& 85) := by decide +kernel
theorem g2_lt : ∀ b, b < 256 → g2 (g1 b) < 256 := by decide +kernel
theorem g2_hi : ∀ b, b < 256 → ∀ c, c < 4 → ((b / 4 + 64 * c) &&& 51) = (b / 4 &&& 51) := by decide +kernel
theorem g3_ok : ∀ b, b < 256 → g3 (g2 (g1 b)) = cnt b 8 := by decide +kernel
theorem g2_small : ∀ b, b < 256 → g2 (g1 b) % 16 ≤ 4 ∧ g2 (g1 b) / 16 ≤ 4 := by decide +kernel
theorem lo4 : ∀ a, a ≤ 4 → ∀ b, b ≤ 4 → ∀ c, c ≤ 4 → ((a + 16 * b) / 16 + 16 * c + (a + 16 * b)) &&& 15 = ((a + 16 * b) / 16 + (a + 16 * b)) &&& 15 := by decide +kernel

theorem step1 (k : Nat) : ∀ x, x < 256 ^ k → (x / 2 &&& rep 85 k) + (x &&& rep 85 k) = bytes g1 k x := by
  induction k with
  | zero => intro x hx; simp at hx; subst hx; rfl
  | succ k ih =>
    intro x hx
    have hx' : x / 256 < 256 ^ k := by rw [Nat.pow_succ] at hx; omega
    have h := ih (x / 256) hx'
    show (x / 2 &&& (85 + 256 * rep 85 k)) + (x &&& (85 + 256 * rep 85 k)) = g1 (x % 256) + 256 * bytes g1 k (x / 256)
    rw [← h]
    have e1 : x / 2 = (x % 256 / 2 + 128 * (x / 256 % 2)) + 256 * (x / 256 / 2) := by omega
    have e2 : x &&& (85 + 256 * rep 85 k) = (x % 256 &&& 85) + 256 * (x / 256 &&& rep 85 k) := by
      rw [← and_split (x % 256) 85 _ _ (by omega) (by omega)]; congr 1; omega
    have e3 : x / 2 &&& (85 + 256 * rep 85 k) = (x % 256 / 2 &&& 85) + 256 * (x / 256 / 2 &&& rep 85 k) := by
      rw [e1, and_split _ 85 _ _ (by omega) (by omega)]
      congr 1
      rcases Nat.mod_two_eq_zero_or_one (x / 256) with q | q <;> rw [q]
      · simp
      · exact g1_hi _ (by omega)
    rw [e2, e3]; unfold g1; omega

theorem step2 (k : Nat) : ∀ x, x < 256 ^ k → (x / 4 &&& rep 51 k) + (x &&& rep 51 k) = bytes g2 k x := by
  induction k with
  | zero => intro x hx; simp at hx; subst hx; rfl
  | succ k ih =>
    intro x hx
    have hx' : x / 256 < 256 ^ k := by rw [Nat.pow_succ] at hx; omega
    have h := ih (x / 256) hx'
    show (x / 4 &&& (51 + 256 * rep 51 k)) + (x &&& (51 + 256 * rep 51 k)) = g2 (x % 256) + 256 * bytes g2 k (x / 256)
    rw [← h]
    have e1 : x / 4 = (x % 256 / 4 + 64 * (x / 256 % 4)) + 256 * (x / 256 / 4) := by omega
    have e2 : x &&& (51 + 256 * rep 51 k) = (x % 256 &&& 51) + 256 * (x / 256 &&& rep 51 k) := by
      rw [← and_split (x % 256) 51 _ _ (by omega) (by omega)]; congr 1; omega
    have e3 : x / 4 &&& (51 + 256 * rep 51 k) = (x % 256 / 4 &&& 51) + 256 * (x / 256 / 4 &&& rep 51 k) := by
      rw [e1, and_split _ 51 _ _ (by omega) (by omega)]
      congr 1
      exact g2_hi _ (by omega) _ (by omega)
    rw [e2, e3]; unfold g2; omega

/- A number all of whose half bytes are 4 at most. -/
def low : Nat → Nat → Prop
  | 0, x => x = 0
  | k + 1, x => x % 256 % 16 ≤ 4 ∧ x % 256 / 16 ≤ 4 ∧ low k (x / 256)

theorem low_first {k x : Nat} (h : low k x) : x % 16 ≤ 4 := by
  cases k with
  | zero => simp [show x = 0 from h]
  | succ k => have := h.1; omega

theorem step3 (k : Nat) : ∀ x, low k x → ((x / 16 + x) &&& rep 15 k) = bytes g3 k x := by
  induction k with
  | zero => intro x hx; rw [show x = 0 from hx]; rfl
  | succ k ih =>
    intro x hx
    obtain ⟨h1, h2, h3⟩ := hx
    have h := ih (x / 256) h3
    have h4 := low_first h3
    show ((x / 16 + x) &&& (15 + 256 * rep 15 k)) = g3 (x % 256) + 256 * bytes g3 k (x / 256)
    rw [← h]
    have e1 : x / 16 + x = (x % 256 / 16 + 16 * (x / 256 % 16) + x % 256) + 256 * (x / 256 / 16 + x / 256) := by omega
    rw [e1, and_split _ 15 _ _ (by omega) (by omega)]
    congr 1
    unfold g3
    have := lo4 (x % 256 % 16) h1 (x % 256 / 16) h2 (x / 256 % 16) h4
    rw [show x % 256 % 16 + 16 * (x % 256 / 16) = x % 256 by omega] at this
    exact this

theorem bytes_mod (f : Nat → Nat) (k x : Nat) (hf : f (x % 256) < 256) : bytes f (k + 1) x % 256 = f (x % 256) ∧ bytes f (k + 1) x / 256 = bytes f k (x / 256) := by
  show (f (x % 256) + 256 * bytes f k (x / 256)) % 256 = _ ∧ (f (x % 256) + 256 * bytes f k (x / 256)) / 256 = _
  omega

theorem bytes_lt (f : Nat → Nat) (hf : ∀ b, b < 256 → f b < 256) (k : Nat) : ∀ x, bytes f k x < 256 ^ k := by
  induction k with
  | zero => intro x; exact Nat.one_pos
  | succ k ih =>
    intro x
    have := ih (x / 256)
    have := hf (x % 256) (by omega)
    show f (x % 256) + 256 * bytes f k (x / 256) < 256 ^ k * 256
    omega

theorem bytes_two (f g : Nat → Nat) (hf : ∀ b, b < 256 → f b < 256) (k : Nat) : ∀ x, bytes g k (bytes f k x) = bytes (fun b => g (f b)) k x := by
  induction k with
  | zero => intro x; rfl
  | succ k ih =>
    intro x
    obtain ⟨h1, h2⟩ := bytes_mod f k x (hf _ (by omega))
    show g (bytes f (k + 1) x % 256) + 256 * bytes g k (bytes f (k + 1) x / 256) = g (f (x % 256)) + 256 * bytes (fun b => g (f b)) k (x / 256)
    rw [h1, h2, ih]

theorem low_bytes (k : Nat) : ∀ x, low k (bytes (fun b => g2 (g1 b)) k x) := by
  induction k with
  | zero => intro x; rfl
  | succ k ih =>
    intro x
    obtain ⟨h1, h2⟩ := bytes_mod (fun b => g2 (g1 b)) k x (g2_lt _ (by omega))
    have := g2_small (x % 256) (by omega)
    exact ⟨by rw [h1]; exact this.1, by rw [h1]; exact this.2, by rw [h2]; exact ih _⟩

theorem bytes_congr (f g : Nat → Nat) (h : ∀ b, b < 256 → f b = g b) (k : Nat) : ∀ x, bytes f k x = bytes g k x := by
  induction k with
  | zero => intro x; rfl
  | succ k ih => intro x; show f _ + 256 * bytes f k _ = g _ + 256 * bytes g k _; rw [h _ (by omega), ih]

def sum (k : Nat) (x : Nat) : Nat := match k with
  | 0 => 0
  | k + 1 => cnt (x % 256) 8 + sum k (x / 256)

theorem sum_cnt (k : Nat) : ∀ x, sum k x = cnt x (8 * k) := by
  induction k with
  | zero => intro x; rfl
  | succ k ih =>
    intro x
    show cnt (x % 256) 8 + sum k (x / 256) = _
    rw [show 8 * (k + 1) = 8 + 8 * k by omega, cnt_add, ih, cnt_mod x 8]

def o1 (x : Nat) : Nat := (x / 2 &&& 6148914691236517205) + (x &&& 6148914691236517205)
def o2 (x : Nat) : Nat := (x / 4 &&& 3689348814741910323) + (x &&& 3689348814741910323)
def o3 (x : Nat) : Nat := (x / 16 + x) &&& 1085102592571150095

theorem o1_lt (x : Nat) (hx : x < 18446744073709551616) : o1 x < 18446744073709551616 := by
  have : rep 85 8 = 6148914691236517205 := by decide +kernel
  unfold o1; rw [← this, step1 8 x hx]; exact bytes_lt g1 g1_lt 8 x
theorem o1_eq (x : Nat) (hx : x < 18446744073709551616) : o1 x = bytes g1 8 x := by
  have : rep 85 8 = 6148914691236517205 := by decide +kernel
  unfold o1; rw [← this, step1 8 x hx]
theorem o2_eq (x : Nat) (hx : x < 18446744073709551616) : o2 (o1 x) = bytes (fun b => g2 (g1 b)) 8 x := by
  have : rep 51 8 = 3689348814741910323 := by decide +kernel
  unfold o2; rw [← this, step2 8 _ (o1_lt x hx), o1_eq x hx, bytes_two g1 g2 g1_lt]
theorem o3_eq (x : Nat) (hx : x < 18446744073709551616) : o3 (o2 (o1 x)) = bytes (fun b => cnt b 8) 8 x := by
  have : rep 15 8 = 1085102592571150095 := by decide +kernel
  unfold o3
  rw [← this, o2_eq x hx, step3 8 _ (low_bytes 8 x), bytes_two _ g3 g2_lt]
  exact bytes_congr _ _ g3_ok 8 x
theorem bytes_rep (f : Nat → Nat) (c : Nat) (hf : ∀ b, b < 256 → f b ≤ c) (k : Nat) : ∀ x, bytes f k x ≤ rep c k := by
  induction k with
  | zero => intro x; exact Nat.le_refl _
  | succ k ih =>
    intro x
    have := ih (x / 256)
    have := hf (x % 256) (by omega)
    show f (x % 256) + 256 * bytes f k (x / 256) ≤ c + 256 * rep c k
    omega
theorem g2_68 : ∀ b, b < 256 → g2 (g1 b) ≤ 68 := by decide +kernel
theorem o2_lt (x : Nat) (hx : x < 18446744073709551616) : o2 (o1 x) < 4919131752989213765 := by
  have h := bytes_rep (fun b => g2 (g1 b)) 68 g2_68 8 x
  rw [← o2_eq x hx, show rep 68 8 = 4919131752989213764 by decide +kernel] at h
  omega


theorem dig_a (p Y : Nat) (h : p ≤ 8) : (p + 256 * Y) / 256 = Y := by omega
theorem dig_b (p0 p1 p2 Y2 Y3 : Nat) (h0 : p0 ≤ 8) (h1 : p1 ≤ 8) (h2 : p2 ≤ 8) (h3 : Y2 = p2 + 256 * Y3) :
    (p0 + 256 * (p1 + 256 * Y2) + (p1 + 256 * Y2)) / 65536 = Y2 + Y3 := by omega
theorem low_c (q0 q1 q2 q3 S : Nat) (h0 : q0 ≤ 32) (h1 : q1 ≤ 32) (h2 : q2 ≤ 32) (h3 : q3 ≤ 32) : (q0 + 256 * q1 + 65536 * q2 + 16777216 * q3 + 4294967296 * S) / 4294967296 = S := by omega
theorem dig_d (q S : Nat) (h : q ≤ 64) : (q + 256 * S) % 128 = q := by omega

theorem ones_sum (p0 p1 p2 p3 p4 p5 p6 p7 Y1 Y2 Y3 Y4 Y5 Y6 y : Nat) (l0 : p0 ≤ 8) (l1 : p1 ≤ 8) (l2 : p2 ≤ 8) (l3 : p3 ≤ 8) (l4 : p4 ≤ 8) (l5 : p5 ≤ 8) (l6 : p6 ≤ 8) (l7 : p7 ≤ 8)
    (e6 : Y6 = p6 + 256 * p7) (e5 : Y5 = p5 + 256 * Y6) (e4 : Y4 = p4 + 256 * Y5) (e3 : Y3 = p3 + 256 * Y4) (e2 : Y2 = p2 + 256 * Y3) (e1 : Y1 = p1 + 256 * Y2) (e0 : y = p0 + 256 * Y1) :
    y ≤ 578721382704613384 ∧ y / 256 = Y1 ∧ Y1 ≤ 2260630401189896 ∧ (y + Y1) / 65536 = Y2 + Y3 ∧ Y2 + Y3 ≤ 17661175009296 ∧ (y + Y1 + (Y2 + Y3)) / 4294967296 = Y4 + Y5 + Y6 + p7 ∧ Y4 + Y5 + Y6 + p7 ≤ 1000000000 ∧
      (y + Y1 + (Y2 + Y3) + (Y4 + Y5 + Y6 + p7)) % 128 = p0 + p1 + p2 + p3 + p4 + p5 + p6 + p7 := by
  have b6 : Y6 ≤ 2056 := by omega
  have b5 : Y5 ≤ 526344 := by clear e4 e3 e2 e1 e0; omega
  have b4 : Y4 ≤ 134744072 := by clear e3 e2 e1 e0 e5 e6; omega
  have b3 : Y3 ≤ 34494482440 := by clear e2 e1 e0 e4 e5 e6; omega
  have b2 : Y2 ≤ 8830587504648 := by clear e1 e0 e3 e4 e5 e6; omega
  have b1 : Y1 ≤ 2260630401189896 := by clear e0 e2 e3 e4 e5 e6; omega
  have b0 : y ≤ 578721382704613384 := by clear e1 e2 e3 e4 e5 e6; omega
  refine ⟨b0, ?_, b1, ?_, ?_, ?_, ?_, ?_⟩
  · rw [e0]; exact dig_a _ _ l0
  · have := dig_b p0 p1 p2 Y2 Y3 l0 l1 l2 e2
    rw [← e1, ← e0] at this; exact this
  · clear e0 e1 e2 e3 e4 e5 e6; omega
  · have key : y + Y1 + (Y2 + Y3) = (p0 + p1 + p2 + p3) + 256 * (p1 + p2 + p3 + p4) + 65536 * (p2 + p3 + p4 + p5) + 16777216 * (p3 + p4 + p5 + p6) + 4294967296 * (Y4 + Y5 + Y6 + p7) := by
      clear l0 l1 l2 l3 l4 l5 l6 l7 b0 b1 b2 b3 b4 b5 b6
      subst e0 e1 e2 e3 e4 e5 e6
      simp only [Nat.mul_add, ← Nat.mul_assoc, Nat.reduceMul]
      omega
    rw [key]; exact low_c _ _ _ _ _ (by clear key e0 e1 e2 e3 e4 e5 e6; omega) (by clear key e0 e1 e2 e3 e4 e5 e6; omega) (by clear key e0 e1 e2 e3 e4 e5 e6; omega) (by clear key e0 e1 e2 e3 e4 e5 e6; omega)
  · clear e0 e1 e2 e3 e4 e5 e6; omega
  · have key : y + Y1 + (Y2 + Y3) + (Y4 + Y5 + Y6 + p7) = (p0 + p1 + p2 + p3 + p4 + p5 + p6 + p7) + 256 * (Y1 + Y2 + Y3 + Y4 + Y5 + Y6 + p7) := by
      clear l0 l1 l2 l3 l4 l5 l6 l7 b0 b1 b2 b3 b4 b5 b6
      omega
    rw [key]; exact dig_d _ _ (by clear key e0 e1 e2 e3 e4 e5 e6; omega)

def o4 (x : Nat) : Nat := x + x / 256
def o5 (x : Nat) : Nat := x + x / 65536
def o6 (x : Nat) : Nat := x + x / 4294967296

theorem ones_end (x : Nat) (hx : x < 18446744073709551616) : o3 (o2 (o1 x)) ≤ 578721382704613384 ∧ o4 (o3 (o2 (o1 x))) ≤ 580982013105803280 ∧ o5 (o4 (o3 (o2 (o1 x)))) ≤ 580999674280812576 ∧ o6 (o5 (o4 (o3 (o2 (o1 x))))) ≤ 580999675280812576 ∧ o6 (o5 (o4 (o3 (o2 (o1 x))))) % 128 = cnt x 64 := by
  rw [o3_eq x hx, show (64 : Nat) = 8 * 8 by rfl, ← sum_cnt]
  have l0 := cnt_le (x % 256) 8
  have l1 := cnt_le (x / 256 % 256) 8
  have l2 := cnt_le (x / 256 / 256 % 256) 8
  have l3 := cnt_le (x / 256 / 256 / 256 % 256) 8
  have l4 := cnt_le (x / 256 / 256 / 256 / 256 % 256) 8
  have l5 := cnt_le (x / 256 / 256 / 256 / 256 / 256 % 256) 8
  have l6 := cnt_le (x / 256 / 256 / 256 / 256 / 256 / 256 % 256) 8
  have l7 := cnt_le (x / 256 / 256 / 256 / 256 / 256 / 256 / 256 % 256) 8
  obtain ⟨a0, a1, a2, a3, a4, a5, a6, a7⟩ := ones_sum _ _ _ _ _ _ _ _ _ _ _ _ _ _ _ l0 l1 l2 l3 l4 l5 l6 l7 rfl rfl rfl rfl rfl rfl rfl
  have e : bytes (fun b => cnt b 8) 8 x = cnt (x % 256) 8 + 256 * (cnt (x / 256 % 256) 8 + 256 * (cnt (x / 256 / 256 % 256) 8 + 256 * (cnt (x / 256 / 256 / 256 % 256) 8 + 256 * (cnt (x / 256 / 256 / 256 / 256 % 256) 8 + 256 * (cnt (x / 256 / 256 / 256 / 256 / 256 % 256) 8 + 256 * (cnt (x / 256 / 256 / 256 / 256 / 256 / 256 % 256) 8 + 256 * cnt (x / 256 / 256 / 256 / 256 / 256 / 256 / 256 % 256) 8)))))) := by
    simp only [bytes, Nat.mul_zero, Nat.add_zero]
  have e' : sum 8 x = cnt (x % 256) 8 + cnt (x / 256 % 256) 8 + cnt (x / 256 / 256 % 256) 8 + cnt (x / 256 / 256 / 256 % 256) 8 + cnt (x / 256 / 256 / 256 / 256 % 256) 8 + cnt (x / 256 / 256 / 256 / 256 / 256 % 256) 8 + cnt (x / 256 / 256 / 256 / 256 / 256 / 256 % 256) 8 + cnt (x / 256 / 256 / 256 / 256 / 256 / 256 / 256 % 256) 8 := by
    simp only [sum, Nat.add_assoc, Nat.add_zero]
  rw [← e] at a0 a1 a3 a5 a7
  rw [← e'] at a7
  generalize bytes (fun b => cnt b 8) 8 x = y at a0 a1 a3 a5 a7 ⊢
  obtain ⟨Y1, hY1⟩ : ∃ Y1, y / 256 = Y1 := ⟨_, rfl⟩
  rw [← a1, hY1] at a2 a3 a5 a7
  obtain ⟨Y2, hY2⟩ : ∃ Y2, (y + Y1) / 65536 = Y2 := ⟨_, rfl⟩
  rw [← a3, hY2] at a4 a5 a7
  obtain ⟨Y3, hY3⟩ : ∃ Y3, (y + Y1 + Y2) / 4294967296 = Y3 := ⟨_, rfl⟩
  rw [← a5, hY3] at a6 a7
  have f4 : o4 y = y + Y1 := by unfold o4; rw [hY1]
  have f5 : o5 (o4 y) = y + Y1 + Y2 := by rw [f4]; unfold o5; rw [hY2]
  have f6 : o6 (o5 (o4 y)) = y + Y1 + Y2 + Y3 := by rw [f5]; unfold o6; rw [hY3]
  refine ⟨a0, ?_, ?_, ?_, ?_⟩
  · rw [f4]; exact Nat.le_trans (Nat.add_le_add a0 a2) (by decide)
  · rw [f5]; exact Nat.le_trans (Nat.add_le_add (Nat.add_le_add a0 a2) a4) (by decide)
  · rw [f6]; exact Nat.le_trans (Nat.add_le_add (Nat.add_le_add (Nat.add_le_add a0 a2) a4) a6) (by decide)
  · rw [f6]; exact a7
end Go.Proofs.YtjegaljdindfaabGreatDoor.S4

namespace Go.Proofs.YtjegaljdindfaabGreatDoor.S4
open Go.RowKit
attribute [local go_sem ↓] Go.wp_at_zero Go.wp_at_succ

def IsSet (w : World) (p n x : Nat) : Prop := w.heap[p]? = some (.cells #[.int .i64 (n : Int), .int .u64 (x : Int)] 186 (0, 0))

/- What numbers it may have, and has. -/
structure SetOk (n x : Nat) : Prop where
  n1 : n ≤ 64
  hi : ∀ i, n ≤ i → x.testBit i = false

theorem SetOk.lt {n x : Nat} (h : SetOk n x) : x < 18446744073709551616 := by
  have : x < 2 ^ 64 := Nat.lt_pow_two_of_testBit x (fun i hi => h.hi i (Nat.le_trans h.n1 hi))
  exact this

theorem IsSet.cells {w : World} {p n x : Nat} (h : IsSet w p n x) : w.cell? ⟨p, 0, none⟩ = some (.int .i64 (n : Int)) ∧ w.cell? ⟨p, 1, none⟩ = some (.int .u64 (x : Int)) ∧ w.frozen? ⟨p, 1, none⟩ = false := by
  have h' : w.heap[p]? = _ := h
  refine ⟨?_, ?_, ?_⟩ <;> simp [World.cell?, World.frozen?, h']

theorem IsSet.below {w w' : World} {p n x : Nat} (h : IsSet w p n x) (hb : Below w.heap.size w w') : IsSet w' p n x := (hb.block p (lt_of_some h)).trans h
theorem IsSet.kept {w w' : World} {p n x : Nat} {S : Nat → Prop} (h : IsSet w p n x) (hk : Kept S w w') (hs : ¬ S p) : IsSet w' p n x := (hk.block p (lt_of_some h) hs).trans h
theorem IsSet.set {w : World} {p n x : Nat} (h : IsSet w p n x) (y : Nat) : IsSet (w.setCell ⟨p, 1, none⟩ (.int .u64 (y : Int))) p n y := by
  unfold IsSet
  rw [heap_setCell_same w p 1 _ _ _ h]
  rfl

theorem newB (w : World) (o : Obj) : (w.alloc o).heap[w.heap.size]? = some o := by
  show (w.heap.push o)[w.heap.size]? = some o
  simp

def mayB (n : Nat) (i : Int) : Bool := decide (0 ≤ i ∧ i < (n : Int))
def hasB (n x : Nat) (i : Int) : Bool := mayB n i && x.testBit i.toNat

set_option maxRecDepth 100000 in
set_option maxHeartbeats 400000 in
theorem snew_bad (n : Int) (w : World) (h : n < 0 ∨ 64 < n) :
    Calls Tryz.prog 121 #[.int .i64 n] w fun e w' => e = .returned (.tuple #[.pointer none, .iface 87 (.int .i64 1)]) ∧ w' = w := by
  by_cases h1 : n < 0
  · have g1 : decide (n < 0) = true := decide_eq_true h1
    go_enter Tryz.func121, Tryz.ntmps121
    go_wp2
    go_ret2
    exact ⟨rfl, rfl⟩
  · have g1 : decide (n < 0) = false := decide_eq_false h1
    have g2 : decide (64 < n) = true := decide_eq_true (by omega)
    go_enter Tryz.func121, Tryz.ntmps121
    go_wp2
    go_ret2
    exact ⟨rfl, rfl⟩

set_option maxRecDepth 100000 in
set_option maxHeartbeats 400000 in
theorem snew_good (n : Nat) (w : World) (h : n ≤ 64) :
    Calls Tryz.prog 121 #[.int .i64 (n : Int)] w fun e w' => e = .returned (.tuple #[.pointer (some ⟨w.heap.size, 0, none⟩), .nilIface]) ∧ IsSet w' w.heap.size n 0 ∧ Below w.heap.size w w' := by
  have g1 : decide ((n : Int) < 0) = false := decide_eq_false (by omega)
  have g2 : decide (64 < (n : Int)) = false := decide_eq_false (by omega)
  go_enter Tryz.func121, Tryz.ntmps121
  go_wp2
  go_ret2
  exact ⟨rfl, newB w _, (Below.refl _ w).alloc (Nat.le_refl _) _⟩

theorem set_start (n : Nat) (h : n ≤ 64) : SetOk n 0 := ⟨h, fun i _ => Nat.zero_testBit i⟩

set_option maxRecDepth 100000 in
set_option maxHeartbeats 400000 in
theorem smay_any {p n x : Nat} (i : Int) (w : World) (h : IsSet w p n x) :
    Calls Tryz.prog 158 #[.pointer (some ⟨p, 0, none⟩), .int .i64 i] w fun e w' => e = .returned (.bool (mayB n i)) ∧ w' = w := by
  obtain ⟨c0, c1, fz⟩ := h.cells
  clear h
  by_cases h0 : 0 ≤ i
  · have g0 : decide (0 ≤ i) = true := decide_eq_true h0
    have HF : Hid (decide (i < (n : Int)) = mayB n i) := by unfold Hid mayB; simp [h0]
    go_enter Tryz.func158, Tryz.ntmps158
    go_wp2
    go_ret
    exact ⟨ret_lb HF.out, rfl⟩
  · have g0 : decide (0 ≤ i) = false := decide_eq_false h0
    have HF : Hid (false = mayB n i) := by unfold Hid mayB; simp [h0]
    go_enter Tryz.func158, Tryz.ntmps158
    go_wp2
    go_ret
    exact ⟨ret_lb HF.out, rfl⟩

theorem bit_word (x k : Nat) (hx : x < 18446744073709551616) : (bits BinOp.and .u64 ((x : Int) / 2 ^ k) 1 == 1) = x.testBit k := by
  have h1 : x / 2 ^ k < 18446744073709551616 := Nat.lt_of_le_of_lt (Nat.div_le_self _ _) hx
  have e1 : bits BinOp.and .u64 ((x / 2 ^ k : Nat) : Int) ((1 : Nat) : Int) = ((x / 2 ^ k &&& 1 : Nat) : Int) := bits_and_u64_nat _ 1 h1 (by decide)
  have e2 : ((x / 2 ^ k : Nat) : Int) = (x : Int) / 2 ^ k := by rw [Int.natCast_ediv, Int.natCast_pow]; rfl
  rw [← e2]
  show (bits BinOp.and .u64 ((x / 2 ^ k : Nat) : Int) ((1 : Nat) : Int) == 1) = _
  rw [e1, Nat.testBit_eq_decide_div_mod_eq, Nat.and_one_is_mod]
  rcases Nat.mod_two_eq_zero_or_one (x / 2 ^ k) with q | q <;> rw [q] <;> rfl

set_option maxRecDepth 100000 in
set_option maxHeartbeats 400000 in
theorem shas_any {p n x : Nat} (i : Int) (w : World) (h : IsSet w p n x) (hok : SetOk n x) :
    Calls Tryz.prog 159 #[.pointer (some ⟨p, 0, none⟩), .int .i64 i] w fun e w' => e = .returned (.bool (hasB n x i)) ∧ w' = w := by
  have h1 := smay_any i w h
  obtain ⟨c0, c1, fz⟩ := h.cells
  have hx := hok.lt
  have hn := hok.n1
  clear h hok
  cases hm : mayB n i with
  | false =>
    rw [hm] at h1
    have HF : Hid (false = hasB n x i) := by unfold Hid hasB; simp [hm]
    go_enter Tryz.func159, Tryz.ntmps159
    go_wp2_with fail
    refine h1.mono ?_
    rintro e w' ⟨rfl, hw⟩
    have hw' := hw.symm
    subst hw'
    clear hw
    go_wp2
    go_ret
    exact ⟨ret_lb HF.out, rfl⟩
  | true =>
    rw [hm] at h1
    obtain ⟨k, rfl⟩ : ∃ k : Nat, i = k := ⟨i.toNat, by unfold mayB at hm; simp at hm; omega⟩
    have hk : k < n := by unfold mayB at hm; simp at hm; omega
    have HF : Hid ((bits BinOp.and .u64 ((x : Int) / 2 ^ k) 1 == 1) = hasB n x (k : Int)) := by
      unfold Hid hasB
      rw [hm, Bool.true_and, Int.toNat_natCast, bit_word x k hx]
    go_enter Tryz.func159, Tryz.ntmps159
    go_wp2_with fail
    refine h1.mono ?_
    rintro e w' ⟨rfl, hw⟩
    have hw' := hw.symm
    subst hw'
    clear hw
    go_wp2
    go_ret
    exact ⟨ret_lb HF.out, rfl⟩

theorem and_i64 (a : Nat) (ha : a < 9223372036854775808) : bits .and .i64 (a : Int) 127 = ((a % 128 : Nat) : Int) := by
  have h1 : (BitVec.ofInt 64 (a : Int)).toNat = a := by
    rw [BitVec.ofInt_natCast, BitVec.toNat_ofNat]; exact Nat.mod_eq_of_lt (by omega)
  have h2 : (BitVec.ofInt 64 (127 : Int)).toNat = 127 := by decide
  have h3 : a &&& 127 = a % 128 := Nat.and_two_pow_sub_one_eq_mod a 7
  show IntKind.i64.wrap ((BitVec.ofInt 64 (a : Int) &&& BitVec.ofInt 64 (127 : Int)).toNat : Int) = _
  rw [BitVec.toNat_and, h1, h2, h3]
  exact IntWalk.i64_in _ (by omega)

theorem wrap_nat (a : Nat) (ha : a < 18446744073709551616) : IntKind.u64.wrap (a : Int) = (a : Int) := by
  rw [IntKind.wrap_u64]; omega

theorem and_nat (a m : Nat) (ha : a < 18446744073709551616) (hm : m < 18446744073709551616) : bits .and .u64 (a : Int) (m : Int) = ((a &&& m : Nat) : Int) := bits_and_u64_nat a m ha hm

theorem q1_nat (x : Nat) (hx : x < 18446744073709551616) : IntKind.u64.wrap (bits .and .u64 ((x : Int) / 2) 6148914691236517205 + bits .and .u64 (x : Int) 6148914691236517205) = ((o1 x : Nat) : Int) := by
  have e1 := and_nat (x / 2) 6148914691236517205 (by omega) (by decide)
  have e2 := and_nat x 6148914691236517205 hx (by decide)
  have e3 : ((x / 2 : Nat) : Int) = (x : Int) / 2 := by omega
  rw [e3] at e1
  have e1' : bits .and .u64 ((x : Int) / 2) 6148914691236517205 = ((x / 2 &&& 6148914691236517205 : Nat) : Int) := e1
  have e2' : bits .and .u64 (x : Int) 6148914691236517205 = ((x &&& 6148914691236517205 : Nat) : Int) := e2
  rw [e1', e2', ← Int.natCast_add]
  exact wrap_nat _ (o1_lt x hx)

theorem q2_nat (y : Nat) (hy : y < 18446744073709551616) (hl : o2 y < 18446744073709551616) : IntKind.u64.wrap (bits .and .u64 ((y : Int) / 4) 3689348814741910323 + bits .and .u64 (y : Int) 3689348814741910323) = ((o2 y : Nat) : Int) := by
  have e1 := and_nat (y / 4) 3689348814741910323 (by omega) (by decide)
  have e2 := and_nat y 3689348814741910323 hy (by decide)
  have e3 : ((y / 4 : Nat) : Int) = (y : Int) / 4 := by omega
  rw [e3] at e1
  have e1' : bits .and .u64 ((y : Int) / 4) 3689348814741910323 = ((y / 4 &&& 3689348814741910323 : Nat) : Int) := e1
  have e2' : bits .and .u64 (y : Int) 3689348814741910323 = ((y &&& 3689348814741910323 : Nat) : Int) := e2
  rw [e1', e2', ← Int.natCast_add]
  exact wrap_nat _ hl

theorem q3_nat (y : Nat) (hy : y < 4919131752989213765) : IntKind.u64.wrap ((y : Int) / 16 + (y : Int)) = ((y / 16 + y : Nat) : Int) ∧ bits .and .u64 ((y / 16 + y : Nat) : Int) 1085102592571150095 = ((o3 y : Nat) : Int) := by
  constructor
  · rw [IntKind.wrap_u64]; omega
  · exact and_nat (y / 16 + y) 1085102592571150095 (by omega) (by decide)

theorem q4_nat (y d : Nat) (h : y + y / d < 18446744073709551616) : IntKind.u64.wrap ((y : Int) + (y : Int) / (d : Int)) = ((y + y / d : Nat) : Int) := by
  rw [← Int.natCast_ediv, ← Int.natCast_add]
  exact wrap_nat _ h

set_option maxRecDepth 100000 in
set_option maxHeartbeats 400000 in
theorem ones_any (x : Nat) (w : World) (hx : x < 18446744073709551616) :
    Calls Tryz.prog 130 #[.int .u64 (x : Int)] w fun e w' => e = .returned (.int .i64 (cnt x 64 : Nat)) ∧ w' = w := by
  have q1 := q1_nat x hx
  have b1 := o1_lt x hx
  have b2 := o2_lt x hx
  obtain ⟨b3, b4, b5, b6, hlast⟩ := ones_end x hx
  generalize o1 x = y1 at q1 b1 b2 b3 b4 b5 b6 hlast
  have q2 := q2_nat y1 b1 (by omega)
  generalize o2 y1 = y2 at q2 b2 b3 b4 b5 b6 hlast
  obtain ⟨q3, q3'⟩ := q3_nat y2 b2
  generalize y2 / 16 + y2 = z2 at q3 q3'
  generalize o3 y2 = y3 at q3' b3 b4 b5 b6 hlast
  have q4 := q4_nat y3 256 (show o4 y3 < _ by omega)
  have q4' : IntKind.u64.wrap ((y3 : Int) + (y3 : Int) / 256) = ((o4 y3 : Nat) : Int) := q4
  generalize o4 y3 = y4 at q4' b4 b5 b6 hlast
  have q5 := q4_nat y4 65536 (show o5 y4 < _ by omega)
  have q5' : IntKind.u64.wrap ((y4 : Int) + (y4 : Int) / 65536) = ((o5 y4 : Nat) : Int) := q5
  generalize o5 y4 = y5 at q5' b5 b6 hlast
  have q6 := q4_nat y5 4294967296 (show o6 y5 < _ by omega)
  have q6' : IntKind.u64.wrap ((y5 : Int) + (y5 : Int) / 4294967296) = ((o6 y5 : Nat) : Int) := q6
  generalize o6 y5 = y6 at q6' b6 hlast
  have q7 := and_i64 y6 (by omega)
  have q8 : IntKind.i64.wrap (y6 : Int) = (y6 : Int) := IntWalk.i64_in _ (by omega)
  rw [hlast] at q7
  generalize cnt x 64 = c at q7 ⊢
  clear q4 q5 q6 b1 b2 b3 b4 b5 b6 hlast hx
  go_enter Tryz.func130, Tryz.ntmps130
  go_wp2
  go_ret
  exact ⟨rfl, rfl⟩

set_option maxRecDepth 100000 in
set_option maxHeartbeats 400000 in
theorem scount_any {p n x : Nat} (w : World) (h : IsSet w p n x) (hok : SetOk n x) :
    Calls Tryz.prog 63 #[.pointer (some ⟨p, 0, none⟩)] w fun e w' => e = .returned (.int .i64 (cnt x 64 : Nat)) ∧ w' = w := by
  have h1 := ones_any x w hok.lt
  obtain ⟨c0, c1, fz⟩ := h.cells
  clear h hok
  generalize cnt x 64 = c at h1 ⊢
  go_enter Tryz.func63, Tryz.ntmps63
  go_wp2_with fail
  refine h1.mono ?_
  rintro e w' ⟨rfl, hw⟩
  have hw' := hw.symm
  subst hw'
  clear hw
  go_wp2
  go_ret
  exact ⟨rfl, rfl⟩

/- What Put answers, and what the set then is. -/
def putB (n x : Nat) (i : Int) (b : Bool) : Bool := mayB n i && (hasB n x i != b)
def putV (n x : Nat) (i : Int) (b : Bool) : Nat := if putB n x i b then x ^^^ 2 ^ i.toNat else x

theorem putV_ok {n x : Nat} (h : SetOk n x) (i : Int) (b : Bool) : SetOk n (putV n x i b) := by
  unfold putV
  split
  · rename_i q
    have hm : mayB n i = true := by unfold putB at q; simp at q; exact q.1
    unfold mayB at hm
    simp at hm
    refine ⟨h.n1, fun j hj => ?_⟩
    rw [Nat.testBit_xor, h.hi j hj, Nat.testBit_two_pow_of_ne (by omega)]
    rfl
  · exact h

/- What the set has behind a Put. -/
theorem putV_bit {n x : Nat} (i : Int) (b : Bool) (j : Nat) : (putV n x i b).testBit j = if mayB n i = true ∧ i = (j : Int) then b else x.testBit j := by
  unfold putV putB
  cases hm : mayB n i with
  | false => simp
  | true =>
    obtain ⟨k, rfl⟩ : ∃ k : Nat, i = k := ⟨i.toNat, by unfold mayB at hm; simp at hm; omega⟩
    have hh : hasB n x (k : Int) = x.testBit k := by unfold hasB; rw [hm, Bool.true_and, Int.toNat_natCast]
    rw [hh, Bool.true_and, Int.toNat_natCast]
    by_cases e : k = j
    · subst e
      rw [if_pos (⟨rfl, rfl⟩ : true = true ∧ (k : Int) = (k : Int))]
      by_cases q : x.testBit k = b
      · have : ¬ (x.testBit k != b) = true := by simp [q]
        rw [if_neg this]; exact q
      · have : (x.testBit k != b) = true := by simpa using q
        rw [if_pos this, Nat.testBit_xor, Nat.testBit_two_pow_self]
        revert q
        cases x.testBit k <;> cases b <;> simp
    · have e' : ¬ (true = true ∧ (k : Int) = (j : Int)) := fun h => e (by have := h.2; omega)
      rw [if_neg e']
      split
      · rw [Nat.testBit_xor, Nat.testBit_two_pow_of_ne e]; simp
      · rfl

theorem xor_word (x k : Nat) (hx : x < 18446744073709551616) (hk : k < 64) : bits BinOp.xor .u64 (x : Int) (IntKind.u64.wrap (2 ^ k)) = ((x ^^^ 2 ^ k : Nat) : Int) := by
  have h1 : 2 ^ k < 18446744073709551616 := Nat.pow_lt_pow_right (by decide) hk
  have e : (2 : Int) ^ k = ((2 ^ k : Nat) : Int) := by rw [Int.natCast_pow]; rfl
  rw [e, wrap_nat _ h1]
  exact bits_xor_u64_nat _ _ hx h1

set_option maxRecDepth 100000 in
set_option maxHeartbeats 400000 in
theorem sput_any {p n x : Nat} (i : Int) (b : Bool) (w : World) (h : IsSet w p n x) (hok : SetOk n x) :
    Calls Tryz.prog 117 #[.pointer (some ⟨p, 0, none⟩), .int .i64 i, .bool b] w fun e w' => e = .returned (.bool (putB n x i b)) ∧ IsSet w' p n (putV n x i b) ∧ Kept (fun k => k = p) w w' := by
  have h1 := smay_any i w h
  have h2 := shas_any i w h hok
  have HH := toHid h
  obtain ⟨c0, c1, fz⟩ := h.cells
  have hx := hok.lt
  have hn := hok.n1
  clear h hok
  cases hm : mayB n i with
  | false =>
    rw [hm] at h1
    have e1 : putB n x i b = false := by unfold putB; simp [hm]
    have e2 : putV n x i b = x := by unfold putV; simp [e1]
    rw [e1, e2]
    go_enter Tryz.func117, Tryz.ntmps117
    go_wp2_with fail
    refine h1.mono ?_
    rintro e w' ⟨rfl, hw⟩
    have hw' := hw.symm
    subst hw'
    clear hw
    go_wp2
    go_ret
    exact ⟨rfl, HH.out, Kept.refl _ w⟩
  | true =>
    rw [hm] at h1
    have e0 : putB n x i b = (hasB n x i != b) := by unfold putB; simp [hm]
    generalize hh : hasB n x i = hb at h2 e0
    cases hq : (hb != b) with
    | false =>
      have e1 : putB n x i b = false := e0.trans hq
      have e2 : putV n x i b = x := by unfold putV; simp [e1]
      have e3 : (hb == b) = true := by revert hq; cases hb <;> cases b <;> simp
      rw [e1, e2]
      clear e0 e1 e2 hq hh
      go_enter Tryz.func117, Tryz.ntmps117
      go_wp2_with fail
      refine h1.mono ?_
      rintro e w' ⟨rfl, hw⟩
      have hw' := hw.symm
      subst hw'
      clear hw
      go_wp2_with fail
      refine h2.mono ?_
      rintro e w' ⟨rfl, hw⟩
      have hw' := hw.symm
      subst hw'
      clear hw
      go_wp2
      go_ret
      exact ⟨rfl, HH.out, Kept.refl _ w⟩
    | true =>
      have e1 : putB n x i b = true := e0.trans hq
      have e2 : putV n x i b = x ^^^ 2 ^ i.toNat := by unfold putV; simp [e1]
      have e3 : (hb == b) = false := by revert hq; cases hb <;> cases b <;> simp
      rw [e1, e2]
      clear e0 e1 e2 hq hh
      obtain ⟨k, rfl⟩ : ∃ k : Nat, i = k := ⟨i.toNat, by unfold mayB at hm; simp at hm; omega⟩
      have hk : k < 64 := by unfold mayB at hm; simp at hm; omega
      rw [Int.toNat_natCast]
      have HX : Hid (bits BinOp.xor .u64 (x : Int) (IntKind.u64.wrap (2 ^ k)) = ((x ^^^ 2 ^ k : Nat) : Int)) := xor_word x k hx hk
      go_enter Tryz.func117, Tryz.ntmps117
      go_wp2_with fail
      refine h1.mono ?_
      rintro e w' ⟨rfl, hw⟩
      have hw' := hw.symm
      subst hw'
      clear hw
      go_wp2_with fail
      refine h2.mono ?_
      rintro e w' ⟨rfl, hw⟩
      have hw' := hw.symm
      subst hw'
      clear hw
      go_wp2_with fail
      go_region
      go_wp2
      go_ret
      exact ⟨rfl, by rw [HX.out]; exact HH.out.set _, (Kept.setCell (S := fun k => k = p) (Kept.refl _ w) (p := ⟨p, 1, none⟩) (.inl rfl) _).drew⟩
end Go.Proofs.YtjegaljdindfaabGreatDoor.S4
