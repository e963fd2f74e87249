/-
How many bits of a number of 64 are 1: the sum by halves, quarters and bytes is that count.
-/
import Derived.Test.YtonhoahnieoebabGreatDoorRows
namespace Go.Proofs.YtonhoahnieoebabGreatDoor.S4

/- How many of the first n bits are 1. -/
def cnt (x : Nat) : Nat → Nat
  | 0 => 0
  | k + 1 => cnt x k + if x.testBit k then 1 else 0

theorem cnt_le (x n : Nat) : cnt x n ≤ n := by
  induction n with
  | zero => exact Nat.le_refl _
  | succ n ih => show cnt x n + _ ≤ _; split <;> omega

theorem cnt_add (x a b : Nat) : cnt x (a + b) = cnt x a + cnt (x / 2 ^ a) b := by
  induction b with
  | zero => rfl
  | succ b ih =>
    show cnt x (a + b) + (if x.testBit (a + b) then 1 else 0) = cnt x a + (cnt (x / 2 ^ a) b + if (x / 2 ^ a).testBit b then 1 else 0)
    rw [ih, Nat.testBit_div_two_pow, Nat.add_comm b a]; omega

theorem cnt_mod (x a : Nat) : cnt x a = cnt (x % 2 ^ a) a := by
  have : ∀ k, k ≤ a → cnt x k = cnt (x % 2 ^ a) k := by
    intro k
    induction k with
    | zero => intro _; rfl
    | succ k ih =>
      intro hk
      show cnt x k + _ = cnt (x % 2 ^ a) k + _
      rw [ih (by omega), Nat.testBit_mod_two_pow]
      simp [show k < a by omega]
  exact this a (Nat.le_refl _)

theorem and_split (a b A B : Nat) (ha : a < 256) (hb : b < 256) : (a + 256 * A) &&& (b + 256 * B) = (a &&& b) + 256 * (A &&& B) := by
  have hab : a &&& b < 2 ^ 8 := Nat.and_lt_two_pow _ hb
  have h1 : ∀ (x X : Nat), x + 256 * X = 2 ^ 8 * X + x := fun x X => by omega
  rw [h1, h1, h1]
  apply Nat.eq_of_testBit_eq
  intro i
  rw [Nat.testBit_and, Nat.testBit_two_pow_mul_add _ ha, Nat.testBit_two_pow_mul_add _ hb, Nat.testBit_two_pow_mul_add _ hab]
  split
  · rw [Nat.testBit_and]
  · rw [Nat.testBit_and]

/- The three steps at a byte. -/
def g1 (b : Nat) : Nat := (b / 2 &&& 85) + (b &&& 85)
def g2 (b : Nat) : Nat := (b / 4 &&& 51) + (b &&& 51)
def g3 (b : Nat) : Nat := (b / 16 + b) &&& 15

def bytes (f : Nat → Nat) : Nat → Nat → Nat
  | 0, _ => 0
  | k + 1, x => f (x % 256) + 256 * bytes f k (x / 256)

def rep (c : Nat) : Nat → Nat
  | 0 => 0
  | k + 1 => c + 256 * rep c k

theorem g1_lt : ∀ b, b < 256 → g1 b < 256 := by decide +kernel
theorem g1_hi : ∀ b, b < 256 → ((b / 2 + 128) &&& 85) = (b / 2 &&& 85) := by decide +kernel
theorem g2_lt : ∀ b, b < 256 → g2 (g1 b) < 256 := by decide +kernel
theorem g2_hi : ∀ b, b < 256 → ∀ c, c < 4 → ((b / 4 + 64 * c) &&& 51) = (b / 4 &&& 51) := by decide +kernel
theorem g3_ok : ∀ b, b < 256 → g3 (g2 (g1 b)) = cnt b 8 := by decide +kernel
theorem g2_small : ∀ b, b < 256 → g2 (g1 b) % 16 ≤ 4 ∧ g2 (g1 b) / 16 ≤ 4 := by decide +kernel
theorem lo4 : ∀ a, a ≤ 4 → ∀ b, b ≤ 4 → ∀ c, c ≤ 4 → ((a + 16 * b) / 16 + 16 * c + (a + 16 * b)) &&& 15 = ((a + 16 * b) / 16 + (a + 16 * b)) &&& 15 := by decide +kernel

theorem step1 (k : Nat) : ∀ x, x < 256 ^ k → (x / 2 &&& rep 85 k) + (x &&& rep 85 k) = bytes g1 k x := by
  induction k with
  | zero => intro x hx; simp at hx; subst hx; rfl
  | succ k ih =>
    intro x hx
    have hx' : x / 256 < 256 ^ k := by rw [Nat.pow_succ] at hx; omega
    have h := ih (x / 256) hx'
    show (x / 2 &&& (85 + 256 * rep 85 k)) + (x &&& (85 + 256 * rep 85 k)) = g1 (x % 256) + 256 * bytes g1 k (x / 256)
    rw [← h]
    have e1 : x / 2 = (x % 256 / 2 + 128 * (x / 256 % 2)) + 256 * (x / 256 / 2) := by omega
    have e2 : x &&& (85 + 256 * rep 85 k) = (x % 256 &&& 85) + 256 * (x / 256 &&& rep 85 k) := by
      rw [← and_split (x % 256) 85 _ _ (by omega) (by omega)]; congr 1; omega
    have e3 : x / 2 &&& (85 + 256 * rep 85 k) = (x % 256 / 2 &&& 85) + 256 * (x / 256 / 2 &&& rep 85 k) := by
      rw [e1, and_split _ 85 _ _ (by omega) (by omega)]
      congr 1
      rcases Nat.mod_two_eq_zero_or_one (x / 256) with q | q <;> rw [q]
      · simp
      · exact g1_hi _ (by omega)
    rw [e2, e3]; unfold g1; omega

theorem step2 (k : Nat) : ∀ x, x < 256 ^ k → (x / 4 &&& rep 51 k) + (x &&& rep 51 k) = bytes g2 k x := by
  induction k with
  | zero => intro x hx; simp at hx; subst hx; rfl
  | succ k ih =>
    intro x hx
    have hx' : x / 256 < 256 ^ k := by rw [Nat.pow_succ] at hx; omega
    have h := ih (x / 256) hx'
    show (x / 4 &&& (51 + 256 * rep 51 k)) + (x &&& (51 + 256 * rep 51 k)) = g2 (x % 256) + 256 * bytes g2 k (x / 256)
    rw [← h]
    have e1 : x / 4 = (x % 256 / 4 + 64 * (x / 256 % 4)) + 256 * (x / 256 / 4) := by omega
    have e2 : x &&& (51 + 256 * rep 51 k) = (x % 256 &&& 51) + 256 * (x / 256 &&& rep 51 k) := by
      rw [← and_split (x % 256) 51 _ _ (by omega) (by omega)]; congr 1; omega
    have e3 : x / 4 &&& (51 + 256 * rep 51 k) = (x % 256 / 4 &&& 51) + 256 * (x / 256 / 4 &&& rep 51 k) := by
      rw [e1, and_split _ 51 _ _ (by omega) (by omega)]
      congr 1
      exact g2_hi _ (by omega) _ (by omega)
    rw [e2, e3]; unfold g2; omega

/- A number all of whose half bytes are 4 at most. -/
def low : Nat → Nat → Prop
  | 0, x => x = 0
  | k + 1, x => x % 256 % 16 ≤ 4 ∧ x % 256 / 16 ≤ 4 ∧ low k (x / 256)

theorem low_first {k x : Nat} (h : low k x) : x % 16 ≤ 4 := by
  cases k with
  | zero => simp [show x = 0 from h]
  | succ k => have := h.1; omega

theorem step3 (k : Nat) : ∀ x, low k x → ((x / 16 + x) &&& rep 15 k) = bytes g3 k x := by
  induction k with
  | zero => intro x hx; rw [show x = 0 from hx]; rfl
  | succ k ih =>
    intro x hx
    obtain ⟨h1, h2, h3⟩ := hx
    have h := ih (x / 256) h3
    have h4 := low_first h3
    show ((x / 16 + x) &&& (15 + 256 * rep 15 k)) = g3 (x % 256) + 256 * bytes g3 k (x / 256)
    rw [← h]
    have e1 : x / 16 + x = (x % 256 / 16 + 16 * (x / 256 % 16) + x % 256) + 256 * (x / 256 / 16 + x / 256) := by omega
    rw [e1, and_split _ 15 _ _ (by omega) (by omega)]
    congr 1
    unfold g3
    have := lo4 (x % 256 % 16) h1 (x % 256 / 16) h2 (x / 256 % 16) h4
    rw [show x % 256 % 16 + 16 * (x % 256 / 16) = x % 256 by omega] at this
    exact this

theorem bytes_mod (f : Nat → Nat) (k x : Nat) (hf : f (x % 256) < 256) : bytes f (k + 1) x % 256 = f (x % 256) ∧ bytes f (k + 1) x / 256 = bytes f k (x / 256) := by
  show (f (x % 256) + 256 * bytes f k (x / 256)) % 256 = _ ∧ (f (x % 256) + 256 * bytes f k (x / 256)) / 256 = _
  omega

theorem bytes_lt (f : Nat → Nat) (hf : ∀ b, b < 256 → f b < 256) (k : Nat) : ∀ x, bytes f k x < 256 ^ k := by
  induction k with
  | zero => intro x; exact Nat.one_pos
  | succ k ih =>
    intro x
    have := ih (x / 256)
    have := hf (x % 256) (by omega)
    show f (x % 256) + 256 * bytes f k (x / 256) < 256 ^ k * 256
    omega

theorem bytes_two (f g : Nat → Nat) (hf : ∀ b, b < 256 → f b < 256) (k : Nat) : ∀ x, bytes g k (bytes f k x) = bytes (fun b => g (f b)) k x := by
  induction k with
  | zero => intro x; rfl
  | succ k ih =>
    intro x
    obtain ⟨h1, h2⟩ := bytes_mod f k x (hf _ (by omega))
    show g (bytes f (k + 1) x % 256) + 256 * bytes g k (bytes f (k + 1) x / 256) = g (f (x % 256)) + 256 * bytes (fun b => g (f b)) k (x / 256)
    rw [h1, h2, ih]

theorem low_bytes (k : Nat) : ∀ x, low k (bytes (fun b => g2 (g1 b)) k x) := by
  induction k with
  | zero => intro x; rfl
  | succ k ih =>
    intro x
    obtain ⟨h1, h2⟩ := bytes_mod (fun b => g2 (g1 b)) k x (g2_lt _ (by omega))
    have := g2_small (x % 256) (by omega)
    exact ⟨by rw [h1]; exact this.1, by rw [h1]; exact this.2, by rw [h2]; exact ih _⟩

theorem bytes_congr (f g : Nat → Nat) (h : ∀ b, b < 256 → f b = g b) (k : Nat) : ∀ x, bytes f k x = bytes g k x := by
  induction k with
  | zero => intro x; rfl
  | succ k ih => intro x; show f _ + 256 * bytes f k _ = g _ + 256 * bytes g k _; rw [h _ (by omega), ih]

def sum (k : Nat) (x : Nat) : Nat := match k with
  | 0 => 0
  | k + 1 => cnt (x % 256) 8 + sum k (x / 256)

theorem sum_cnt (k : Nat) : ∀ x, sum k x = cnt x (8 * k) := by
  induction k with
  | zero => intro x; rfl
  | succ k ih =>
    intro x
    show cnt (x % 256) 8 + sum k (x / 256) = _
    rw [show 8 * (k + 1) = 8 + 8 * k by omega, cnt_add, ih, cnt_mod x 8]

def o1 (x : Nat) : Nat := (x / 2 &&& 6148914691236517205) + (x &&& 6148914691236517205)
def o2 (x : Nat) : Nat := (x / 4 &&& 3689348814741910323) + (x &&& 3689348814741910323)
def o3 (x : Nat) : Nat := (x / 16 + x) &&& 1085102592571150095

theorem o1_lt (x : Nat) (hx : x < 18446744073709551616) : o1 x < 18446744073709551616 := by
  have : rep 85 8 = 6148914691236517205 := by decide +kernel
  unfold o1; rw [← this, step1 8 x hx]; exact bytes_lt g1 g1_lt 8 x
theorem o1_eq (x : Nat) (hx : x < 18446744073709551616) : o1 x = bytes g1 8 x := by
  have : rep 85 8 = 6148914691236517205 := by decide +kernel
  unfold o1; rw [← this, step1 8 x hx]
theorem o2_eq (x : Nat) (hx : x < 18446744073709551616) : o2 (o1 x) = bytes (fun b => g2 (g1 b)) 8 x := by
  have : rep 51 8 = 3689348814741910323 := by decide +kernel
  unfold o2; rw [← this, step2 8 _ (o1_lt x hx), o1_eq x hx, bytes_two g1 g2 g1_lt]
theorem o3_eq (x : Nat) (hx : x < 18446744073709551616) : o3 (o2 (o1 x)) = bytes (fun b => cnt b 8) 8 x := by
  have : rep 15 8 = 1085102592571150095 := by decide +kernel
  unfold o3
  rw [← this, o2_eq x hx, step3 8 _ (low_bytes 8 x), bytes_two _ g3 g2_lt]
  exact bytes_congr _ _ g3_ok 8 x
theorem bytes_rep (f : Nat → Nat) (c : Nat) (hf : ∀ b, b < 256 → f b ≤ c) (k : Nat) : ∀ x, bytes f k x ≤ rep c k := by
  induction k with
  | zero => intro x; exact Nat.le_refl _
  | succ k ih =>
    intro x
    have := ih (x / 256)
    have := hf (x % 256) (by omega)
    show f (x % 256) + 256 * bytes f k (x / 256) ≤ c + 256 * rep c k
    omega
theorem g2_68 : ∀ b, b < 256 → g2 (g1 b) ≤ 68 := by decide +kernel
theorem o2_lt (x : Nat) (hx : x < 18446744073709551616) : o2 (o1 x) < 4919131752989213765 := by
  have h := bytes_rep (fun b => g2 (g1 b)) 68 g2_68 8 x
  rw [← o2_eq x hx, show rep 68 8 = 4919131752989213764 by decide +kernel] at h
  omega


theorem dig_a (p Y : Nat) (h : p ≤ 8) : (p + 256 * Y) / 256 = Y := by omega
theorem dig_b (p0 p1 p2 Y2 Y3 : Nat) (h0 : p0 ≤ 8) (h1 : p1 ≤ 8) (h2 : p2 ≤ 8) (h3 : Y2 = p2 + 256 * Y3) :
    (p0 + 256 * (p1 + 256 * Y2) + (p1 + 256 * Y2)) / 65536 = Y2 + Y3 := by omega
theorem low_c (q0 q1 q2 q3 S : Nat) (h0 : q0 ≤ 32) (h1 : q1 ≤ 32) (h2 : q2 ≤ 32) (h3 : q3 ≤ 32) : (q0 + 256 * q1 + 65536 * q2 + 16777216 * q3 + 4294967296 * S) / 4294967296 = S := by omega
theorem dig_d (q S : Nat) (h : q ≤ 64) : (q + 256 * S) % 128 = q := by omega

theorem ones_sum (p0 p1 p2 p3 p4 p5 p6 p7 Y1 Y2 Y3 Y4 Y5 Y6 y : Nat) (l0 : p0 ≤ 8) (l1 : p1 ≤ 8) (l2 : p2 ≤ 8) (l3 : p3 ≤ 8) (l4 : p4 ≤ 8) (l5 : p5 ≤ 8) (l6 : p6 ≤ 8) (l7 : p7 ≤ 8)
    (e6 : Y6 = p6 + 256 * p7) (e5 : Y5 = p5 + 256 * Y6) (e4 : Y4 = p4 + 256 * Y5) (e3 : Y3 = p3 + 256 * Y4) (e2 : Y2 = p2 + 256 * Y3) (e1 : Y1 = p1 + 256 * Y2) (e0 : y = p0 + 256 * Y1) :
    y ≤ 578721382704613384 ∧ y / 256 = Y1 ∧ Y1 ≤ 2260630401189896 ∧ (y + Y1) / 65536 = Y2 + Y3 ∧ Y2 + Y3 ≤ 17661175009296 ∧ (y + Y1 + (Y2 + Y3)) / 4294967296 = Y4 + Y5 + Y6 + p7 ∧ Y4 + Y5 + Y6 + p7 ≤ 1000000000 ∧
      (y + Y1 + (Y2 + Y3) + (Y4 + Y5 + Y6 + p7)) % 128 = p0 + p1 + p2 + p3 + p4 + p5 + p6 + p7 := by
  have b6 : Y6 ≤ 2056 := by omega
  have b5 : Y5 ≤ 526344 := by clear e4 e3 e2 e1 e0; omega
  have b4 : Y4 ≤ 134744072 := by clear e3 e2 e1 e0 e5 e6; omega
  have b3 : Y3 ≤ 34494482440 := by clear e2 e1 e0 e4 e5 e6; omega
  have b2 : Y2 ≤ 8830587504648 := by clear e1 e0 e3 e4 e5 e6; omega
  have b1 : Y1 ≤ 2260630401189896 := by clear e0 e2 e3 e4 e5 e6; omega
  have b0 : y ≤ 578721382704613384 := by clear e1 e2 e3 e4 e5 e6; omega
  refine ⟨b0, ?_, b1, ?_, ?_, ?_, ?_, ?_⟩
  · rw [e0]; exact dig_a _ _ l0
  · have := dig_b p0 p1 p2 Y2 Y3 l0 l1 l2 e2
    rw [← e1, ← e0] at this; exact this
  · clear e0 e1 e2 e3 e4 e5 e6; omega
  · have key : y + Y1 + (Y2 + Y3) = (p0 + p1 + p2 + p3) + 256 * (p1 + p2 + p3 + p4) + 65536 * (p2 + p3 + p4 + p5) + 16777216 * (p3 + p4 + p5 + p6) + 4294967296 * (Y4 + Y5 + Y6 + p7) := by
      clear l0 l1 l2 l3 l4 l5 l6 l7 b0 b1 b2 b3 b4 b5 b6
      subst e0 e1 e2 e3 e4 e5 e6
      simp only [Nat.mul_add, ← Nat.mul_assoc, Nat.reduceMul]
      omega
    rw [key]; exact low_c _ _ _ _ _ (by clear key e0 e1 e2 e3 e4 e5 e6; omega) (by clear key e0 e1 e2 e3 e4 e5 e6; omega) (by clear key e0 e1 e2 e3 e4 e5 e6; omega) (by clear key e0 e1 e2 e3 e4 e5 e6; omega)
  · clear e0 e1 e2 e3 e4 e5 e6; omega
  · have key : y + Y1 + (Y2 + Y3) + (Y4 + Y5 + Y6 + p7) = (p0 + p1 + p2 + p3 + p4 + p5 + p6 + p7) + 256 * (Y1 + Y2 + Y3 + Y4 + Y5 + Y6 + p7) := by
      clear l0 l1 l2 l3 l4 l5 l6 l7 b0 b1 b2 b3 b4 b5 b6
      omega
    rw [key]; exact dig_d _ _ (by clear key e0 e1 e2 e3 e4 e5 e6; omega)

def o4 (x : Nat) : Nat := x + x / 256
def o5 (x : Nat) : Nat := x + x / 65536
def o6 (x : Nat) : Nat := x + x / 4294967296

theorem ones_end (x : Nat) (hx : x < 18446744073709551616) : o3 (o2 (o1 x)) ≤ 578721382704613384 ∧ o4 (o3 (o2 (o1 x))) ≤ 580982013105803280 ∧ o5 (o4 (o3 (o2 (o1 x)))) ≤ 580999674280812576 ∧ o6 (o5 (o4 (o3 (o2 (o1 x))))) ≤ 580999675280812576 ∧ o6 (o5 (o4 (o3 (o2 (o1 x))))) % 128 = cnt x 64 := by
  rw [o3_eq x hx, show (64 : Nat) = 8 * 8 by rfl, ← sum_cnt]
  have l0 := cnt_le (x % 256) 8
  have l1 := cnt_le (x / 256 % 256) 8
  have l2 := cnt_le (x / 256 / 256 % 256) 8
  have l3 := cnt_le (x / 256 / 256 / 256 % 256) 8
  have l4 := cnt_le (x / 256 / 256 / 256 / 256 % 256) 8
  have l5 := cnt_le (x / 256 / 256 / 256 / 256 / 256 % 256) 8
  have l6 := cnt_le (x / 256 / 256 / 256 / 256 / 256 / 256 % 256) 8
  have l7 := cnt_le (x / 256 / 256 / 256 / 256 / 256 / 256 / 256 % 256) 8
  obtain ⟨a0, a1, a2, a3, a4, a5, a6, a7⟩ := ones_sum _ _ _ _ _ _ _ _ _ _ _ _ _ _ _ l0 l1 l2 l3 l4 l5 l6 l7 rfl rfl rfl rfl rfl rfl rfl
  have e : bytes (fun b => cnt b 8) 8 x = cnt (x % 256) 8 + 256 * (cnt (x / 256 % 256) 8 + 256 * (cnt (x / 256 / 256 % 256) 8 + 256 * (cnt (x / 256 / 256 / 256 % 256) 8 + 256 * (cnt (x / 256 / 256 / 256 / 256 % 256) 8 + 256 * (cnt (x / 256 / 256 / 256 / 256 / 256 % 256) 8 + 256 * (cnt (x / 256 / 256 / 256 / 256 / 256 / 256 % 256) 8 + 256 * cnt (x / 256 / 256 / 256 / 256 / 256 / 256 / 256 % 256) 8)))))) := by
    simp only [bytes, Nat.mul_zero, Nat.add_zero]
  have e' : sum 8 x = cnt (x % 256) 8 + cnt (x / 256 % 256) 8 + cnt (x / 256 / 256 % 256) 8 + cnt (x / 256 / 256 / 256 % 256) 8 + cnt (x / 256 / 256 / 256 / 256 % 256) 8 + cnt (x / 256 / 256 / 256 / 256 / 256 % 256) 8 + cnt (x / 256 / 256 / 256 / 256 / 256 / 256 % 256) 8 + cnt (x / 256 / 256 / 256 / 256 / 256 / 256 / 256 % 256) 8 := by
    simp only [sum, Nat.add_assoc, Nat.add_zero]
  rw [← e] at a0 a1 a3 a5 a7
  rw [← e'] at a7
  generalize bytes (fun b => cnt b 8) 8 x = y at a0 a1 a3 a5 a7 ⊢
  obtain ⟨Y1, hY1⟩ : ∃ Y1, y / 256 = Y1 := ⟨_, rfl⟩
  rw [← a1, hY1] at a2 a3 a5 a7
  obtain ⟨Y2, hY2⟩ : ∃ Y2, (y + Y1) / 65536 = Y2 := ⟨_, rfl⟩
  rw [← a3, hY2] at a4 a5 a7
  obtain ⟨Y3, hY3⟩ : ∃ Y3, (y + Y1 + Y2) / 4294967296 = Y3 := ⟨_, rfl⟩
  rw [← a5, hY3] at a6 a7
  have f4 : o4 y = y + Y1 := by unfold o4; rw [hY1]
  have f5 : o5 (o4 y) = y + Y1 + Y2 := by rw [f4]; unfold o5; rw [hY2]
  have f6 : o6 (o5 (o4 y)) = y + Y1 + Y2 + Y3 := by rw [f5]; unfold o6; rw [hY3]
  refine ⟨a0, ?_, ?_, ?_, ?_⟩
  · rw [f4]; exact Nat.le_trans (Nat.add_le_add a0 a2) (by decide)
  · rw [f5]; exact Nat.le_trans (Nat.add_le_add (Nat.add_le_add a0 a2) a4) (by decide)
  · rw [f6]; exact Nat.le_trans (Nat.add_le_add (Nat.add_le_add (Nat.add_le_add a0 a2) a4) a6) (by decide)
  · rw [f6]; exact a7
end Go.Proofs.YtonhoahnieoebabGreatDoor.S4
