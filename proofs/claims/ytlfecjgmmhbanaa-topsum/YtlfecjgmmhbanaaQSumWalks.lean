/-
The calls of package sum, over the translation: what each gives, and what it leaves of the world.
-/
import Derived.Test.YtlfecjgmmhbanaaRows
import Derived.Test.YtlfecjgmmhbanaaQMath
import Derived.WalkKit
import Derived.WalkSpells
import Derived.WalkLawsBesides
import Derived.Laws.BitsAllLaws
namespace Go.Proofs.Ytlfecjgmmhbanaa
open Go.RowKit

theorem ret_u32 {a b : Int} (h : a = b) : Ending.returned (.int .u32 a) = .returned (.int .u32 b) := by rw [h]

theorem stp_odd (m : Nat) (h : m < 4294967296) (e : ((m : Int) % 2 == 1) = true) : bits .xor .u32 ((m : Int) / 2) 3988292384 = (Crc.stp m : Int) := by
  have e1 : m % 2 = 1 := by have := beq_iff_eq.1 e; omega
  rw [u32_xor _ _ (by omega) (by omega) (by omega) (by omega)]
  unfold Crc.stp Crc.poly
  rw [if_pos e1]
  congr 2

theorem stp_even (m : Nat) (e : ((m : Int) % 2 == 1) = false) : ((m : Int) / 2) = (Crc.stp m : Int) := by
  have e1 : ¬ m % 2 = 1 := by have := beq_eq_false_iff_ne.1 e; omega
  unfold Crc.stp
  rw [if_neg e1]
  omega

theorem int_u32 {a b : Int} (h : a = b) : Value.int .u32 a = Value.int .u32 b := by rw [h]

set_option maxRecDepth 100000 in
set_option maxHeartbeats 400000 in
theorem step_any (s : Nat) (b : UInt8) (w : World) (hs : s < 4294967296) :
    Calls Try.prog 73 #[.int .u32 s, .int .u8 b.toNat] w fun e w' => e = .returned (.int .u32 (Crc.byt s b)) ∧ w' = w := by
  have hb := b.toNat_lt
  have hx : bits .xor .u32 (s : Int) (b.toNat : Int) = ((s ^^^ b.toNat : Nat) : Int) := u32_xor_nat s b.toNat hs (by omega)
  have hlt0 : s ^^^ b.toNat < 4294967296 := Nat.xor_lt_two_pow (n := 32) hs (by omega)
  go_enter Try.func73, Try.ntmps73
  go_wp2
  go_loop [0, 9] (fun t i => ∃ k : Nat, k ≤ 8 ∧ i = .int .i64 k ∧ t = .int .u32 (Crc.many k (s ^^^ b.toNat))) (fun _ i => 8 - (intOf i).toNat)
  case atStart => exact ⟨0, by omega, rfl, rfl⟩
  case round =>
    obtain ⟨k, hk, rfl, rfl⟩ := hrel
    have hm := Crc.many_lt k _ hlt0
    have HK : Hid (¬ k < 8 → Crc.many k (s ^^^ b.toNat) = Crc.byt s b) := by
      intro h
      have h8 : k = 8 := by omega
      rw [h8]; rfl
    have hs1 := Crc.many_succ k (s ^^^ b.toNat)
    have HS : Hid (Crc.many (k + 1) (s ^^^ b.toNat) = Crc.stp (Crc.many k (s ^^^ b.toNat))) := hs1
    clear hs1
    generalize Crc.many k (s ^^^ b.toNat) = m at HS HK hm ⊢
    by_cases hlt : k < 8
    · go_wp2
      · go_round
        case rel => exact ⟨k + 1, by omega, by go_num, int_u32 (by rw [HS.out]; exact stp_odd m hm (by assumption))⟩
        case measure => simp [intOf]; omega
      · go_round
        case rel => exact ⟨k + 1, by omega, by go_num, int_u32 (by rw [HS.out]; exact stp_even m (by assumption))⟩
        case measure => simp [intOf]; omega
    · go_wp2
      go_ret
      exact ⟨ret_u32 (by rw [HK.out hlt]), rfl⟩

set_option maxRecDepth 100000 in
set_option maxHeartbeats 400000 in
theorem more_any (s : Nat) (t : ByteArray) (w : World) (hs : s < 4294967296) (ht : t.size ≤ maxLen) :
    Calls Try.prog 16 #[.int .u32 s, .string t] w fun e w' => e = .returned (.int .u32 (Crc.more s t.data.toList)) ∧ w' = w := by
  unfold maxLen at ht
  have hx : bits .xor .u32 (s : Int) 4294967295 = ((s ^^^ Crc.ones : Nat) : Int) := u32_xor_nat s 4294967295 hs (by omega)
  have hlt0 : s ^^^ Crc.ones < 4294967296 := Nat.xor_lt_two_pow (n := 32) hs (by unfold Crc.ones; omega)
  go_enter Try.func16, Try.ntmps16
  go_wp2
  go_loop [0, 5, 10] (fun x _ i => ∃ k : Nat, k ≤ t.size ∧ i = .int .i64 k ∧ x = .int .u32 (Crc.crc (s ^^^ Crc.ones) (t.data.toList.take k))) (fun _ _ i => t.size - (intOf i).toNat)
  case atStart => exact ⟨0, Nat.zero_le _, rfl, rfl⟩
  case round =>
    obtain ⟨k, hk, rfl, rfl⟩ := hrel
    have hm := Crc.crc_lt (s ^^^ Crc.ones) (t.data.toList.take k) hlt0
    have HK : Hid (¬ k < t.size → Crc.crc (s ^^^ Crc.ones) (t.data.toList.take k) ^^^ Crc.ones = Crc.more s t.data.toList) := by
      intro h
      rw [List.take_of_length_le (by simp; omega)]; rfl
    by_cases hlt : k < t.size
    · have HS : Hid (Crc.crc (s ^^^ Crc.ones) (t.data.toList.take (k + 1)) = Crc.byt (Crc.crc (s ^^^ Crc.ones) (t.data.toList.take k)) t[k]) := by
        have e : t.data.toList.take (k + 1) = t.data.toList.take k ++ [t[k]] := by
          rw [List.take_succ_eq_append_getElem (by simpa using hlt)]; rfl
        rw [e, Crc.crc_append]; rfl
      generalize Crc.crc (s ^^^ Crc.ones) (t.data.toList.take k) = m at HS HK hm ⊢
      go_wp2_with (go_at_call 73; refine (step_any _ _ _ hm).mono ?_; rintro e w' ⟨rfl, rfl⟩)
      go_round
      case rel => exact ⟨k + 1, by omega, by go_num, int_u32 (by rw [HS.out])⟩
      case measure => simp [intOf]; omega
    · generalize Crc.crc (s ^^^ Crc.ones) (t.data.toList.take k) = m at HK hm ⊢
      go_wp2
      go_ret
      exact ⟨ret_u32 (by rw [← HK.out hlt]; exact u32_xor_nat m 4294967295 hm (by omega)), rfl⟩

def flat (ls : List ByteArray) : List UInt8 := (ls.map fun s => s.data.toList).flatten

theorem flat_snoc (ls : List ByteArray) (s : ByteArray) : flat (ls ++ [s]) = flat ls ++ s.data.toList := by
  simp [flat]

theorem take_getD (ls : List ByteArray) (k : Nat) (h : k < ls.length) : ls.take (k + 1) = ls.take k ++ [ls.getD k ByteArray.empty] := by
  rw [List.take_succ_eq_append_getElem h]
  simp [List.getD, List.getElem?_eq_getElem h]

set_option maxRecDepth 100000 in
set_option maxHeartbeats 400000 in
theorem of_any (ls : List ByteArray) (b off cap : Nat) (w : World) (hn : ls.length ≤ 9223372036854775806) (hl : ∀ k, k < ls.length → (ls.getD k ByteArray.empty).size ≤ maxLen)
    (hc : ∀ k, k < ls.length → w.cell? ⟨b, off + k, none⟩ = some (.string (ls.getD k ByteArray.empty))) :
    Calls Try.prog 15 #[.slice (some ⟨b, off, none⟩) ls.length cap] w fun e w' => e = .returned (.int .u32 (Crc.total (flat ls))) ∧ w' = w := by
  go_enter Try.func15, Try.ntmps15
  go_wp2
  go_loop [3, 5, 8] (fun x _ i => ∃ k : Nat, k ≤ ls.length ∧ i = .int .i64 k ∧ x = .int .u32 (Crc.total (flat (ls.take k)))) (fun _ _ i => ls.length - (intOf i).toNat)
  case atStart => exact ⟨0, Nat.zero_le _, rfl, by simp [flat, Crc.total_nil]⟩
  case round =>
    obtain ⟨k, hk, rfl, rfl⟩ := hrel
    have hm := Crc.total_lt (flat (ls.take k))
    have HK : Hid (¬ k < ls.length → Crc.total (flat (ls.take k)) = Crc.total (flat ls)) := by
      intro h
      rw [List.take_of_length_le (by omega)]
    by_cases hlt : k < ls.length
    · have HS : Hid (Crc.total (flat (ls.take (k + 1))) = Crc.more (Crc.total (flat (ls.take k))) (ls.getD k ByteArray.empty).data.toList) := by
        unfold Hid; rw [take_getD ls k hlt, flat_snoc, Crc.more_total]
      have hcell := hc k hlt
      have hsz := hl k hlt
      generalize Crc.total (flat (ls.take k)) = m at HS HK hm ⊢
      generalize ls.getD k ByteArray.empty = s at HS hcell hsz
      clear hc hl
      go_wp2_with (go_at_call 16; refine (more_any _ _ _ hm hsz).mono ?_; rintro e w' ⟨rfl, rfl⟩)
      go_round
      case rel => exact ⟨k + 1, by omega, by go_num, int_u32 (by rw [HS.out])⟩
      case measure => simp [intOf]; omega
    · generalize Crc.total (flat (ls.take k)) = m at HK hm ⊢
      clear hc hl
      go_wp2
      go_ret
      exact ⟨ret_u32 (by rw [← HK.out hlt]), rfl⟩

theorem of_one (s : ByteArray) (b cap : Nat) (w : World) (hs : s.size ≤ maxLen) (hc : w.cell? ⟨b, 0, none⟩ = some (.string s)) :
    Calls Try.prog 15 #[.slice (some ⟨b, 0, none⟩) 1 cap] w fun e w' => e = .returned (.int .u32 (Crc.total s.data.toList)) ∧ w' = w := by
  have := of_any [s] b 0 cap w (by simp) (fun k hk => by
    have : k = 0 := by simpa using hk
    subst this; exact hs) (fun k hk => by
    have : k = 0 := by simpa using hk
    subst this; exact hc)
  have e : flat [s] = s.data.toList := by simp [flat]
  rw [e] at this
  exact this

theorem of_two (s t : ByteArray) (b cap : Nat) (w : World) (hs : s.size ≤ maxLen) (ht : t.size ≤ maxLen) (hc : w.cell? ⟨b, 0, none⟩ = some (.string s)) (hd : w.cell? ⟨b, 1, none⟩ = some (.string t)) :
    Calls Try.prog 15 #[.slice (some ⟨b, 0, none⟩) 2 cap] w fun e w' => e = .returned (.int .u32 (Crc.total (s.data.toList ++ t.data.toList))) ∧ w' = w := by
  have := of_any [s, t] b 0 cap w (by simp) (fun k hk => by
    match k, hk with
    | 0, _ => exact hs
    | 1, _ => exact ht) (fun k hk => by
    match k, hk with
    | 0, _ => exact hc
    | 1, _ => exact hd)
  have e : flat [s, t] = s.data.toList ++ t.data.toList := by simp [flat]
  rw [e] at this
  exact this

theorem ref_low (m c j : Nat) (hm : m < 4294967296) (hc : c < 256) : bits .xor .u32 (bits .and .u32 (m : Int) 1) (bits .and .u32 ((c : Int) / 2 ^ j % 4294967296) 1) = (((m % 2) ^^^ (c / 2 ^ j % 2) : Nat) : Int) := by
  have h1 : bits .and .u32 (m : Int) 1 = ((m % 2 : Nat) : Int) := by
    have := u32_and_nat m 1 hm (by omega)
    rw [nat_mask1] at this; exact this
  have hcj : c / 2 ^ j ≤ c := Nat.div_le_self _ _
  have e : ((c : Int) / 2 ^ j % 4294967296) = ((c / 2 ^ j : Nat) : Int) := by
    have : (c : Int) / 2 ^ j = ((c / 2 ^ j : Nat) : Int) := by simp
    rw [this]
    generalize c / 2 ^ j = q at hcj
    omega
  have h2 : bits .and .u32 ((c : Int) / 2 ^ j % 4294967296) 1 = ((c / 2 ^ j % 2 : Nat) : Int) := by
    rw [e]
    have := u32_and_nat (c / 2 ^ j) 1 (by omega) (by omega)
    rw [nat_mask1] at this; exact this
  rw [h1, h2]
  exact u32_xor_nat _ _ (by omega) (by omega)

theorem ref_odd (m c j : Nat) (hm : m < 4294967296) (hc : c < 256)
    (e : (bits .xor .u32 (bits .and .u32 (m : Int) 1) (bits .and .u32 ((c : Int) / 2 ^ j % 4294967296) 1) == 1) = true) :
    bits .xor .u32 ((m : Int) / 2) 3988292384 = (Crc.stp (m ^^^ (c / 2 ^ j % 2)) : Int) := by
  rw [ref_low m c j hm hc] at e
  have e1 : (m % 2) ^^^ (c / 2 ^ j % 2) = 1 := by have := beq_iff_eq.1 e; omega
  rw [Crc.stp_bit _ _ (by omega), if_pos e1, u32_xor _ _ (by omega) (by omega) (by omega) (by omega)]
  congr 2

theorem ref_even (m c j : Nat) (hm : m < 4294967296) (hc : c < 256)
    (e : (bits .xor .u32 (bits .and .u32 (m : Int) 1) (bits .and .u32 ((c : Int) / 2 ^ j % 4294967296) 1) == 1) = false) :
    (m : Int) / 2 = (Crc.stp (m ^^^ (c / 2 ^ j % 2)) : Int) := by
  rw [ref_low m c j hm hc] at e
  have e1 : ¬ (m % 2) ^^^ (c / 2 ^ j % 2) = 1 := by have := beq_eq_false_iff_ne.1 e; omega
  rw [Crc.stp_bit _ _ (by omega), if_neg e1]
  omega

set_option maxRecDepth 100000 in
set_option maxHeartbeats 400000 in
theorem ref_any (t : ByteArray) (w : World) (ht : t.size ≤ 1000000) :
    Calls Try.prog 13 #[.string t] w fun e w' => e = .returned (.int .u32 (Crc.total t.data.toList)) ∧ w' = w := by
  go_enter Try.func13, Try.ntmps13
  go_wp2
  go_loop [3, 4] (fun x i => ∃ k : Nat, k ≤ 8 * t.size ∧ i = .int .i64 k ∧ x = .int .u32 (Crc.bitwise (Crc.num t.data.toList) k)) (fun _ i => 8 * t.size - (intOf i).toNat)
  case atStart => exact ⟨0, Nat.zero_le _, rfl, by rw [Crc.bitwise_zero]; rfl⟩
  case round =>
    obtain ⟨k, hk, rfl, rfl⟩ := hrel
    have hm := Crc.bitwise_lt (Crc.num t.data.toList) k
    by_cases hlt : k < 8 * t.size
    · have HS : Hid (Crc.bitwise (Crc.num t.data.toList) (k + 1) = Crc.stp (Crc.bitwise (Crc.num t.data.toList) k ^^^ ((t[k / 8]'(by omega)).toNat / 2 ^ (k % 8) % 2))) := by
        unfold Hid; rw [Crc.bitwise_succ, Crc.num_bit _ k (by simpa using hlt)]; rfl
      generalize Crc.bitwise (Crc.num t.data.toList) k = m at HS hm ⊢
      have hcb := (t[k / 8]'(by omega)).toNat_lt
      go_wp2
      · go_round
        case rel => exact ⟨k + 1, by omega, by go_num, int_u32 (by rw [HS.out]; exact ref_odd m _ _ hm hcb (by assumption))⟩
        case measure => simp [intOf]; omega
      · go_round
        case rel => exact ⟨k + 1, by omega, by go_num, int_u32 (by rw [HS.out]; exact ref_even m _ _ hm hcb (by assumption))⟩
        case measure => simp [intOf]; omega
    · have HK : Hid (Crc.bitwise (Crc.num t.data.toList) k ^^^ Crc.ones = Crc.total t.data.toList) := by
        have h8 : k = 8 * t.data.toList.length := by simp; omega
        unfold Hid
        rw [h8, Crc.bitwise_all]; rfl
      generalize Crc.bitwise (Crc.num t.data.toList) k = m at HK hm ⊢
      go_wp2
      go_ret
      exact ⟨ret_u32 (by rw [← HK.out]; exact u32_xor_nat m 4294967295 hm (by omega)), rfl⟩

/- The four bytes of a sum, the lowest first. -/
def fourI (s : Nat) : List Int := [(s : Int) % 256, (s : Int) / 256 % 256, (s : Int) / 65536 % 256, (s : Int) / 16777216]
def four (s : Nat) : ByteArray := strOfNums (fourI s)

theorem cells4 (w : World) (x0 x1 x2 x3 : Int) (i : Nat) (h : i < 4) :
    (w.alloc (.cells #[.int .u8 x0, .int .u8 x1, .int .u8 x2, .int .u8 x3] 5)).cell? ⟨w.heap.size, 0 + i, none⟩ = some (.int .u8 ([x0, x1, x2, x3].getD i 0)) := by
  match i, h with
  | 0, _ => simp [go_sem]
  | 1, _ => simp [go_sem]
  | 2, _ => simp [go_sem]
  | 3, _ => simp [go_sem]

set_option maxRecDepth 100000 in
set_option maxHeartbeats 400000 in
theorem bytes_any (s : Nat) (w : World) (hs : s < 4294967296) :
    Calls Try.prog 14 #[.int .u32 s] w fun e w' => e = .returned (.string (four s)) ∧ Below w.heap.size w w' := by
  have hcv := run_convert_bytes_arg (P := Try.prog) (w.alloc (.cells #[.int .u8 ((s : Int) % 256), .int .u8 ((s : Int) / 256 % 256), .int .u8 ((s : Int) / 65536 % 256), .int .u8 ((s : Int) / 16777216)] 5)) 62 5 Try.underlying62 Try.underlying5 w.heap.size 0 4 4 (fourI s) rfl (cells4 w _ _ _ _) 9 Try.underlying9
  go_enter Try.func14, Try.ntmps14
  go_wp2
  go_ret
  exact ⟨rfl, (Below.refl _ _).alloc (Nat.le_refl _) _⟩
end Go.Proofs.Ytlfecjgmmhbanaa
