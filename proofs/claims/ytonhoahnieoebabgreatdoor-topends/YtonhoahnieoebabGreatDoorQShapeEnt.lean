/-
How the document's own device lies in memory: the same numbers, in lists of texts.
The document's own device: what its calls give.
A write on the document's own device that goes well.
Flush, Crash and NewDev of the document's own device.
NewDev and Crash of the document's own device.
A device with a lower base; what is seen is what was flushed, and the pending writes over it.
The plain mathematics of the sum (A1): a register that is halved, and changed where it was odd; a text as one number; no Go text is named here.
The calls of package sum, over the translation: what each gives, and what it leaves of the world.
A list of texts that lies in memory.
Heads, tables and desks as plain data (C1 to C3): the sealed sector of bytes; what may be; what a sector is.
Sealed sectors (chapter 3), in the program and in the document's answer: what each call gives.
Is a sector sealed; heads (C1): in the program and in the document's answer: what each call gives.
Heads as sectors, and sectors as heads (C1): in the program and in the document's answer: what each call gives.
Entries of a table (C2): what may be; how many rows; in the program and in the document's answer.
-/
import Derived.Test.YtonhoahnieoebabGreatDoorQActs
import Derived.BigRegion
import Derived.Test.YtonhoahnieoebabGreatDoorRows
import Derived.WalkKit
import Derived.WalkSpells
import Derived.WalkLawsBesides
import Derived.Laws.BitsAllLaws
import Derived.Deep.QuietTactic
import Derived.BigQuiet
import Derived.Deep.RegionLaw
import Derived.Deep.RegionHeld3
import Derived.Deep.DrawnRows
import Derived.Deep.AppendSrc
import Derived.Laws.CopyOwn
import Derived.Lib.ConvBytes
import Derived.Deep.WholeRow
import Derived.Deep.AppendLies
namespace Go.Proofs.YtonhoahnieoebabGreatDoor
open Go.RowKit
attribute [local go_sem ↓] Go.wp_at_zero Go.wp_at_succ

structure Rh where
  p : Nat
  bf : Nat
  cf : Nat
  v1 : Value
  v2 : Value

def flS (l : List (List UInt8)) : List Value := l.map fun s => .string (bytesOf s)
def Rh.fp (q : Rh) (k : Nat) : Prop := k = q.p ∨ k = q.bf ∨ q.v1.ownBlock = some k ∨ q.v2.ownBlock = some k

theorem info_int : (Tryz.prog.info? 3).map (fun i => (i.zero, i.size, i.bytes)) = some (some (.int .i64 0), 1, 8) := by kernel_rfl

/- What kind of cells a block of it holds. -/
theorem ownsRow_kind {w : World} {B e size n : Nat} {v : Value} {xs : List Value} (h : w.ownsRow B e size v n xs) (k : Nat) (hk : v.ownBlock = some k) : ∃ cur, w.heap[k]? = some (.cells cur e (0, 0)) := by
  rcases h.2 with ⟨q, _⟩ | ⟨g, cap, cur, q, _, hg, _⟩
  · rw [q] at hk; cases hk
  · rw [q] at hk
    have : g = k := by simpa [Value.ownBlock] using hk
    subst this
    exact ⟨cur, hg⟩

theorem IsDev.kinds {B : Nat} {w : World} {h : Hd} {d : DV} (hd : IsDev B w h d) (k : Nat) (hk : h.fp k) : ∃ cur t, w.heap[k]? = some (.cells cur t (0, 0)) ∧ (t = 264 ∨ t = 261 ∨ t = 266) := by
  rcases hk with rfl | rfl | rfl | hk
  · exact ⟨_, _, hd.blk, .inl rfl⟩
  · obtain ⟨_, cur, hh, _⟩ := ownsRow_block hd.of; exact ⟨cur, _, hh, .inr (.inl rfl)⟩
  · obtain ⟨_, cur, hh, _⟩ := ownsRow_block hd.os; exact ⟨cur, _, hh, .inr (.inl rfl)⟩
  · obtain ⟨cur, hh⟩ := ownsRow_kind hd.op k hk; exact ⟨cur, _, hh, .inr (.inr rfl)⟩

theorem ownsRow_shape {w : World} {B e size n : Nat} {v : Value} {xs : List Value} (h : w.ownsRow B e size v n xs) : ∃ a cap, v = .slice a n cap := by
  rcases h.2 with ⟨h0, h1⟩ | ⟨g, cap, cur, hv, _⟩
  · exact ⟨none, 0, by rw [h0, h1]⟩
  · exact ⟨_, cap, hv⟩

/- One element of a row that is owned. -/
theorem ownsRow_cell {w : World} {B e n : Nat} {v : Value} {xs : List Value} (h : w.ownsRow B e 1 v n xs) (k : Nat) (hk : k < n) : ∃ g cap, v = .slice (some ⟨g, 0, none⟩) n cap ∧ w.cell? ⟨g, k, none⟩ = xs[k]? ∧ g < w.heap.size ∧ w.frozen? ⟨g, k, none⟩ = false := by
  obtain ⟨g, cap, hv, _, hg⟩ := h.form (by omega)
  subst hv
  exact ⟨g, cap, rfl, h.cellAt k (by omega), hg, h.frozenAt k⟩

end Go.Proofs.YtonhoahnieoebabGreatDoor

namespace Go.Proofs.YtonhoahnieoebabGreatDoor
open Go.RowKit
attribute [local go_sem ↓] Go.wp_at_zero Go.wp_at_succ

theorem flS_at (l : List (List UInt8)) (i : Nat) (h : i < l.length) : (flS l)[i]? = some (.string (bytesOf (l.getD i []))) := by
  simp [flS, List.getD, List.getElem?_eq_getElem h]
end Go.Proofs.YtonhoahnieoebabGreatDoor

namespace Go.Proofs.YtonhoahnieoebabGreatDoor
open Go.RowKit
attribute [local go_sem ↓] Go.wp_at_zero Go.wp_at_succ

theorem bytesOf_data (s : ByteArray) : bytesOf s.data.toList = s := by
  apply ByteArray.ext
  simp [bytesOf]

end Go.Proofs.YtonhoahnieoebabGreatDoor

namespace Go.Proofs.YtonhoahnieoebabGreatDoor
open Go.RowKit
attribute [local go_sem ↓] Go.wp_at_zero Go.wp_at_succ

/- All pending writes over what is flushed, the first k of them. -/
def setTo (pend : List (Nat × List UInt8)) (l : List (List UInt8)) : Nat → List (List UInt8)
  | 0 => l
  | k + 1 => (setTo pend l k).set (pend.getD k (0, [])).1 (pend.getD k (0, [])).2

def DV.sn (d : DV) : Prop := d.seen = setTo d.pend d.fl d.pend.length

end Go.Proofs.YtonhoahnieoebabGreatDoor

namespace Go.Proofs.YtonhoahnieoebabGreatDoor
open Go.RowKit
attribute [local go_sem ↓] Go.wp_at_zero Go.wp_at_succ

theorem flS_len (l : List (List UInt8)) : (flS l).length = l.length := by simp [flS]
theorem flS_one (l : List (List UInt8)) : ∀ u ∈ flS l, u.oneCell' = true := by
  intro u hu
  obtain ⟨x, _, rfl⟩ := List.mem_map.1 hu
  rfl

end Go.Proofs.YtonhoahnieoebabGreatDoor

namespace Go.Proofs.YtonhoahnieoebabGreatDoor
open Go.RowKit

/- What is seen is what was flushed, and the pending writes over it. -/
theorem made_sn (l : List (List UInt8)) (wr : Nat) : (DV.made l wr).sn := rfl
theorem failing_sn {d : DV} (h : d.sn) (n : Int) : (d.failing n).sn := h
theorem ticked_sn {d : DV} (h : d.sn) : d.ticked.sn := by
  unfold DV.ticked; split
  · exact h
  · exact failing_sn h _
theorem flushed_sn (d : DV) : d.flushed.sn := rfl
theorem setTo_more (p r : List (Nat × List UInt8)) (l : List (List UInt8)) (k : Nat) (hk : k ≤ p.length) : setTo (p ++ r) l k = setTo p l k := by
  induction k with
  | zero => rfl
  | succ k ih =>
    show (setTo (p ++ r) l k).set _ _ = (setTo p l k).set _ _
    rw [ih (by omega)]
    have e : (p ++ r).getD k (0, []) = p.getD k (0, []) := by
      rw [List.getD_eq_getElem?_getD, List.getD_eq_getElem?_getD, List.getElem?_append_left (by omega)]
    rw [e]
theorem wrote_sn {d : DV} (h : d.sn) (i : Nat) (s : List UInt8) : (d.wrote i s).sn := by
  unfold DV.sn DV.wrote
  show d.seen.set i s = setTo (d.pend ++ [(i, s)]) d.fl (d.pend ++ [(i, s)]).length
  rw [List.length_append]
  show _ = (setTo (d.pend ++ [(i, s)]) d.fl d.pend.length).set _ _
  rw [setTo_more _ _ _ _ (Nat.le_refl _), ← h]
  have e : (d.pend ++ [(i, s)]).getD d.pend.length (0, []) = (i, s) := by
    rw [List.getD_eq_getElem?_getD, List.getElem?_append_right (Nat.le_refl _)]; simp
  rw [e]
end Go.Proofs.YtonhoahnieoebabGreatDoor

namespace Go.Proofs.YtonhoahnieoebabGreatDoor.Crc

def poly : Nat := 3988292384

def stp (s : Nat) : Nat := if s % 2 = 1 then (s / 2) ^^^ poly else s / 2

def many : Nat → Nat → Nat
  | 0, s => s
  | n + 1, s => many n (stp s)

theorem many_add (a b s : Nat) : many (a + b) s = many b (many a s) := by
  induction a generalizing s with
  | zero => simp [many]
  | succ a ih => rw [Nat.succ_add]; simp only [many]; exact ih (stp s)

theorem many_succ (n s : Nat) : many (n + 1) s = stp (many n s) := by
  rw [many_add n 1 s]; rfl

theorem stp_lt (x : Nat) (h : x < 4294967296) : stp x < 4294967296 := by
  unfold stp
  split
  · exact Nat.xor_lt_two_pow (n := 32) (by omega) (by unfold poly; omega)
  · omega

theorem many_lt (n x : Nat) (h : x < 4294967296) : many n x < 4294967296 := by
  induction n generalizing x with
  | zero => exact h
  | succ n ih => exact ih _ (stp_lt x h)

/- The register behind a text: byte by byte. -/
def byt (s : Nat) (b : UInt8) : Nat := many 8 (s ^^^ b.toNat)
def crc (s : Nat) (l : List UInt8) : Nat := l.foldl byt s

theorem crc_append (s : Nat) (l m : List UInt8) : crc s (l ++ m) = crc (crc s l) m := by
  simp [crc]

theorem byt_lt (s : Nat) (b : UInt8) (h : s < 4294967296) : byt s b < 4294967296 := by
  have hb := b.toNat_lt
  exact many_lt _ _ (Nat.xor_lt_two_pow (n := 32) (by omega) (by omega))

theorem crc_lt (s : Nat) (l : List UInt8) (h : s < 4294967296) : crc s l < 4294967296 := by
  induction l generalizing s with
  | nil => exact h
  | cons b l ih => exact ih _ (byt_lt s b h)

def ones : Nat := 4294967295

def more (s : Nat) (l : List UInt8) : Nat := crc (s ^^^ ones) l ^^^ ones
def total (l : List UInt8) : Nat := crc ones l ^^^ ones

theorem total_lt (l : List UInt8) : total l < 4294967296 :=
  Nat.xor_lt_two_pow (n := 32) (crc_lt _ _ (by unfold ones; omega)) (by unfold ones; omega)

theorem more_total (l m : List UInt8) : more (total l) m = total (l ++ m) := by
  unfold more total
  rw [Nat.xor_assoc, Nat.xor_self, Nat.xor_zero, crc_append]

theorem total_nil : total [] = 0 := by simp [total, crc]

end Go.Proofs.YtonhoahnieoebabGreatDoor.Crc

namespace Go.Proofs.YtonhoahnieoebabGreatDoor
open Go.RowKit

theorem ret_u32 {a b : Int} (h : a = b) : Ending.returned (.int .u32 a) = .returned (.int .u32 b) := by rw [h]

theorem stp_odd (m : Nat) (h : m < 4294967296) (e : ((m : Int) % 2 == 1) = true) : bits .xor .u32 ((m : Int) / 2) 3988292384 = (Crc.stp m : Int) := by
  have e1 : m % 2 = 1 := by have := beq_iff_eq.1 e; omega
  rw [u32_xor _ _ (by omega) (by omega) (by omega) (by omega)]
  unfold Crc.stp Crc.poly
  rw [if_pos e1]
  congr 2

theorem stp_even (m : Nat) (e : ((m : Int) % 2 == 1) = false) : ((m : Int) / 2) = (Crc.stp m : Int) := by
  have e1 : ¬ m % 2 = 1 := by have := beq_eq_false_iff_ne.1 e; omega
  unfold Crc.stp
  rw [if_neg e1]
  omega

theorem int_u32 {a b : Int} (h : a = b) : Value.int .u32 a = Value.int .u32 b := by rw [h]

set_option maxRecDepth 100000 in
set_option maxHeartbeats 400000 in
theorem step_any (s : Nat) (b : UInt8) (w : World) (hs : s < 4294967296) :
    Calls Tryz.prog 289 #[.int .u32 s, .int .u8 b.toNat] w fun e w' => e = .returned (.int .u32 (Crc.byt s b)) ∧ w' = w := by
  have hb := b.toNat_lt
  have hx : bits .xor .u32 (s : Int) (b.toNat : Int) = ((s ^^^ b.toNat : Nat) : Int) := u32_xor_nat s b.toNat hs (by omega)
  have hlt0 : s ^^^ b.toNat < 4294967296 := Nat.xor_lt_two_pow (n := 32) hs (by omega)
  go_enter Tryz.func289, Tryz.ntmps289
  go_wp2
  go_loop [0, 9] (fun t i => ∃ k : Nat, k ≤ 8 ∧ i = .int .i64 k ∧ t = .int .u32 (Crc.many k (s ^^^ b.toNat))) (fun _ i => 8 - (intOf i).toNat)
  case atStart => exact ⟨0, by omega, rfl, rfl⟩
  case round =>
    obtain ⟨k, hk, rfl, rfl⟩ := hrel
    have hm := Crc.many_lt k _ hlt0
    have HK : Hid (¬ k < 8 → Crc.many k (s ^^^ b.toNat) = Crc.byt s b) := by
      intro h
      have h8 : k = 8 := by omega
      rw [h8]; rfl
    have hs1 := Crc.many_succ k (s ^^^ b.toNat)
    have HS : Hid (Crc.many (k + 1) (s ^^^ b.toNat) = Crc.stp (Crc.many k (s ^^^ b.toNat))) := hs1
    clear hs1
    generalize Crc.many k (s ^^^ b.toNat) = m at HS HK hm ⊢
    by_cases hlt : k < 8
    · go_wp2
      · go_round
        case rel => exact ⟨k + 1, by omega, by go_num, int_u32 (by rw [HS.out]; exact stp_odd m hm (by assumption))⟩
        case measure => simp [intOf]; omega
      · go_round
        case rel => exact ⟨k + 1, by omega, by go_num, int_u32 (by rw [HS.out]; exact stp_even m (by assumption))⟩
        case measure => simp [intOf]; omega
    · go_wp2
      go_ret
      exact ⟨ret_u32 (by rw [HK.out hlt]), rfl⟩

set_option maxRecDepth 100000 in
set_option maxHeartbeats 400000 in
theorem more_any (s : Nat) (t : ByteArray) (w : World) (hs : s < 4294967296) (ht : t.size ≤ maxLen) :
    Calls Tryz.prog 280 #[.int .u32 s, .string t] w fun e w' => e = .returned (.int .u32 (Crc.more s t.data.toList)) ∧ w' = w := by
  unfold maxLen at ht
  have hx : bits .xor .u32 (s : Int) 4294967295 = ((s ^^^ Crc.ones : Nat) : Int) := u32_xor_nat s 4294967295 hs (by omega)
  have hlt0 : s ^^^ Crc.ones < 4294967296 := Nat.xor_lt_two_pow (n := 32) hs (by unfold Crc.ones; omega)
  go_enter Tryz.func280, Tryz.ntmps280
  go_wp2
  go_loop [0, 5, 10] (fun x _ i => ∃ k : Nat, k ≤ t.size ∧ i = .int .i64 k ∧ x = .int .u32 (Crc.crc (s ^^^ Crc.ones) (t.data.toList.take k))) (fun _ _ i => t.size - (intOf i).toNat)
  case atStart => exact ⟨0, Nat.zero_le _, rfl, rfl⟩
  case round =>
    obtain ⟨k, hk, rfl, rfl⟩ := hrel
    have hm := Crc.crc_lt (s ^^^ Crc.ones) (t.data.toList.take k) hlt0
    have HK : Hid (¬ k < t.size → Crc.crc (s ^^^ Crc.ones) (t.data.toList.take k) ^^^ Crc.ones = Crc.more s t.data.toList) := by
      intro h
      rw [List.take_of_length_le (by simp; omega)]; rfl
    by_cases hlt : k < t.size
    · have HS : Hid (Crc.crc (s ^^^ Crc.ones) (t.data.toList.take (k + 1)) = Crc.byt (Crc.crc (s ^^^ Crc.ones) (t.data.toList.take k)) t[k]) := by
        have e : t.data.toList.take (k + 1) = t.data.toList.take k ++ [t[k]] := by
          rw [List.take_succ_eq_append_getElem (by simpa using hlt)]; rfl
        rw [e, Crc.crc_append]; rfl
      generalize Crc.crc (s ^^^ Crc.ones) (t.data.toList.take k) = m at HS HK hm ⊢
      go_wp2_with (go_at_call 289; refine (step_any _ _ _ hm).mono ?_; rintro e w' ⟨rfl, rfl⟩)
      go_round
      case rel => exact ⟨k + 1, by omega, by go_num, int_u32 (by rw [HS.out])⟩
      case measure => simp [intOf]; omega
    · generalize Crc.crc (s ^^^ Crc.ones) (t.data.toList.take k) = m at HK hm ⊢
      go_wp2
      go_ret
      exact ⟨ret_u32 (by rw [← HK.out hlt]; exact u32_xor_nat m 4294967295 hm (by omega)), rfl⟩

def flat (ls : List ByteArray) : List UInt8 := (ls.map fun s => s.data.toList).flatten

theorem flat_snoc (ls : List ByteArray) (s : ByteArray) : flat (ls ++ [s]) = flat ls ++ s.data.toList := by
  simp [flat]

theorem take_getD (ls : List ByteArray) (k : Nat) (h : k < ls.length) : ls.take (k + 1) = ls.take k ++ [ls.getD k ByteArray.empty] := by
  rw [List.take_succ_eq_append_getElem h]
  simp [List.getD, List.getElem?_eq_getElem h]

set_option maxRecDepth 100000 in
set_option maxHeartbeats 400000 in
theorem of_any (ls : List ByteArray) (b off cap : Nat) (w : World) (hn : ls.length ≤ 9223372036854775806) (hl : ∀ k, k < ls.length → (ls.getD k ByteArray.empty).size ≤ maxLen)
    (hc : ∀ k, k < ls.length → w.cell? ⟨b, off + k, none⟩ = some (.string (ls.getD k ByteArray.empty))) :
    Calls Tryz.prog 264 #[.slice (some ⟨b, off, none⟩) ls.length cap] w fun e w' => e = .returned (.int .u32 (Crc.total (flat ls))) ∧ w' = w := by
  go_enter Tryz.func264, Tryz.ntmps264
  go_wp2
  go_loop [3, 5, 8] (fun x _ i => ∃ k : Nat, k ≤ ls.length ∧ i = .int .i64 k ∧ x = .int .u32 (Crc.total (flat (ls.take k)))) (fun _ _ i => ls.length - (intOf i).toNat)
  case atStart => exact ⟨0, Nat.zero_le _, rfl, by simp [flat, Crc.total_nil]⟩
  case round =>
    obtain ⟨k, hk, rfl, rfl⟩ := hrel
    have hm := Crc.total_lt (flat (ls.take k))
    have HK : Hid (¬ k < ls.length → Crc.total (flat (ls.take k)) = Crc.total (flat ls)) := by
      intro h
      rw [List.take_of_length_le (by omega)]
    by_cases hlt : k < ls.length
    · have HS : Hid (Crc.total (flat (ls.take (k + 1))) = Crc.more (Crc.total (flat (ls.take k))) (ls.getD k ByteArray.empty).data.toList) := by
        unfold Hid; rw [take_getD ls k hlt, flat_snoc, Crc.more_total]
      have hcell := hc k hlt
      have hsz := hl k hlt
      generalize Crc.total (flat (ls.take k)) = m at HS HK hm ⊢
      generalize ls.getD k ByteArray.empty = s at HS hcell hsz
      clear hc hl
      go_wp2_with (go_at_call 280; refine (more_any _ _ _ hm hsz).mono ?_; rintro e w' ⟨rfl, rfl⟩)
      go_round
      case rel => exact ⟨k + 1, by omega, by go_num, int_u32 (by rw [HS.out])⟩
      case measure => simp [intOf]; omega
    · generalize Crc.total (flat (ls.take k)) = m at HK hm ⊢
      clear hc hl
      go_wp2
      go_ret
      exact ⟨ret_u32 (by rw [← HK.out hlt]), rfl⟩

theorem of_one (s : ByteArray) (b cap : Nat) (w : World) (hs : s.size ≤ maxLen) (hc : w.cell? ⟨b, 0, none⟩ = some (.string s)) :
    Calls Tryz.prog 264 #[.slice (some ⟨b, 0, none⟩) 1 cap] w fun e w' => e = .returned (.int .u32 (Crc.total s.data.toList)) ∧ w' = w := by
  have := of_any [s] b 0 cap w (by simp) (fun k hk => by
    have : k = 0 := by simpa using hk
    subst this; exact hs) (fun k hk => by
    have : k = 0 := by simpa using hk
    subst this; exact hc)
  have e : flat [s] = s.data.toList := by simp [flat]
  rw [e] at this
  exact this

/- The four bytes of a sum, the lowest first. -/
def fourI (s : Nat) : List Int := [(s : Int) % 256, (s : Int) / 256 % 256, (s : Int) / 65536 % 256, (s : Int) / 16777216]
def four (s : Nat) : ByteArray := strOfNums (fourI s)

theorem cells4 (w : World) (x0 x1 x2 x3 : Int) (i : Nat) (h : i < 4) :
    (w.alloc (.cells #[.int .u8 x0, .int .u8 x1, .int .u8 x2, .int .u8 x3] 5)).cell? ⟨w.heap.size, 0 + i, none⟩ = some (.int .u8 ([x0, x1, x2, x3].getD i 0)) := by
  match i, h with
  | 0, _ => simp [go_sem]
  | 1, _ => simp [go_sem]
  | 2, _ => simp [go_sem]
  | 3, _ => simp [go_sem]

set_option maxRecDepth 100000 in
set_option maxHeartbeats 400000 in
theorem bytes_any (s : Nat) (w : World) (hs : s < 4294967296) :
    Calls Tryz.prog 263 #[.int .u32 s] w fun e w' => e = .returned (.string (four s)) ∧ Below w.heap.size w w' := by
  have hcv := run_convert_bytes_arg (P := Tryz.prog) (w.alloc (.cells #[.int .u8 ((s : Int) % 256), .int .u8 ((s : Int) / 256 % 256), .int .u8 ((s : Int) / 65536 % 256), .int .u8 ((s : Int) / 16777216)] 5)) 206 5 Tryz.underlying206 Tryz.underlying5 w.heap.size 0 4 4 (fourI s) rfl (cells4 w _ _ _ _) 9 Tryz.underlying9
  go_enter Tryz.func263, Tryz.ntmps263
  go_wp2
  go_ret
  exact ⟨rfl, (Below.refl _ _).alloc (Nat.le_refl _) _⟩
end Go.Proofs.YtonhoahnieoebabGreatDoor

namespace Go.Proofs.YtonhoahnieoebabGreatDoor
open Go.RowKit

/- A list of texts that lies in memory. -/
def Texts (w : World) (la : Option Addr) (len : Nat) (ls : List ByteArray) : Prop :=
  ls.length = len ∧ ∀ k, k < len → ∃ b off, la = some ⟨b, off, none⟩ ∧ w.cell? ⟨b, off + k, none⟩ = some (.string (ls.getD k ByteArray.empty)) ∧ (ls.getD k ByteArray.empty).size ≤ maxLen

theorem ret_bool {a b : Bool} (h : a = b) : Ending.returned (.bool a) = .returned (.bool b) := by rw [h]
end Go.Proofs.YtonhoahnieoebabGreatDoor

namespace Go.Proofs.YtonhoahnieoebabGreatDoor
open Go.RowKit

/- An error, by its number. -/
def erV (f : Int) : Value := if f = 0 then .nilIface else .iface 127 (.int .i64 f)

/- Twelve bytes, noughts behind those that are given; and the sector that is sealed. -/
def padL (l : List Int) : List Int := l ++ List.replicate (12 - l.length) 0
def s12 (l : List Int) : ByteArray := strOfNums (padL l)
def sealS (l : List Int) : ByteArray := s12 l ++ four (Crc.total (s12 l).data.toList)

theorem padL_length (l : List Int) (h : l.length ≤ 12) : (padL l).length = 12 := by
  unfold padL; rw [List.length_append, List.length_replicate]; omega

theorem strOfNums_size (l : List Int) : (strOfNums l).size = l.length := by simp [strOfNums, ByteArray.size]

theorem s12_size (l : List Int) (h : l.length ≤ 12) : (s12 l).size = 12 := by
  unfold s12; rw [strOfNums_size, padL_length l h]

theorem fourS_size (s : Nat) : (four s).size = 4 := rfl

theorem sealS_size (l : List Int) (h : l.length ≤ 12) : (sealS l).size = 16 := by
  unfold sealS; rw [ByteArray.size_append, s12_size l h, fourS_size]

/- Is a text of sixteen bytes sealed? -/
def sealedB (s : ByteArray) : Bool := (four (Crc.total (s.extract 0 12).data.toList)).toList == (s.extract 12 s.size).toList
def sealF (s : ByteArray) : Int := if s.size = 16 then (if sealedB s = true then 0 else 3) else 1

def bAt (s : ByteArray) (i : Nat) : Int := ((s.data.toList.getD i 0).toNat : Int)

/- Heads. -/
structure HV where
  c : Int
  p : Int
  b : Int

def HV.ok (h : HV) : Bool := decide (1 ≤ h.c ∧ h.c ≤ 32 ∧ 0 ≤ h.p ∧ h.p ≤ 40 ∧ -1 ≤ h.b ∧ h.b ≤ 4)
def HV.cells (h : HV) : Array Value := #[.int .i64 h.c, .int .i64 h.p, .int .i64 h.b]
def HV.zero : HV := ⟨0, 0, 0⟩
def HV.bytes (h : HV) : List Int := [83, 89, h.c, h.p, h.b + 1]
def HV.fault (h : HV) : Int := if h.ok = true then 0 else 1
def HV.text (h : HV) : ByteArray := if h.ok = true then sealS h.bytes else ⟨#[]⟩

def headAt (s : ByteArray) : HV := ⟨bAt s 2, bAt s 3, bAt s 4 - 1⟩
def headGood (s : ByteArray) : Bool := (headAt s).ok && ((sealS (headAt s).bytes).toList == s.toList)
def headOf (s : ByteArray) : HV := if sealF s = 0 ∧ headGood s = true then headAt s else HV.zero
def headF (s : ByteArray) : Int := if sealF s = 0 then (if headGood s = true then 0 else 2) else sealF s

/- Desks. -/
structure KV where
  r : Int
  k : Int
  f : Int
  a : Int
  u : Int

def KV.bound (d : KV) : Bool := decide (0 ≤ d.r ∧ d.r ≤ 4 ∧ 0 ≤ d.k ∧ d.k ≤ 3 ∧ -1 ≤ d.f ∧ d.f ≤ 4 ∧ 0 ≤ d.a ∧ d.a ≤ 1000 ∧ 0 ≤ d.u ∧ d.u ≤ 1000)
def KV.may (d : KV) : Bool := decide ((d.k = 0 ∧ d.f = -1 ∧ d.a = 0 ∧ d.u = 0) ∨ (d.k ≠ 0 ∧ d.f ≠ d.r ∧ (d.f ≠ -1 ∨ d.k = 2)))
def KV.fault (d : KV) : Int := if d.bound = true then (if d.may = true then 0 else 2) else 1
def KV.cells (d : KV) : Array Value := #[.int .i64 d.r, .int .i64 d.k, .int .i64 d.f, .int .i64 d.a, .int .i64 d.u]
def KV.zero : KV := ⟨0, 0, 0, 0, 0⟩
def KV.bytes (d : KV) : List Int := [68, 75, d.r, d.k, d.f + 1, d.a % 256, d.a / 256, d.u % 256, d.u / 256]
def KV.text (d : KV) : ByteArray := if d.fault = 0 then sealS d.bytes else ⟨#[]⟩

def deskAt (s : ByteArray) : KV := ⟨bAt s 2, bAt s 3, bAt s 4 - 1, bAt s 5 + bAt s 6 * 256, bAt s 7 + bAt s 8 * 256⟩
def deskGood (s : ByteArray) : Bool := decide ((deskAt s).fault = 0) && ((sealS (deskAt s).bytes).toList == s.toList)
def deskOf (s : ByteArray) : KV := if sealF s = 0 ∧ deskGood s = true then deskAt s else KV.zero
def deskF (s : ByteArray) : Int := if sealF s = 0 then (if deskGood s = true then 0 else 2) else sealF s

theorem KV.of_fault {d : KV} (h : d.fault = 0) : d.bound = true ∧ d.may = true := by
  unfold KV.fault at h
  split at h
  · next hb => split at h
               · next hm => exact ⟨hb, hm⟩
               · omega
  · omega

end Go.Proofs.YtonhoahnieoebabGreatDoor

namespace Go.Proofs.YtonhoahnieoebabGreatDoor
open Go.RowKit
attribute [local go_sem ↓] Go.wp_at_zero Go.wp_at_succ

def byV (l : List Int) : List Value := l.map (Value.int .u8)

theorem byV_one (l : List Int) : ∀ u ∈ byV l, u.oneCell' = true := by
  intro u hu
  obtain ⟨n, _, rfl⟩ := List.mem_map.1 hu
  rfl

theorem byV_at (l : List Int) (j : Nat) (hj : j < l.length) : (byV l)[j]? = some (.int .u8 (l.getD j 0)) := by
  simp [byV, List.getElem?_eq_getElem hj, List.getD]

theorem size_u8 : (Tryz.prog.info? 5).map (·.size) = some 1 := by kernel_rfl

def inB (n lo hi : Int) : Bool := decide (lo ≤ n ∧ n ≤ hi)

theorem retS {a b : ByteArray} (h : a = b) : Ending.returned (.string a) = .returned (.string b) := by rw [h]

theorem within_any (n lo hi : Int) (w : World) :
    Calls Tryz.prog 211 #[.int .i64 n, .int .i64 lo, .int .i64 hi] w fun e w' => e = .returned (.bool (inB n lo hi)) ∧ w' = w := by
  by_cases h0 : lo ≤ n
  · have g0 : decide (lo ≤ n) = true := by simpa using h0
    have HF : Hid (inB n lo hi = decide (n ≤ hi)) := by unfold Hid inB; simp [h0]
    go_enter Tryz.func211, Tryz.ntmps211
    go_wp2
    go_ret
    exact ⟨ret_bool HF.out.symm, rfl⟩
  · have g0 : decide (lo ≤ n) = false := by simpa using h0
    have HF : Hid (inB n lo hi = false) := by unfold Hid inB; simp [h0]
    go_enter Tryz.func211, Tryz.ntmps211
    go_wp2
    go_ret
    exact ⟨ret_bool HF.out.symm, rfl⟩

theorem run_copy_seal (w : World) (l : List Int) (b cap : Nat) (hl : l.length ≤ 12) (hb : b < w.heap.size) (hc : ∀ j, j < l.length → w.cell? ⟨b, j, none⟩ = some (.int .u8 (l.getD j 0))) :
    (Builtin.copy_ #[206, 206] 3 #[.slice (some ⟨w.heap.size, 0, none⟩) 12 12, .slice (some ⟨b, 0, none⟩) l.length cap]).run Tryz.prog (w.alloc (.cells #[.int .u8 0, .int .u8 0, .int .u8 0, .int .u8 0, .int .u8 0, .int .u8 0, .int .u8 0, .int .u8 0, .int .u8 0, .int .u8 0, .int .u8 0, .int .u8 0] 315)) =
      .ok (.int .i64 (l.length : Int)) (w.alloc (.cells (byV (padL l)).toArray 315)) := by
  have hm : (byV l).length = Nat.min l.length 12 := by
    rw [show Nat.min l.length 12 = l.length from Nat.min_eq_left hl]; simp [byV]
  have h := run_copy_row (P := Tryz.prog) (w.alloc (.cells #[.int .u8 0, .int .u8 0, .int .u8 0, .int .u8 0, .int .u8 0, .int .u8 0, .int .u8 0, .int .u8 0, .int .u8 0, .int .u8 0, .int .u8 0, .int .u8 0] 315)) 206 206 3 5 w.heap.size 0 12 12 ⟨b, 0, none⟩ l.length cap _ 315 (byV l) Tryz.underlying206 size_u8 (heap_alloc_new w _) hm
    (fun j v hj => by
      have hjl : j < l.length := by
        rcases Nat.lt_or_ge j l.length with h | h
        · exact h
        · rw [List.getElem?_eq_none (by simpa [byV] using h)] at hj; cases hj
      rw [byV_at l j hjl] at hj
      rw [Go.WideShapes.add_plain, Nat.zero_add, World.cell?_alloc_past _ _ _ hb, hc j hjl]; exact hj)
    (by simp [byV]; omega) (byV_one l)
  have e1 : (byV l).length = l.length := by simp [byV]
  have e2 : goInt (byV l).length = Value.int .i64 (l.length : Int) := by rw [e1]; rfl
  have e3 : (#[.int .u8 0, .int .u8 0, .int .u8 0, .int .u8 0, .int .u8 0, .int .u8 0, .int .u8 0, .int .u8 0, .int .u8 0, .int .u8 0, .int .u8 0, .int .u8 0] : Array Value).toList = List.replicate 12 (Value.int .u8 0) := rfl
  have e4 : byV (padL l) = byV l ++ List.replicate (12 - l.length) (Value.int .u8 0) := by simp [byV, padL]
  rw [h, World.setRow_alloc_new, e2, e3, e1, List.take_zero, List.nil_append, Nat.zero_add, List.drop_replicate, ← e4]

theorem run_conv_seal (w : World) (l : List Int) (hl : l.length ≤ 12) :
    (convert 206 9 (.slice (some ⟨w.heap.size, 0, none⟩) 12 12)).run Tryz.prog (w.alloc (.cells (byV (padL l)).toArray 315)) = .ok (.string (s12 l)) (w.alloc (.cells (byV (padL l)).toArray 315)) := by
  have hp := padL_length l hl
  exact run_convert_bytes_arg (P := Tryz.prog) _ 206 5 Tryz.underlying206 Tryz.underlying5 w.heap.size 0 12 12 (padL l) hp (fun i hi => by
    rw [Nat.zero_add, cell_of_row _ _ _ _ _ _ (heap_alloc_new w _)]
    rw [List.getElem?_toArray]
    exact byV_at (padL l) i (by omega)) 9 Tryz.underlying9

set_option maxRecDepth 100000 in
set_option maxHeartbeats 400000 in
theorem sealed_any (l : List Int) (b cap : Nat) (w : World) (hl : l.length ≤ 12) (hb : b < w.heap.size) (hc : ∀ j, j < l.length → w.cell? ⟨b, j, none⟩ = some (.int .u8 (l.getD j 0))) :
    Calls Tryz.prog 258 #[.slice (some ⟨b, 0, none⟩) l.length cap] w fun e w' => e = .returned (.string (sealS l)) ∧ Below w.heap.size w w' := by
  have hcp := run_copy_seal w l b cap hl hb hc
  have hcv := run_conv_seal w l hl
  have hsz := s12_size l hl
  have HR : Hid (s12 l ++ four (Crc.total (s12 l).data.toList) = sealS l) := rfl
  have hf4 := fourS_size (Crc.total (s12 l).data.toList)
  have htl := Crc.total_lt (s12 l).data.toList
  clear hc
  generalize byV (padL l) = P at hcp hcv
  generalize s12 l = S at hcv hsz HR hf4 htl
  go_enter Tryz.func258, Tryz.ntmps258
  go_wp2_with fail
  refine (of_one S _ 1 _ (by unfold maxLen; omega) ?_).mono ?_
  · simp [go_sem]
  rintro e w' ⟨rfl, rfl⟩
  go_wp2_with fail
  refine (bytes_any _ _ htl).mono ?_
  rintro e w' ⟨rfl, hb2⟩
  go_wp2
  go_ret
  exact ⟨retS HR.out, (((Below.refl _ _).alloc (Nat.le_refl _) _).alloc (by simp) _).trans (hb2.mono (by simp; omega))⟩

end Go.Proofs.YtonhoahnieoebabGreatDoor

namespace Go.Proofs.YtonhoahnieoebabGreatDoor
open Go.RowKit
attribute [local go_sem ↓] Go.wp_at_zero Go.wp_at_succ

theorem toHid {p : Prop} (h : p) : Hid p := h

theorem erV_0 : erV 0 = .nilIface := by simp [erV]
theorem erV_1 : erV 1 = .iface 127 (.int .i64 1) := by simp [erV]
theorem erV_2 : erV 2 = .iface 127 (.int .i64 2) := by simp [erV]
theorem ret_v {a b : Value} (h : a = b) : Ending.returned a = .returned b := by rw [h]
theorem retI {a b : Int} (h : a = b) : Ending.returned (.int .i64 a) = .returned (.int .i64 b) := by rw [h]

theorem inB_yes {n lo hi : Int} (h : lo ≤ n ∧ n ≤ hi) : inB n lo hi = true := decide_eq_true h
theorem inB_no {n lo hi : Int} (h : ¬ (lo ≤ n ∧ n ≤ hi)) : inB n lo hi = false := decide_eq_false h

set_option maxHeartbeats 400000 in
theorem checkHead_any (c p b : Int) (w : World) :
    Calls Tryz.prog 100 #[.agg #[.int .i64 c, .int .i64 p, .int .i64 b]] w fun e w' => e = .returned (erV (HV.fault ⟨c, p, b⟩)) ∧ Below w.heap.size w w' := by
  have hbel : Below w.heap.size w (w.alloc (.cells #[.int .i64 c, .int .i64 p, .int .i64 b] 103)) := (Below.refl _ _).alloc (Nat.le_refl _) _
  have hcase : (∃ H : Hid (erV (HV.fault ⟨c, p, b⟩) = .nilIface), inB c 1 32 = true ∧ inB p 0 40 = true ∧ inB b (-1) 4 = true) ∨ ∃ H : Hid (erV (HV.fault ⟨c, p, b⟩) = .iface 127 (.int .i64 1)), (inB c 1 32 = false) ∨ (inB c 1 32 = true ∧ inB p 0 40 = false) ∨ (inB c 1 32 = true ∧ inB p 0 40 = true ∧ inB b (-1) 4 = false) := by
    unfold Hid HV.fault HV.ok
    simp only [decide_eq_true_eq]
    by_cases h1 : 1 ≤ c ∧ c ≤ 32
    · by_cases h2 : 0 ≤ p ∧ p ≤ 40
      · by_cases h3 : -1 ≤ b ∧ b ≤ 4
        · exact .inl ⟨by rw [if_pos ⟨h1.1, h1.2, h2.1, h2.2, h3.1, h3.2⟩]; exact erV_0, inB_yes h1, inB_yes h2, inB_yes h3⟩
        · exact .inr ⟨by rw [if_neg (by omega)]; exact erV_1, .inr (.inr ⟨inB_yes h1, inB_yes h2, inB_no h3⟩)⟩
      · exact .inr ⟨by rw [if_neg (by omega)]; exact erV_1, .inr (.inl ⟨inB_yes h1, inB_no h2⟩)⟩
    · exact .inr ⟨by rw [if_neg (by omega)]; exact erV_1, .inl (inB_no h1)⟩
  rcases hcase with ⟨HF, g1, g2, g3⟩ | ⟨HF, g1 | ⟨g1, g2⟩ | ⟨g1, g2, g3⟩⟩
  · go_enter Tryz.func100, Tryz.ntmps100
    go_wp2_with (go_at_call 211; refine (within_any _ _ _ _).mono ?_; rintro e w' ⟨rfl, rfl⟩)
    go_ret
    exact ⟨ret_v HF.out.symm, hbel⟩
  all_goals
    go_enter Tryz.func100, Tryz.ntmps100
    go_wp2_with (go_at_call 211; refine (within_any _ _ _ _).mono ?_; rintro e w' ⟨rfl, rfl⟩)
    go_ret
    exact ⟨ret_v HF.out.symm, hbel⟩

end Go.Proofs.YtonhoahnieoebabGreatDoor

namespace Go.Proofs.YtonhoahnieoebabGreatDoor
open Go.RowKit
attribute [local go_sem ↓] Go.wp_at_zero Go.wp_at_succ

theorem bcell {W w1 : World} (hb : Below W.heap.size W w1) : (∀ b o, b < W.heap.size → w1.cell? ⟨b, o, none⟩ = W.cell? ⟨b, o, none⟩) ∧ (∀ b o, b < W.heap.size → w1.frozen? ⟨b, o, none⟩ = W.frozen? ⟨b, o, none⟩) :=
  ⟨fun b o h => hb.cell (p := ⟨b, o, none⟩) h, fun b o h => hb.frozen (p := ⟨b, o, none⟩) h⟩

theorem HV.of_ok {h : HV} (hk : h.ok = true) : 1 ≤ h.c ∧ h.c ≤ 32 ∧ 0 ≤ h.p ∧ h.p ≤ 40 ∧ -1 ≤ h.b ∧ h.b ≤ 4 := of_decide_eq_true hk

theorem cells_row (w : World) (l : List Int) (t : TypeId) (j : Nat) (hj : j < l.length) : (w.alloc (.cells (byV l).toArray t)).cell? ⟨w.heap.size, j, none⟩ = some (.int .u8 (l.getD j 0)) := by
  rw [cell_of_row _ _ _ _ _ _ (heap_alloc_new w _), List.getElem?_toArray]
  exact byV_at l j hj

set_option maxRecDepth 100000 in
set_option maxHeartbeats 400000 in
theorem head_yes (c p b : Int) (w : World) (hk : HV.ok ⟨c, p, b⟩ = true) :
    Calls Tryz.prog 240 #[.agg #[.int .i64 c, .int .i64 p, .int .i64 b]] w fun e w' => e = .returned (.tuple #[.string (sealS [83, 89, c, p, b + 1]), .nilIface]) ∧ Below w.heap.size w w' := by
  have hch := checkHead_any c p b (w.alloc (.cells #[.int .i64 c, .int .i64 p, .int .i64 b] 103))
  have e0 : erV (HV.fault ⟨c, p, b⟩) = .nilIface := by unfold HV.fault; rw [if_pos hk]; exact erV_0
  rw [e0] at hch
  obtain ⟨g1, g2, g3, g4, g5, g6⟩ := HV.of_ok hk
  simp only at g1 g2 g3 g4 g5 g6
  have HC := toHid hch
  clear hch e0 hk
  go_enter Tryz.func240, Tryz.ntmps240
  go_wp2_with fail
  refine HC.out.mono ?_
  rintro e w1 ⟨rfl, hb1⟩
  obtain ⟨hc, hf⟩ := bcell hb1
  have hz : w.heap.size < w1.heap.size := by have := hb1.size; simp at this; omega
  go_wp2_with fail
  refine (sealed_any [83, 89, c, p, b + 1] _ 5 _ (by simp) ?_ (cells_row w1 [83, 89, c, p, b + 1] 5)).mono ?_
  · simp
  rintro e w2 ⟨rfl, hb2⟩
  go_wp2
  go_ret2
  exact ⟨rfl, ((((Below.refl _ _).alloc (Nat.le_refl _) _).trans (hb1.mono (by simp))).alloc (by omega) _).trans (hb2.mono (by simp; omega))⟩

set_option maxRecDepth 100000 in
set_option maxHeartbeats 400000 in
theorem head_no (c p b : Int) (w : World) (hk : HV.ok ⟨c, p, b⟩ = false) :
    Calls Tryz.prog 240 #[.agg #[.int .i64 c, .int .i64 p, .int .i64 b]] w fun e w' => e = .returned (.tuple #[.string ⟨#[]⟩, .iface 127 (.int .i64 1)]) ∧ Below w.heap.size w w' := by
  have hch := checkHead_any c p b (w.alloc (.cells #[.int .i64 c, .int .i64 p, .int .i64 b] 103))
  have e0 : erV (HV.fault ⟨c, p, b⟩) = .iface 127 (.int .i64 1) := by unfold HV.fault; rw [if_neg (by rw [hk]; decide)]; exact erV_1
  rw [e0] at hch
  have HC := toHid hch
  clear hch e0 hk
  go_enter Tryz.func240, Tryz.ntmps240
  go_wp2_with fail
  refine HC.out.mono ?_
  rintro e w1 ⟨rfl, hb1⟩
  go_wp2
  go_ret2
  exact ⟨rfl, ((Below.refl _ _).alloc (Nat.le_refl _) _).trans (hb1.mono (by simp))⟩

end Go.Proofs.YtonhoahnieoebabGreatDoor

namespace Go.Proofs.YtonhoahnieoebabGreatDoor
open Go.RowKit
attribute [local go_sem ↓] Go.wp_at_zero Go.wp_at_succ

theorem ne_b {a b : Int} (h : a ≠ b) : (a == b) = false ∧ (a != b) = true := by simp [h]
theorem eq_b {a b : Int} (h : a = b) : (a == b) = true ∧ (a != b) = false := by simp [h]
def entB (k p places : Int) : Bool := decide ((k = 2 ∧ 0 ≤ p ∧ p < places) ∨ ((k = 0 ∨ k = 1) ∧ p = 0))

theorem entB_yes {k p n : Int} (h : (k = 2 ∧ 0 ≤ p ∧ p < n) ∨ ((k = 0 ∨ k = 1) ∧ p = 0)) : entB k p n = true := decide_eq_true h
theorem entB_no {k p n : Int} (h : ¬ ((k = 2 ∧ 0 ≤ p ∧ p < n) ∨ ((k = 0 ∨ k = 1) ∧ p = 0))) : entB k p n = false := decide_eq_false h
theorem entB_of {k p n : Int} (h : entB k p n = true) : (k = 2 ∧ 0 ≤ p ∧ p < n) ∨ ((k = 0 ∨ k = 1) ∧ p = 0) := of_decide_eq_true h
set_option maxRecDepth 100000 in
set_option maxHeartbeats 400000 in
theorem isEntry_any (k p : Int) (w : World) :
    Calls Tryz.prog 271 #[.agg #[.int .i64 k, .int .i64 p]] w fun e w' => e = .returned (.bool (entB k p 40)) ∧ Below w.heap.size w w' := by
  have hbel : Below w.heap.size w (w.alloc (.cells #[.int .i64 k, .int .i64 p] 211)) := (Below.refl _ _).alloc (Nat.le_refl _) _
  by_cases h0 : k = 0
  · have HE : Hid (entB k p 40 = (p == 0)) := by
      unfold Hid
      rw [Bool.eq_iff_iff, beq_iff_eq]
      exact ⟨fun h => by have := entB_of h; omega, fun h => entB_yes (.inr ⟨.inl h0, h⟩)⟩
    obtain ⟨v1, v2⟩ := eq_b h0
    clear h0
    go_enter Tryz.func271, Tryz.ntmps271
    go_wp2
    go_ret
    exact ⟨ret_bool HE.out.symm, hbel⟩
  · by_cases h1 : k = 1
    · have HE : Hid (entB k p 40 = (p == 0)) := by
        unfold Hid
        rw [Bool.eq_iff_iff, beq_iff_eq]
        exact ⟨fun h => by have := entB_of h; omega, fun h => entB_yes (.inr ⟨.inr h1, h⟩)⟩
      obtain ⟨v1, v2⟩ := ne_b h0
      obtain ⟨v3, v4⟩ := eq_b h1
      clear h0 h1
      go_enter Tryz.func271, Tryz.ntmps271
      go_wp2
      go_ret
      exact ⟨ret_bool HE.out.symm, hbel⟩
    · obtain ⟨v1, v2⟩ := ne_b h0
      obtain ⟨v3, v4⟩ := ne_b h1
      by_cases h2 : k = 2
      · have HE : Hid (entB k p 40 = inB p 0 39) := by
          unfold Hid
          rw [Bool.eq_iff_iff]
          exact ⟨fun h => inB_yes (by have := entB_of h; omega), fun h => entB_yes (.inl ⟨h2, by have := of_decide_eq_true h; omega⟩)⟩
        obtain ⟨v5, v6⟩ := eq_b h2
        clear h0 h1 h2
        go_enter Tryz.func271, Tryz.ntmps271
        go_wp2_with (go_at_call 211; refine (within_any _ _ _ _).mono ?_; rintro e w' ⟨rfl, rfl⟩)
        go_ret
        exact ⟨ret_bool HE.out.symm, hbel⟩
      · have HE : Hid (entB k p 40 = false) := entB_no (by omega)
        obtain ⟨v5, v6⟩ := ne_b h2
        clear h0 h1 h2
        go_enter Tryz.func271, Tryz.ntmps271
        go_wp2
        go_ret
        exact ⟨ret_bool HE.out.symm, hbel⟩

def rowsN (n : Nat) : Nat := (n + 7) / 8

theorem rows_any (n : Nat) (w : World) (h : n ≤ 50) :
    Calls Tryz.prog 155 #[.int .i64 (n : Int)] w fun e w' => e = .returned (.int .i64 (rowsN n : Int)) ∧ w' = w := by
  go_enter Tryz.func155, Tryz.ntmps155
  go_wp2
  go_ret
  exact ⟨retI (by unfold rowsN; omega), rfl⟩

end Go.Proofs.YtonhoahnieoebabGreatDoor
