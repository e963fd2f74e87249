/-
A write on a device whatever it meets; a copy of a device.
A device of bytes (dev.Of): what it gives.
-/
import Derived.Test.YtncjnjlakhohgaaQDevWrite2
namespace Go.Proofs.Ytncjnjlakhohgaa
open Go.RowKit
attribute [local go_sem ↓] Go.wp_at_zero Go.wp_at_succ

def DV.ticked (d : DV) : DV := if d.fail = -1 then d else d.failing (d.fail - 1)

theorem DV.ticked_fl (d : DV) : d.ticked.fl = d.fl := by unfold DV.ticked; split <;> rfl
theorem DV.ticked_wr (d : DV) : d.ticked.wr = d.wr := by unfold DV.ticked; split <;> rfl

set_option maxRecDepth 100000 in
set_option maxHeartbeats 400000 in
theorem fails_tick {B : Nat} {h : Hd} {d : DV} (w : World) (hd : IsDev B w h d) (hn : 0 < d.fail) :
    Calls Try.prog 69 #[.pointer (some ⟨h.p, 0, none⟩)] w fun e w' => e = .returned (.bool false) ∧ w' = w.setCell ⟨h.p, 4, none⟩ (.int .i64 (d.fail - 1)) := by
  obtain ⟨c0, c1, c2, c3, c4, fz⟩ := hd.cells
  have hm := hd.ok.f2
  have g1 : (d.fail == -1) = false := beq_eq_false_iff_ne.2 (by omega)
  have HE : Hid ((d.fail - 1 == -1) = false) := beq_eq_false_iff_ne.2 (by omega)
  clear hd
  go_enter Try.func69, Try.ntmps69
  go_wp2
  go_ret
  exact ⟨ret_b HE.out, rfl⟩

theorem write_ok {B : Nat} {h : Hd} {d : DV} (i : Nat) (s : ByteArray) (w : World) (hd : IsDev B w h d) (hB : B ≤ w.heap.size) (hs : s.size = 16) (hi : i < d.fl.length) (hw : d.wr < 1000000000) (hf : d.fail ≠ 0) :
    Calls Try.prog 25 #[.pointer (some ⟨h.p, 0, none⟩), .int .i64 (i : Int), .string s] w fun e w' =>
      ∃ v : Value, e = .returned .nilIface ∧ IsDev B w' { h with v2 := v } (d.ticked.wrote i s.data.toList) ∧ Kept h.fp w w' ∧ ∀ k, v.ownBlock = some k → h.v2.ownBlock = some k ∨ w.heap.size ≤ k := by
  have HH : Hid (Calls Try.prog 68 #[.pointer (some ⟨h.p, 0, none⟩), .int .i64 (i : Int)] w fun e w' => e = .returned (.bool true) ∧ w' = w) := by
    have := has_any (i : Int) w hd
    rw [show d.has (i : Int) = true by unfold DV.has; simp; omega] at this
    exact this
  by_cases h1 : d.fail = -1
  · have e : d.ticked = d := by unfold DV.ticked; rw [if_pos h1]
    rw [e]
    refine (write_go i s w w hd hB hs hi hw HH (fails_never w hd h1)).mono ?_
    rintro e w' ⟨v, rfl, a, b, c⟩
    exact ⟨v, rfl, a, b, fun k hk => by rcases c with c | c <;> rw [c] at hk; exact .inl hk; right; simp at hk; omega⟩
  · have h2 := hd.ok.f1
    have h3 := hd.ok.f2
    have e : d.ticked = d.failing (d.fail - 1) := by unfold DV.ticked; rw [if_neg h1]
    rw [e]
    have hsz : (w.setCell ⟨h.p, 4, none⟩ (.int .i64 (d.fail - 1))).heap.size = w.heap.size := by simp [World.setCell]
    refine (write_go i s w (w.setCell ⟨h.p, 4, none⟩ (.int .i64 (d.fail - 1))) (hd.failing (by omega) (by omega)) (by rw [hsz]; exact hB) hs hi hw HH (fails_tick w hd (by omega))).mono ?_
    rintro e w' ⟨v, rfl, a, b, c⟩
    refine ⟨v, rfl, a, ((Kept.refl _ w).setCell (.inl (.inl rfl)) _).trans b, fun k hk => ?_⟩
    rw [hsz] at c
    rcases c with c | c <;> rw [c] at hk
    · exact .inl hk
    · right; simp at hk; omega
end Go.Proofs.Ytncjnjlakhohgaa

namespace Go.Proofs.Ytncjnjlakhohgaa
open Go.RowKit
attribute [local go_sem ↓] Go.wp_at_zero Go.wp_at_succ

def chunk (s : ByteArray) (i : Nat) : List UInt8 := (s.data.toList.drop (i * 16)).take 16
def chunkTo (s : ByteArray) (n k : Nat) : List (List UInt8) := (List.range n).map fun i => if i < k then chunk s i else noughts

theorem chunk_len (s : ByteArray) (n i : Nat) (hs : s.size = n * 16) (hi : i < n) : (chunk s i).length = 16 := by
  have : s.data.toList.length = n * 16 := by simpa using hs
  simp only [chunk, List.length_take, List.length_drop]
  omega

theorem chunkTo_len (s : ByteArray) (n k : Nat) : (chunkTo s n k).length = n := by simp [chunkTo]

theorem chunkTo_16 (s : ByteArray) (n k : Nat) (hs : s.size = n * 16) : ∀ x ∈ chunkTo s n k, x.length = 16 := by
  intro x hx
  obtain ⟨i, hi, rfl⟩ := List.mem_map.1 hx
  have hi' := List.mem_range.1 hi
  split
  · exact chunk_len s n i hs hi'
  · rfl

theorem chunkTo_zero (s : ByteArray) (n : Nat) : chunkTo s n 0 = List.replicate n noughts := by
  simp [chunkTo, List.map_const']

theorem chunkTo_succ (s : ByteArray) (n k : Nat) : chunkTo s n (k + 1) = (chunkTo s n k).set k (chunk s k) := by
  apply List.ext_getElem?
  intro i
  rw [List.getElem?_set]
  by_cases e : k = i
  · subst e
    by_cases hk : k < n
    · simp [chunkTo, hk]
    · simp [chunkTo, hk]
  · rw [if_neg e]
    by_cases hi : i < n
    · have : (i < k + 1) ↔ (i < k) := by omega
      simp [chunkTo, hi, this]
    · simp [chunkTo, hi]

theorem run_copy_text2 (w : World) (g off : Nat) (s : ByteArray) (cap : Nat) (cur : Array Value) (t : TypeId) (hn : 16 ≤ s.size) (hg : w.heap[g]? = some (.cells cur t (0, 0))) (hfit : off + 16 ≤ cur.size) :
    (Builtin.copy_ #[62, 9] 3 #[.slice (some ⟨g, off, none⟩) 16 cap, .string s]).run Try.prog w = .ok (.int .i64 16) (w.setCells g off (secV (s.data.toList.take 16))) := by
  have hlen : (secV (s.data.toList.take 16)).length = 16 := by
    have : s.data.toList.length = s.size := by simp
    rw [secV_len, List.length_take]; omega
  have hst := run_storeCells_cells (P := Try.prog) g off (secV (s.data.toList.take 16)) 0 w (fun j hj => by rw [Nat.add_zero, cell_of_row _ _ _ _ _ _ hg]; simp; omega) (fun j _ => frozen_of_row _ _ _ _ _ hg) (secV_one _)
  have hsz : ∀ w : World, (sizeOf 5).run Try.prog w = .ok 1 w := fun _ => by kernel_rfl
  have hmin : Nat.min s.size 16 = 16 := Nat.min_eq_right hn
  simp only [Nat.add_zero] at hst
  have e : List.take 16 (List.map (fun b => Value.int .u8 (b.toNat : Int)) s.data.toList) = secV (s.data.toList.take 16) := by simp [secV]
  simp [Builtin.copy_, run_underlying Try.underlying62, Builtin.lenOf, hsz, Builtin.firstCells, goInt]
  rw [hmin, e, hst]
  rfl

theorem chunk_extract (s : ByteArray) (i : Nat) : (s.extract (i * 16) s.size).data.toList.take 16 = chunk s i := by
  have hl : s.data.toList.length = s.size := by simp
  have : (s.extract (i * 16) s.size).data.toList = s.data.toList.drop (i * 16) := by
    simp
    rw [List.take_of_length_le]
    rw [List.length_drop, hl]
    exact Nat.le_refl _
  rw [this]; rfl

set_option maxRecDepth 100000 in
set_option maxHeartbeats 400000 in
theorem of_no (s : ByteArray) (w : World) (hs : s.size ≤ maxLen) (hn : s.size % 16 ≠ 0 ∨ s.size < 16 ∨ 3200 < s.size) :
    Calls Try.prog 19 #[.string s] w fun e w' => e = .returned (.tuple #[.pointer none, .iface 112 (.int .i64 1)]) ∧ w' = w := by
  unfold maxLen at hs
  by_cases h1 : s.size % 16 = 0
  · have g1 : ((s.size : Int) % 16 != 0) = false := by simp; omega
    by_cases h2 : s.size < 16
    · have g2 : decide ((s.size : Int) / 16 < 1) = true := by simp; omega
      go_enter Try.func19, Try.ntmps19
      go_wp2
      go_ret2
      exact ⟨rfl, rfl⟩
    · have g2 : decide ((s.size : Int) / 16 < 1) = false := by simp; omega
      have g3 : decide (200 < (s.size : Int) / 16) = true := by simp; omega
      go_enter Try.func19, Try.ntmps19
      go_wp2
      go_ret2
      exact ⟨rfl, rfl⟩
  · have g1 : ((s.size : Int) % 16 != 0) = true := by simp; omega
    go_enter Try.func19, Try.ntmps19
    go_wp2
    go_ret2
    exact ⟨rfl, rfl⟩

set_option maxRecDepth 100000 in
set_option maxHeartbeats 1000000 in
theorem of_yes (s : ByteArray) (n : Nat) (w : World) (hs : s.size = n * 16) (h1 : 1 ≤ n) (h2 : n ≤ 200) :
    Calls Try.prog 19 #[.string s] w fun e w' =>
      ∃ h : Hd, e = .returned (.tuple #[.pointer (some ⟨h.p, 0, none⟩), .nilIface]) ∧ IsDev w.heap.size w' h (DV.made (chunkTo s n n) 0) ∧ Below w.heap.size w w' := by
  have e1 : (s.size : Int) / 16 = n := by omega
  have g1 : ((s.size : Int) % 16 != 0) = false := by simp; omega
  have g2 : decide ((n : Int) < 1) = false := by simp; omega
  have g3 : decide (200 < (n : Int)) = false := by simp; omega
  have hsz : s.size ≤ 3200 := by omega
  obtain ⟨i0, hi, hz0, hz1, hz2⟩ := info_parts info_sec
  obtain ⟨w1, hmk, hown, hgr⟩ := run_make_full (P := Try.prog) w w.heap.size 113 115 i0 zeroSec 16 Try.underlying113 hi hz0 hz1 .i64 .i64 n (by rw [hz2]; omega) (by unfold maxLen; omega) (Nat.le_refl _)
  rw [made_noughts, ← chunkTo_zero s n] at hown
  have HO : Hid (w1.ownsRow w.heap.size 115 16 (.slice (some ⟨w.heap.size, 0, none⟩) n n) n (secsV (chunkTo s n 0))) := hown
  have HB : Hid (Below w.heap.size w w1) := (Below.refl _ _).grown hgr (Nat.le_refl _) (fun k e => by cases e)
  have HS : Hid (s.size = n * 16) := hs
  clear hown hgr hi hz0 hz1 hz2 hs
  go_enter Try.func19, Try.ntmps19
  go_wp2
  clear e1
  go_loopw [26] (fun i wr => ∃ k : Nat, k ≤ n ∧ i = .int .i64 k ∧ wr.ownsRow w.heap.size 115 16 (.slice (some ⟨w.heap.size, 0, none⟩) n n) n (secsV (chunkTo s n k)) ∧ Below w.heap.size w wr) (fun i _ => n - (intOf i).toNat)
  case atStart => exact ⟨0, Nat.zero_le _, rfl, HO.out, HB.out⟩
  case round =>
    obtain ⟨k, hk, rfl, how, hbel⟩ := hrel
    by_cases hlt : k < n
    · obtain ⟨_, cur, hh, hc1, _, hc3, _⟩ := ownsRow_block how
      have hcp := run_copy_text2 wr.drew w.heap.size (k * 16) (s.extract (k * 16) s.size) 16 cur 115 (by simp; have := HS.out; omega) hh (by omega)
      rw [chunk_extract] at hcp
      have HOW : Hid ((wr.drew.setCells w.heap.size (k * 16) (secV (chunk s k))).ownsRow w.heap.size 115 16 (.slice (some ⟨w.heap.size, 0, none⟩) n n) n (secsV (chunkTo s n (k + 1)))) := by
        unfold Hid
        rw [chunkTo_succ]
        exact ownsRow_setSec (w := wr.drew) how (chunkTo_len s n k) (chunkTo_16 s n k HS.out) k (chunk s k) (chunk_len s n k HS.out hlt) hlt
      have HBL : Hid (Below w.heap.size w (wr.drew.setCells w.heap.size (k * 16) (secV (chunk s k)))) := Below.setCells hbel.drew (Nat.le_refl _) _ _
      generalize secV (chunk s k) = cs at hcp HOW HBL
      clear how hbel hh
      have hkk : (k : Int) * 16 ≤ s.size := by have := HS.out; omega
      go_wp2
      go_region
      go_wp2
      go_roundw
      case rel =>
        have fin : ∃ k1 : Nat, k1 ≤ n ∧ Value.int .i64 ((k : Int) + 1) = .int .i64 k1 ∧ (wr.drew.setCells w.heap.size (k * 16) cs).ownsRow w.heap.size 115 16 (.slice (some ⟨w.heap.size, 0, none⟩) n n) n (secsV (chunkTo s n k1)) ∧ Below w.heap.size w (wr.drew.setCells w.heap.size (k * 16) cs) := ⟨k + 1, by omega, by go_num, HOW.out, HBL.out⟩
        first | exact fin | ((repeat apply Exists.intro); exact ⟨fin, rfl⟩)
      case measure => simp [intOf]; omega
    · have hkn : k = n := by omega
      subst hkn
      have hmd := made_any (g := w.heap.size) (cap := k) (chunkTo s k k) 0 wr (by rw [chunkTo_len]; exact h1) (by rw [chunkTo_len]; exact h2) (chunkTo_16 s k k HS.out) (by omega) (by rw [chunkTo_len]; exact how) hbel.size
      rw [chunkTo_len] at hmd
      have HM := hmd
      have HBL : Hid (Below w.heap.size w wr) := hbel
      clear hmd how hbel
      go_wp2_with fail
      refine HM.mono ?_
      rintro e w5 ⟨h', rfl, hd5, hb5, _⟩
      clear HM
      go_wp2
      go_ret2
      exact ⟨h', rfl, hd5, HBL.out.trans (hb5.mono HBL.out.size)⟩
end Go.Proofs.Ytncjnjlakhohgaa
