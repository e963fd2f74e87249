/-
A list of texts that lies in memory.
Heads, tables and desks as plain data (C1 to C3): the sealed sector of bytes; what may be; what a sector is.
Sealed sectors (chapter 3), in the program and in the document's answer: what each call gives.
-/
import Derived.Test.YtjegaljdindfaabGreatDoorQSumWalks
import Derived.Deep.QuietTactic
import Derived.BigQuiet
import Derived.Deep.RegionLaw
import Derived.Deep.RegionHeld3
import Derived.Deep.DrawnRows
import Derived.Deep.AppendSrc
import Derived.Laws.CopyOwn
import Derived.Lib.ConvBytes
import Derived.Deep.WholeRow
namespace Go.Proofs.YtjegaljdindfaabGreatDoor
open Go.RowKit

/- A list of texts that lies in memory. -/
def Texts (w : World) (la : Option Addr) (len : Nat) (ls : List ByteArray) : Prop :=
  ls.length = len ∧ ∀ k, k < len → ∃ b off, la = some ⟨b, off, none⟩ ∧ w.cell? ⟨b, off + k, none⟩ = some (.string (ls.getD k ByteArray.empty)) ∧ (ls.getD k ByteArray.empty).size ≤ maxLen

theorem Texts.below {w w' : World} {la : Option Addr} {len : Nat} {ls : List ByteArray} (h : Texts w la len ls) (hb : Below w.heap.size w w') : Texts w' la len ls := by
  refine ⟨h.1, fun k hk => ?_⟩
  obtain ⟨b, off, e, hc, hs⟩ := h.2 k hk
  exact ⟨b, off, e, by rw [hb.cell (World.block_lt_of_cell? w _ hc)]; exact hc, hs⟩

theorem ret_bool {a b : Bool} (h : a = b) : Ending.returned (.bool a) = .returned (.bool b) := by rw [h]
end Go.Proofs.YtjegaljdindfaabGreatDoor

namespace Go.Proofs.YtjegaljdindfaabGreatDoor
open Go.RowKit

/- An error, by its number. -/
def erV (f : Int) : Value := if f = 0 then .nilIface else .iface 87 (.int .i64 f)

/- Twelve bytes, noughts behind those that are given; and the sector that is sealed. -/
def padL (l : List Int) : List Int := l ++ List.replicate (12 - l.length) 0
def s12 (l : List Int) : ByteArray := strOfNums (padL l)
def sealS (l : List Int) : ByteArray := s12 l ++ four (Crc.total (s12 l).data.toList)

theorem padL_length (l : List Int) (h : l.length ≤ 12) : (padL l).length = 12 := by
  unfold padL; rw [List.length_append, List.length_replicate]; omega

theorem strOfNums_size (l : List Int) : (strOfNums l).size = l.length := by simp [strOfNums, ByteArray.size]

theorem s12_size (l : List Int) (h : l.length ≤ 12) : (s12 l).size = 12 := by
  unfold s12; rw [strOfNums_size, padL_length l h]

theorem fourS_size (s : Nat) : (four s).size = 4 := rfl

theorem sealS_size (l : List Int) (h : l.length ≤ 12) : (sealS l).size = 16 := by
  unfold sealS; rw [ByteArray.size_append, s12_size l h, fourS_size]

/- Is a text of sixteen bytes sealed? -/
def sealedB (s : ByteArray) : Bool := (four (Crc.total (s.extract 0 12).data.toList)).toList == (s.extract 12 s.size).toList
def sealF (s : ByteArray) : Int := if s.size = 16 then (if sealedB s = true then 0 else 3) else 1

def bAt (s : ByteArray) (i : Nat) : Int := ((s.data.toList.getD i 0).toNat : Int)

theorem bAt_bd (s : ByteArray) (i : Nat) : 0 ≤ bAt s i ∧ bAt s i < 256 := by
  unfold bAt; have := (s.data.toList.getD i 0).toNat_lt; omega

theorem bAt_eq (s : ByteArray) (i : Nat) (h : i < s.size) : ((s[i]'h).toNat : Int) = bAt s i := by
  have hl : i < s.data.toList.length := by simpa using h
  unfold bAt
  rw [List.getD_eq_getElem?_getD, List.getElem?_eq_getElem hl]
  rfl

/- Heads. -/
structure HV where
  c : Int
  p : Int
  b : Int

def HV.ok (h : HV) : Bool := decide (1 ≤ h.c ∧ h.c ≤ 32 ∧ 0 ≤ h.p ∧ h.p ≤ 40 ∧ -1 ≤ h.b ∧ h.b ≤ 4)
def HV.cells (h : HV) : Array Value := #[.int .i64 h.c, .int .i64 h.p, .int .i64 h.b]
def HV.zero : HV := ⟨0, 0, 0⟩
def HV.bytes (h : HV) : List Int := [83, 89, h.c, h.p, h.b + 1]
def HV.fault (h : HV) : Int := if h.ok = true then 0 else 1
def HV.text (h : HV) : ByteArray := if h.ok = true then sealS h.bytes else ⟨#[]⟩

def headAt (s : ByteArray) : HV := ⟨bAt s 2, bAt s 3, bAt s 4 - 1⟩
def headGood (s : ByteArray) : Bool := (headAt s).ok && ((sealS (headAt s).bytes).toList == s.toList)
def headOf (s : ByteArray) : HV := if sealF s = 0 ∧ headGood s = true then headAt s else HV.zero
def headF (s : ByteArray) : Int := if sealF s = 0 then (if headGood s = true then 0 else 2) else sealF s

/- Desks. -/
structure KV where
  r : Int
  k : Int
  f : Int
  a : Int
  u : Int

def KV.bound (d : KV) : Bool := decide (0 ≤ d.r ∧ d.r ≤ 4 ∧ 0 ≤ d.k ∧ d.k ≤ 3 ∧ -1 ≤ d.f ∧ d.f ≤ 4 ∧ 0 ≤ d.a ∧ d.a ≤ 1000 ∧ 0 ≤ d.u ∧ d.u ≤ 1000)
def KV.may (d : KV) : Bool := decide ((d.k = 0 ∧ d.f = -1 ∧ d.a = 0 ∧ d.u = 0) ∨ (d.k ≠ 0 ∧ d.f ≠ d.r ∧ (d.f ≠ -1 ∨ d.k = 2)))
def KV.fault (d : KV) : Int := if d.bound = true then (if d.may = true then 0 else 2) else 1
def KV.cells (d : KV) : Array Value := #[.int .i64 d.r, .int .i64 d.k, .int .i64 d.f, .int .i64 d.a, .int .i64 d.u]
def KV.zero : KV := ⟨0, 0, 0, 0, 0⟩
def KV.bytes (d : KV) : List Int := [68, 75, d.r, d.k, d.f + 1, d.a % 256, d.a / 256, d.u % 256, d.u / 256]
def KV.text (d : KV) : ByteArray := if d.fault = 0 then sealS d.bytes else ⟨#[]⟩

def deskAt (s : ByteArray) : KV := ⟨bAt s 2, bAt s 3, bAt s 4 - 1, bAt s 5 + bAt s 6 * 256, bAt s 7 + bAt s 8 * 256⟩
def deskGood (s : ByteArray) : Bool := decide ((deskAt s).fault = 0) && ((sealS (deskAt s).bytes).toList == s.toList)
def deskOf (s : ByteArray) : KV := if sealF s = 0 ∧ deskGood s = true then deskAt s else KV.zero
def deskF (s : ByteArray) : Int := if sealF s = 0 then (if deskGood s = true then 0 else 2) else sealF s

/- What was sealed is sealed, and is read. -/
theorem s12_at (l : List Int) (i : Nat) (hi : i < l.length) (h12 : l.length ≤ 12) (h0 : 0 ≤ l.getD i 0) (h1 : l.getD i 0 < 256) : bAt (sealS l) i = l.getD i 0 := by
  have e : (sealS l).data.toList = (s12 l).data.toList ++ (four (Crc.total (s12 l).data.toList)).data.toList := by unfold sealS; simp
  have e2 : (s12 l).data.toList = (padL l).map fun n => UInt8.ofNat n.toNat := by unfold s12 strOfNums; simp
  have hp : i < (padL l).length := by rw [padL_length l h12]; omega
  unfold bAt
  rw [e, e2, List.getD_eq_getElem?_getD, List.getElem?_append_left (by simpa using hp), List.getElem?_map, List.getElem?_eq_getElem hp]
  have e3 : (padL l)[i] = l.getD i 0 := by
    have e4 : (padL l)[i]? = l[i]? := by unfold padL; rw [List.getElem?_append_left hi]
    rw [List.getElem?_eq_getElem hp] at e4
    rw [List.getD_eq_getElem?_getD, ← e4]; rfl
  rw [e3]
  simp only [Option.map_some, Option.getD_some, UInt8.toNat_ofNat']
  omega

theorem extract_left (a b : ByteArray) (n : Nat) (h : a.size = n) : (a ++ b).extract 0 n = a := by
  apply ByteArray.ext
  have hl : n = a.data.size := h.symm
  rw [ByteArray.data_extract, ByteArray.data_append, hl, Array.extract_append_left, Array.extract_size]

theorem extract_right (a b : ByteArray) (n : Nat) (h : a.size = n) : (a ++ b).extract n (a ++ b).size = b := by
  apply ByteArray.ext
  have hl : n = a.data.size := h.symm
  have hs : (a ++ b).size = a.data.size + b.data.size := by rw [ByteArray.size_append]; rfl
  rw [hs, ByteArray.data_extract, ByteArray.data_append, hl, Array.extract_append_right, Array.extract_size]

theorem sealedB_seal (l : List Int) (h : l.length ≤ 12) : sealedB (sealS l) = true := by
  unfold sealedB sealS
  rw [extract_left _ _ 12 (s12_size l h), extract_right _ _ 12 (s12_size l h)]
  exact beq_self_eq_true _

theorem sealF_seal (l : List Int) (h : l.length ≤ 12) : sealF (sealS l) = 0 := by
  unfold sealF
  rw [if_pos (sealS_size l h), if_pos (sealedB_seal l h)]

theorem headAt_seal (h : HV) (hk : h.ok = true) : headAt (sealS h.bytes) = h := by
  have hb := of_decide_eq_true hk
  obtain ⟨c, p, b⟩ := h
  simp only at hb
  have e2 : bAt (sealS (HV.bytes ⟨c, p, b⟩)) 2 = c := s12_at (HV.bytes ⟨c, p, b⟩) 2 (by simp [HV.bytes]) (by simp [HV.bytes]) (by show 0 ≤ c; omega) (by show c < 256; omega)
  have e3 : bAt (sealS (HV.bytes ⟨c, p, b⟩)) 3 = p := s12_at (HV.bytes ⟨c, p, b⟩) 3 (by simp [HV.bytes]) (by simp [HV.bytes]) (by show 0 ≤ p; omega) (by show p < 256; omega)
  have e4 : bAt (sealS (HV.bytes ⟨c, p, b⟩)) 4 = b + 1 := s12_at (HV.bytes ⟨c, p, b⟩) 4 (by simp [HV.bytes]) (by simp [HV.bytes]) (by show 0 ≤ b + 1; omega) (by show b + 1 < 256; omega)
  unfold headAt
  rw [e2, e3, e4]
  congr 1; omega

theorem headOf_seal (h : HV) (hk : h.ok = true) : headOf (sealS h.bytes) = h ∧ headF (sealS h.bytes) = 0 := by
  have e := headAt_seal h hk
  have hs : sealF (sealS h.bytes) = 0 := sealF_seal _ (by simp [HV.bytes])
  have hg : headGood (sealS h.bytes) = true := by unfold headGood; rw [e, hk]; simp
  unfold headOf headF
  rw [if_pos ⟨hs, hg⟩, if_pos hs, if_pos hg]
  exact ⟨e, rfl⟩

theorem KV.of_fault {d : KV} (h : d.fault = 0) : d.bound = true ∧ d.may = true := by
  unfold KV.fault at h
  split at h
  · next hb => split at h
               · next hm => exact ⟨hb, hm⟩
               · omega
  · omega

theorem deskAt_seal (d : KV) (hk : d.fault = 0) : deskAt (sealS d.bytes) = d := by
  have hb := of_decide_eq_true (KV.of_fault hk).1
  obtain ⟨r, k, f, a, u⟩ := d
  simp only at hb
  have l9 : (KV.bytes ⟨r, k, f, a, u⟩).length = 9 := rfl
  have e2 : bAt (sealS (KV.bytes ⟨r, k, f, a, u⟩)) 2 = r := s12_at (KV.bytes ⟨r, k, f, a, u⟩) 2 (by omega) (by omega) (by show 0 ≤ r; omega) (by show r < 256; omega)
  have e3 : bAt (sealS (KV.bytes ⟨r, k, f, a, u⟩)) 3 = k := s12_at (KV.bytes ⟨r, k, f, a, u⟩) 3 (by omega) (by omega) (by show 0 ≤ k; omega) (by show k < 256; omega)
  have e4 : bAt (sealS (KV.bytes ⟨r, k, f, a, u⟩)) 4 = f + 1 := s12_at (KV.bytes ⟨r, k, f, a, u⟩) 4 (by omega) (by omega) (by show 0 ≤ f + 1; omega) (by show f + 1 < 256; omega)
  have e5 : bAt (sealS (KV.bytes ⟨r, k, f, a, u⟩)) 5 = a % 256 := s12_at (KV.bytes ⟨r, k, f, a, u⟩) 5 (by omega) (by omega) (by show 0 ≤ a % 256; omega) (by show a % 256 < 256; omega)
  have e6 : bAt (sealS (KV.bytes ⟨r, k, f, a, u⟩)) 6 = a / 256 := s12_at (KV.bytes ⟨r, k, f, a, u⟩) 6 (by omega) (by omega) (by show 0 ≤ a / 256; omega) (by show a / 256 < 256; omega)
  have e7 : bAt (sealS (KV.bytes ⟨r, k, f, a, u⟩)) 7 = u % 256 := s12_at (KV.bytes ⟨r, k, f, a, u⟩) 7 (by omega) (by omega) (by show 0 ≤ u % 256; omega) (by show u % 256 < 256; omega)
  have e8 : bAt (sealS (KV.bytes ⟨r, k, f, a, u⟩)) 8 = u / 256 := s12_at (KV.bytes ⟨r, k, f, a, u⟩) 8 (by omega) (by omega) (by show 0 ≤ u / 256; omega) (by show u / 256 < 256; omega)
  unfold deskAt
  rw [e2, e3, e4, e5, e6, e7, e8]
  congr 1 <;> omega

theorem deskOf_seal (d : KV) (hk : d.fault = 0) : deskOf (sealS d.bytes) = d ∧ deskF (sealS d.bytes) = 0 := by
  have e := deskAt_seal d hk
  have hs : sealF (sealS d.bytes) = 0 := sealF_seal _ (by simp [KV.bytes])
  have hg : deskGood (sealS d.bytes) = true := by unfold deskGood; rw [e, decide_eq_true hk]; simp
  unfold deskOf deskF
  rw [if_pos ⟨hs, hg⟩, if_pos hs, if_pos hg]
  exact ⟨e, rfl⟩
end Go.Proofs.YtjegaljdindfaabGreatDoor

namespace Go.Proofs.YtjegaljdindfaabGreatDoor
open Go.RowKit
attribute [local go_sem ↓] Go.wp_at_zero Go.wp_at_succ

def byV (l : List Int) : List Value := l.map (Value.int .u8)

theorem byV_one (l : List Int) : ∀ u ∈ byV l, u.oneCell' = true := by
  intro u hu
  obtain ⟨n, _, rfl⟩ := List.mem_map.1 hu
  rfl

theorem byV_at (l : List Int) (j : Nat) (hj : j < l.length) : (byV l)[j]? = some (.int .u8 (l.getD j 0)) := by
  simp [byV, List.getElem?_eq_getElem hj, List.getD]

theorem info_u8 : (Tryz.prog.info? 5).map (fun i => (i.zero, i.size, i.bytes)) = some (some (.int .u8 0), 1, 1) := by kernel_rfl
theorem size_u8 : (Tryz.prog.info? 5).map (·.size) = some 1 := by kernel_rfl

def inB (n lo hi : Int) : Bool := decide (lo ≤ n ∧ n ≤ hi)

theorem retS {a b : ByteArray} (h : a = b) : Ending.returned (.string a) = .returned (.string b) := by rw [h]

theorem within_any (n lo hi : Int) (w : World) :
    Calls Tryz.prog 134 #[.int .i64 n, .int .i64 lo, .int .i64 hi] w fun e w' => e = .returned (.bool (inB n lo hi)) ∧ w' = w := by
  by_cases h0 : lo ≤ n
  · have g0 : decide (lo ≤ n) = true := by simpa using h0
    have HF : Hid (inB n lo hi = decide (n ≤ hi)) := by unfold Hid inB; simp [h0]
    go_enter Tryz.func134, Tryz.ntmps134
    go_wp2
    go_ret
    exact ⟨ret_bool HF.out.symm, rfl⟩
  · have g0 : decide (lo ≤ n) = false := by simpa using h0
    have HF : Hid (inB n lo hi = false) := by unfold Hid inB; simp [h0]
    go_enter Tryz.func134, Tryz.ntmps134
    go_wp2
    go_ret
    exact ⟨ret_bool HF.out.symm, rfl⟩

theorem run_copy_seal (w : World) (l : List Int) (b cap : Nat) (hl : l.length ≤ 12) (hb : b < w.heap.size) (hc : ∀ j, j < l.length → w.cell? ⟨b, j, none⟩ = some (.int .u8 (l.getD j 0))) :
    (Builtin.copy_ #[132, 132] 3 #[.slice (some ⟨w.heap.size, 0, none⟩) 12 12, .slice (some ⟨b, 0, none⟩) l.length cap]).run Tryz.prog (w.alloc (.cells #[.int .u8 0, .int .u8 0, .int .u8 0, .int .u8 0, .int .u8 0, .int .u8 0, .int .u8 0, .int .u8 0, .int .u8 0, .int .u8 0, .int .u8 0, .int .u8 0] 235)) =
      .ok (.int .i64 (l.length : Int)) (w.alloc (.cells (byV (padL l)).toArray 235)) := by
  have hm : (byV l).length = Nat.min l.length 12 := by
    rw [show Nat.min l.length 12 = l.length from Nat.min_eq_left hl]; simp [byV]
  have h := run_copy_row (P := Tryz.prog) (w.alloc (.cells #[.int .u8 0, .int .u8 0, .int .u8 0, .int .u8 0, .int .u8 0, .int .u8 0, .int .u8 0, .int .u8 0, .int .u8 0, .int .u8 0, .int .u8 0, .int .u8 0] 235)) 132 132 3 5 w.heap.size 0 12 12 ⟨b, 0, none⟩ l.length cap _ 235 (byV l) Tryz.underlying132 size_u8 (heap_alloc_new w _) hm
    (fun j v hj => by
      have hjl : j < l.length := by
        rcases Nat.lt_or_ge j l.length with h | h
        · exact h
        · rw [List.getElem?_eq_none (by simpa [byV] using h)] at hj; cases hj
      rw [byV_at l j hjl] at hj
      rw [Go.WideShapes.add_plain, Nat.zero_add, World.cell?_alloc_past _ _ _ hb, hc j hjl]; exact hj)
    (by simp [byV]; omega) (byV_one l)
  have e1 : (byV l).length = l.length := by simp [byV]
  have e2 : goInt (byV l).length = Value.int .i64 (l.length : Int) := by rw [e1]; rfl
  have e3 : (#[.int .u8 0, .int .u8 0, .int .u8 0, .int .u8 0, .int .u8 0, .int .u8 0, .int .u8 0, .int .u8 0, .int .u8 0, .int .u8 0, .int .u8 0, .int .u8 0] : Array Value).toList = List.replicate 12 (Value.int .u8 0) := rfl
  have e4 : byV (padL l) = byV l ++ List.replicate (12 - l.length) (Value.int .u8 0) := by simp [byV, padL]
  rw [h, World.setRow_alloc_new, e2, e3, e1, List.take_zero, List.nil_append, Nat.zero_add, List.drop_replicate, ← e4]

theorem run_conv_seal (w : World) (l : List Int) (hl : l.length ≤ 12) :
    (convert 132 9 (.slice (some ⟨w.heap.size, 0, none⟩) 12 12)).run Tryz.prog (w.alloc (.cells (byV (padL l)).toArray 235)) = .ok (.string (s12 l)) (w.alloc (.cells (byV (padL l)).toArray 235)) := by
  have hp := padL_length l hl
  exact run_convert_bytes_arg (P := Tryz.prog) _ 132 5 Tryz.underlying132 Tryz.underlying5 w.heap.size 0 12 12 (padL l) hp (fun i hi => by
    rw [Nat.zero_add, cell_of_row _ _ _ _ _ _ (heap_alloc_new w _)]
    rw [List.getElem?_toArray]
    exact byV_at (padL l) i (by omega)) 9 Tryz.underlying9

set_option maxRecDepth 100000 in
set_option maxHeartbeats 400000 in
theorem sealed_any (l : List Int) (b cap : Nat) (w : World) (hl : l.length ≤ 12) (hb : b < w.heap.size) (hc : ∀ j, j < l.length → w.cell? ⟨b, j, none⟩ = some (.int .u8 (l.getD j 0))) :
    Calls Tryz.prog 170 #[.slice (some ⟨b, 0, none⟩) l.length cap] w fun e w' => e = .returned (.string (sealS l)) ∧ Below w.heap.size w w' := by
  have hcp := run_copy_seal w l b cap hl hb hc
  have hcv := run_conv_seal w l hl
  have hsz := s12_size l hl
  have HR : Hid (s12 l ++ four (Crc.total (s12 l).data.toList) = sealS l) := rfl
  have hf4 := fourS_size (Crc.total (s12 l).data.toList)
  have htl := Crc.total_lt (s12 l).data.toList
  clear hc
  generalize byV (padL l) = P at hcp hcv
  generalize s12 l = S at hcv hsz HR hf4 htl
  go_enter Tryz.func170, Tryz.ntmps170
  go_wp2_with fail
  refine (of_one S _ 1 _ (by unfold maxLen; omega) ?_).mono ?_
  · simp [go_sem]
  rintro e w' ⟨rfl, rfl⟩
  go_wp2_with fail
  refine (bytes_any _ _ htl).mono ?_
  rintro e w' ⟨rfl, hb2⟩
  go_wp2
  go_ret
  exact ⟨retS HR.out, (((Below.refl _ _).alloc (Nat.le_refl _) _).alloc (by simp) _).trans (hb2.mono (by simp; omega))⟩

set_option maxHeartbeats 400000 in
theorem refFour_any (s : Nat) (w : World) (hs : s < 4294967296) :
    Calls Tryz.prog 171 #[.int .u32 s] w fun e w' => e = .returned (.string (four s)) ∧ Below w.heap.size w w' := by
  have hcv := run_convert_bytes_arg (P := Tryz.prog) (w.alloc (.cells #[.int .u8 ((s : Int) % 256), .int .u8 ((s : Int) / 256 % 256), .int .u8 ((s : Int) / 65536 % 256), .int .u8 ((s : Int) / 16777216)] 5)) 132 5 Tryz.underlying132 Tryz.underlying5 w.heap.size 0 4 4 (fourI s) rfl (cells4 w _ _ _ _) 9 Tryz.underlying9
  go_enter Tryz.func171, Tryz.ntmps171
  go_wp2
  go_ret
  exact ⟨rfl, (Below.refl _ _).alloc (Nat.le_refl _) _⟩
end Go.Proofs.YtjegaljdindfaabGreatDoor
