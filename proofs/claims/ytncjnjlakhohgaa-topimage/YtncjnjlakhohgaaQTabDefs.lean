/-
Tables that are read (C2): entry by entry, row by row; how a table that is being read lies in memory.
-/
import Derived.Test.YtncjnjlakhohgaaQFormCells
namespace Go.Proofs.Ytncjnjlakhohgaa
open Go.RowKit

/- One entry more: none, if it may not stand there. -/
def stepT (h : HV) (acc : List (Int × Int)) (e : Int × Int) : Option (List (Int × Int)) :=
  if (acc.length : Int) = h.c then (if e = (0, 0) then some acc else none)
  else if entB e.1 e.2 h.p = true ∧ ¬ (e.1 = 2 ∧ e ∈ acc) then some (acc ++ [e]) else none

def entAt (s : ByteArray) (i : Nat) : Int × Int := (bAt s (i * 2), bAt s (i * 2 + 1))

def rowSt (h : HV) (acc : List (Int × Int)) (s : ByteArray) : Nat → Option (List (Int × Int))
  | 0 => some acc
  | i + 1 => match rowSt h acc s i with
    | none => none
    | some a => stepT h a (entAt s i)

theorem rowSt_none {h : HV} {acc : List (Int × Int)} {s : ByteArray} {i : Nat} (e : rowSt h acc s i = none) : ∀ j, i ≤ j → rowSt h acc s j = none := by
  intro j hj
  induction j with
  | zero => rw [show (0 : Nat) = i by omega]; exact e
  | succ j ih =>
    by_cases e2 : i = j + 1
    · rw [← e2]; exact e
    · have h1 := ih (by omega)
      show (match rowSt h acc s j with | none => none | some a => stepT h a (entAt s j)) = none
      rw [h1]

theorem rowSt_some {h : HV} {acc a : List (Int × Int)} {s : ByteArray} {i : Nat} (e : rowSt h acc s i = some a) : rowSt h acc s (i + 1) = stepT h a (entAt s i) := by
  show (match rowSt h acc s i with | none => none | some a => stepT h a (entAt s i)) = _
  rw [e]

theorem stepT_len {h : HV} {acc a : List (Int × Int)} {e : Int × Int} (hs : stepT h acc e = some a) (hl : (acc.length : Int) ≤ h.c) : (a.length : Int) ≤ h.c := by
  unfold stepT at hs
  split at hs
  · split at hs
    · cases hs; exact hl
    · cases hs
  · split at hs
    · cases hs; rw [List.length_append]; simp; omega
    · cases hs

theorem rowSt_len {h : HV} {acc : List (Int × Int)} {s : ByteArray} (hl : (acc.length : Int) ≤ h.c) : ∀ (i : Nat) (a : List (Int × Int)), rowSt h acc s i = some a → (a.length : Int) ≤ h.c := by
  intro i
  induction i with
  | zero => intro a e; cases e; exact hl
  | succ i ih =>
    intro a e
    cases e2 : rowSt h acc s i with
    | none => rw [rowSt_none e2 (i + 1) (by omega)] at e; cases e
    | some x => rw [rowSt_some e2] at e; exact stepT_len e (ih x e2)

/- Row by row: the entries so far, and what is wrong (0: nothing). -/
def tabTo (h : HV) (rows : List ByteArray) : Nat → List (Int × Int) × Int
  | 0 => ([], 0)
  | j + 1 => if (tabTo h rows j).2 = 0 then (if (rows.getD j ByteArray.empty).size = 16 then (match rowSt h (tabTo h rows j).1 (rows.getD j ByteArray.empty) 8 with | some a => (a, 0) | none => ([], 2)) else ([], 1)) else ([], (tabTo h rows j).2)

def tableIn (h : HV) (rows : List ByteArray) : Bool := h.ok && decide (rows.length = rowsN h.c.toNat)
def tableT (h : HV) (rows : List ByteArray) : List (Int × Int) := if tableIn h rows = true then (tabTo h rows rows.length).1 else []
def tableF (h : HV) (rows : List ByteArray) : Int := if tableIn h rows = true then (tabTo h rows rows.length).2 else 1

theorem tabTo_fault {h : HV} {rows : List ByteArray} {j : Nat} {f : Int} (hf : f ≠ 0) (e : tabTo h rows j = ([], f)) : ∀ i, j ≤ i → tabTo h rows i = ([], f) := by
  intro i hi
  induction i with
  | zero => rw [show (0 : Nat) = j by omega]; exact e
  | succ i ih =>
    by_cases e2 : j = i + 1
    · rw [← e2]; exact e
    · have h1 := ih (by omega)
      unfold tabTo
      rw [h1, if_neg hf]

theorem tabTo_short {h : HV} {rows : List ByteArray} {j : Nat} (e : (tabTo h rows j).2 = 0) (hs : (rows.getD j ByteArray.empty).size ≠ 16) : tabTo h rows (j + 1) = ([], 1) := by
  show (if (tabTo h rows j).2 = 0 then _ else _) = _
  rw [if_pos e, if_neg hs]

theorem tabTo_bad {h : HV} {rows : List ByteArray} {j : Nat} (e : (tabTo h rows j).2 = 0) (hs : (rows.getD j ByteArray.empty).size = 16) (hr : rowSt h (tabTo h rows j).1 (rows.getD j ByteArray.empty) 8 = none) : tabTo h rows (j + 1) = ([], 2) := by
  show (if (tabTo h rows j).2 = 0 then _ else _) = _
  rw [if_pos e, if_pos hs, hr]

theorem tabTo_good {h : HV} {rows : List ByteArray} {j : Nat} {a : List (Int × Int)} (e : (tabTo h rows j).2 = 0) (hs : (rows.getD j ByteArray.empty).size = 16) (hr : rowSt h (tabTo h rows j).1 (rows.getD j ByteArray.empty) 8 = some a) : tabTo h rows (j + 1) = (a, 0) := by
  show (if (tabTo h rows j).2 = 0 then _ else _) = _
  rw [if_pos e, if_pos hs, hr]

theorem tabTo_nonneg (h : HV) (rows : List ByteArray) (j : Nat) : 0 ≤ (tabTo h rows j).2 := by
  induction j with
  | zero => exact Int.le_refl 0
  | succ j ih =>
    by_cases e : (tabTo h rows j).2 = 0
    · by_cases hs : (rows.getD j ByteArray.empty).size = 16
      · cases hr : rowSt h (tabTo h rows j).1 (rows.getD j ByteArray.empty) 8 with
        | none => rw [tabTo_bad e hs hr]; decide
        | some a => rw [tabTo_good e hs hr]; exact Int.le_refl 0
      · rw [tabTo_short e hs]; decide
    · have : tabTo h rows (j + 1) = ([], (tabTo h rows j).2) := by
        show (if (tabTo h rows j).2 = 0 then _ else _) = _
        rw [if_neg e]
      rw [this]; exact ih

theorem tableF_nonneg (h : HV) (rows : List ByteArray) : 0 ≤ tableF h rows := by
  unfold tableF
  split
  · exact tabTo_nonneg h rows _
  · omega

/- The places that are taken. -/
def tkOf (acc : List (Int × Int)) : List Bool := (List.range 40).map fun q : Nat => decide (((2 : Int), (q : Int)) ∈ acc)

theorem tkOf_len (acc : List (Int × Int)) : (tkOf acc).length = 40 := by simp [tkOf]

theorem tkOf_at (acc : List (Int × Int)) (q : Nat) (hq : q < 40) : (tkOf acc).getD q false = decide (((2 : Int), (q : Int)) ∈ acc) := by
  simp [tkOf, List.getD, hq]

theorem tkOf_nil : tkOf [] = List.replicate 40 false := by
  simp [tkOf, List.map_const']

theorem tkOf_other (acc : List (Int × Int)) (k p : Int) (hk : k ≠ 2) : tkOf (acc ++ [(k, p)]) = tkOf acc := by
  unfold tkOf
  apply List.map_congr_left
  intro q _
  have : ((2 : Int), (q : Int)) ≠ (k, p) := fun e => hk (congrArg Prod.fst e).symm
  simp [this]

theorem tkOf_data (acc : List (Int × Int)) (q : Nat) (hq : q < 40) : tkOf (acc ++ [(2, (q : Int))]) = (tkOf acc).set q true := by
  apply List.ext_getElem?
  intro i
  rw [List.getElem?_set]
  by_cases e : q = i
  · subst e
    rw [if_pos rfl, if_pos (by rw [tkOf_len]; exact hq)]
    simp [tkOf, hq]
  · rw [if_neg e]
    by_cases hi : i < 40
    · simp [tkOf, hi]
      intro e2
      omega
    · rw [List.getElem?_eq_none (by rw [tkOf_len]; omega), List.getElem?_eq_none (by rw [tkOf_len]; omega)]

def tabV (h : HV) (v : Value) (tk : List Bool) : List Value := [.int .i64 h.c, .int .i64 h.p, .int .i64 h.b, v] ++ tk.map .bool

structure IsTab (B : Nat) (w : World) (N : Nat) (h : HV) (v : Value) (acc : List (Int × Int)) (tk : List Bool) : Prop where
  blk : w.heap[N]? = some (.cells (tabV h v tk).toArray 136 (0, 0))
  own : w.ownsRow B 78 2 v acc.length (entV acc)
  pB : B ≤ N
  tk40 : tk.length = 40

theorem IsTab.below {B N : Nat} {w w' : World} {h : HV} {v : Value} {acc : List (Int × Int)} {tk : List Bool} (ht : IsTab B w N h v acc tk) (hb : Below w.heap.size w w') : IsTab B w' N h v acc tk :=
  ⟨by rw [hb.block N (lt_some ht.blk)]; exact ht.blk, ownsRow_stay ht.own (fun q e => hb.block q (ht.own.lt q e).2), ht.pB, ht.tk40⟩

theorem IsTab.cells {B N : Nat} {w : World} {h : HV} {v : Value} {acc : List (Int × Int)} {tk : List Bool} (ht : IsTab B w N h v acc tk) :
    w.cell? ⟨N, 0, none⟩ = some (.int .i64 h.c) ∧ w.cell? ⟨N, 1, none⟩ = some (.int .i64 h.p) ∧ w.cell? ⟨N, 3, none⟩ = some v ∧ w.frozen? ⟨N, 3, none⟩ = false := by
  refine ⟨?_, ?_, ?_, frozen_of_row _ _ _ _ _ ht.blk⟩ <;> (rw [cell_of_row _ _ _ _ _ _ ht.blk]; rfl)

theorem IsTab.bit {B N : Nat} {w : World} {h : HV} {v : Value} {acc : List (Int × Int)} {tk : List Bool} (ht : IsTab B w N h v acc tk) (q : Nat) (hq : q < 40) :
    w.cell? ⟨N, 4 + q, none⟩ = some (.bool (tk.getD q false)) ∧ w.frozen? ⟨N, 4 + q, none⟩ = false := by
  refine ⟨?_, frozen_of_row _ _ _ _ _ ht.blk⟩
  have hq' : q < tk.length := by rw [ht.tk40]; exact hq
  rw [cell_of_row _ _ _ _ _ _ ht.blk, List.getElem?_toArray, tabV, List.getElem?_append_right (by simp)]
  simp [List.getElem?_eq_getElem hq', List.getD]

theorem IsTab.form {B N : Nat} {w : World} {h : HV} {v : Value} {acc : List (Int × Int)} {tk : List Bool} (ht : IsTab B w N h v acc tk) : ∃ a cap, v = .slice a acc.length cap := by
  rcases ht.own.2 with ⟨h0, hn⟩ | ⟨g, cap, cur, hv, _⟩
  · exact ⟨none, 0, by rw [h0, hn]⟩
  · exact ⟨_, cap, hv⟩

theorem IsTab.apart {B N : Nat} {w : World} {h : HV} {v : Value} {acc : List (Int × Int)} {tk : List Bool} (ht : IsTab B w N h v acc tk) : v.ownBlock ≠ some N := fun e => by
  rcases ht.own.2 with ⟨h0, _⟩ | ⟨g, cap, cur, hv, _, hh, _⟩
  · rw [h0] at e; cases e
  · rw [hv] at e
    have : g = N := by simpa [Value.ownBlock] using e
    rw [this, ht.blk] at hh
    cases hh

theorem IsTab.setBit {B N : Nat} {w : World} {h : HV} {v : Value} {acc : List (Int × Int)} {tk : List Bool} (ht : IsTab B w N h v acc tk) (q : Nat) (hq : q < 40) :
    IsTab B (w.setCell ⟨N, 4 + q, none⟩ (.bool true)) N h v acc (tk.set q true) := by
  refine ⟨?_, ownsRow_stay ht.own (fun r e => heap_setCell_other _ _ _ _ (fun e2 => ht.apart (e.trans (congrArg some e2)))), ht.pB, by rw [List.length_set]; exact ht.tk40⟩
  rw [heap_setCell_same w N (4 + q) _ _ _ ht.blk]
  congr 2
  have : q < tk.length := by rw [ht.tk40]; exact hq
  simp only [tabV, List.setIfInBounds_toArray]
  rw [List.set_append_right _ _ (by simp)]
  simp [List.map_set]

theorem IsTab.push {B N : Nat} {w w2 : World} {h : HV} {v : Value} {acc : List (Int × Int)} {tk : List Bool} (ht : IsTab B w N h v acc tk) (k p : Int) (g cap : Nat) (C : Obj)
    (hown : w2.ownsRow B 78 2 (.slice (some ⟨g, 0, none⟩) (acc.length + 1) cap) (acc.length + 1) (entV acc ++ [.int .i64 k, .int .i64 p])) (hg : (w.alloc C).grownBy w2 v.ownBlock) :
    IsTab B (w2.setCell ⟨N, 3, none⟩ (.slice (some ⟨g, 0, none⟩) (acc.length + 1) cap)) N h (.slice (some ⟨g, 0, none⟩) (acc.length + 1) cap) (acc ++ [(k, p)]) tk ∧ w2.cell? ⟨N, 3, none⟩ = some v ∧ w2.frozen? ⟨N, 3, none⟩ = false := by
  have hNl := lt_some ht.blk
  have hN2 : w2.heap[N]? = some (.cells (tabV h v tk).toArray 136 (0, 0)) := by
    rw [hg.block N (by simp; omega) (Ne.symm ht.apart), Below.heap_alloc _ _ _ hNl]; exact ht.blk
  have hgN : g ≠ N := fun e => by
    rcases hown.2 with ⟨_, h0⟩ | ⟨g', cap', cur, hv, _, hh, _⟩
    · omega
    · have : g = g' := by simpa [Value.ownBlock] using congrArg Value.ownBlock hv
      rw [← this, e, hN2] at hh; cases hh
  refine ⟨⟨?_, ?_, ht.pB, ht.tk40⟩, by rw [cell_of_row _ _ _ _ _ _ hN2]; rfl, frozen_of_row _ _ _ _ _ hN2⟩
  · rw [heap_setCell_same w2 N 3 _ _ _ hN2]
    simp [tabV]
  · have e1 : entV (acc ++ [(k, p)]) = entV acc ++ [.int .i64 k, .int .i64 p] := by simp [entV]
    rw [e1, List.length_append]
    exact ownsRow_stay hown (fun r e => by
      have : g = r := by simpa [Value.ownBlock] using e
      subst this
      exact heap_setCell_other _ _ _ _ hgN)
end Go.Proofs.Ytncjnjlakhohgaa
