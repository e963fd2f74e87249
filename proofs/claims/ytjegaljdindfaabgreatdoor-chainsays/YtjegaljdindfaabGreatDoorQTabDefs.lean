/-
An error, told by its number; the cells of a table.
What readers and writers of heads and tables lean on: a head that is written and read; boxes; a copy of a table with one more entry behind it.
Tables that are read (C2): entry by entry, row by row; how a table that is being read lies in memory.
-/
import Derived.Test.YtjegaljdindfaabGreatDoorQShapeRow2
import Derived.Laws.AppendOwnNone
namespace Go.Proofs.YtjegaljdindfaabGreatDoor
open Go.RowKit
attribute [local go_sem ↓] Go.wp_at_zero Go.wp_at_succ

set_option maxRecDepth 100000 in
set_option maxHeartbeats 400000 in
theorem errSame_nil (f : Int) (w : World) : Calls Tryz.prog 11 #[.nilIface, .int .i64 f] w fun e w' => e = .returned (.bool (f == 0)) ∧ w' = w := by
  go_enter Tryz.func11, Tryz.ntmps11
  go_wp2
  go_ret
  exact ⟨rfl, rfl⟩

set_option maxRecDepth 100000 in
set_option maxHeartbeats 400000 in
theorem errSame_err (n : Int) (w : World) (h0 : 0 < n) : Calls Tryz.prog 11 #[.iface 87 (.int .i64 n), .int .i64 n] w fun e w' => e = .returned (.bool true) ∧ w' = w := by
  have hta : ∀ w : World, (Instr.typeAssert (.iface 87 (.int .i64 n)) 33 87 true).run Tryz.prog w = .ok (.tuple #[.int .i64 n, .bool true]) w := fun _ => by kernel_rfl
  go_enter Tryz.func11, Tryz.ntmps11
  go_wp2
  go_ret
  exact ⟨rfl, rfl⟩

theorem errSame (f : Int) (w : World) (h : 0 ≤ f) : Calls Tryz.prog 11 #[erV f, .int .i64 f] w fun e w' => e = .returned (.bool true) ∧ w' = w := by
  by_cases h0 : f = 0
  · subst h0
    rw [erV_0]
    exact errSame_nil 0 w
  · have e : erV f = .iface 87 (.int .i64 f) := by unfold erV; rw [if_neg h0]
    rw [e]
    exact errSame_err f w (by omega)

def entV (ts : List (Int × Int)) : List Value := ts.flatMap fun e => [.int .i64 e.1, .int .i64 e.2]

theorem entV_len (ts : List (Int × Int)) : (entV ts).length = ts.length * 2 := by
  induction ts with
  | nil => rfl
  | cons e ts ih => simp only [entV, List.flatMap_cons, List.length_append, List.length_cons, List.length_nil] at ih ⊢; omega

theorem entV_one (ts : List (Int × Int)) : ∀ u ∈ entV ts, u.oneCell' = true := by
  intro u hu
  obtain ⟨e, _, h⟩ := List.mem_flatMap.1 hu
  simp at h
  rcases h with rfl | rfl <;> rfl

theorem entV_at (ts : List (Int × Int)) (k : Nat) (hk : k < ts.length) : (entV ts)[k * 2]? = some (.int .i64 (ts.getD k (0, 0)).1) ∧ (entV ts)[k * 2 + 1]? = some (.int .i64 (ts.getD k (0, 0)).2) := by
  induction ts generalizing k with
  | nil => simp at hk
  | cons e ts ih =>
    cases k with
    | zero => exact ⟨rfl, rfl⟩
    | succ k =>
      have h := ih k (by simpa using hk)
      have e1 : entV (e :: ts) = [.int .i64 e.1, .int .i64 e.2] ++ entV ts := rfl
      rw [e1, show (k + 1) * 2 = 2 + k * 2 by omega, show 2 + k * 2 + 1 = 2 + (k * 2 + 1) by omega, List.getElem?_append_right (by simp), List.getElem?_append_right (by simp)]
      simpa [show 2 + k * 2 - 2 = k * 2 by omega, show 2 + (k * 2 + 1) - 2 = k * 2 + 1 by omega] using h

theorem info_ent : (Tryz.prog.info? 142).map (fun i => (i.zero, i.size, i.bytes)) = some (some (.agg #[.int .i64 0, .int .i64 0]), 2, 16) := by kernel_rfl

/- The cells of a table that lies somewhere, as one list. -/
theorem Ents.src {w : World} {b off len : Nat} {ts : List (Int × Int)} (h : Ents w (some ⟨b, off, none⟩) len ts) : ∀ j u, (entV ts)[j]? = some u → w.cell? ((⟨b, off, none⟩ : Addr).add j) = some u := by
  intro j u hj
  have hjl : j < ts.length * 2 := by
    rcases Nat.lt_or_ge j (ts.length * 2) with h1 | h1
    · exact h1
    · rw [List.getElem?_eq_none (by rw [entV_len]; exact h1)] at hj; cases hj
  obtain ⟨b', off', e, h1, h2⟩ := h.2 (j / 2) (by rw [← h.1]; omega)
  cases e
  have ha := entV_at ts (j / 2) (by omega)
  rw [Go.WideShapes.add_plain]
  by_cases e2 : j % 2 = 0
  · have ej : j = j / 2 * 2 := by omega
    rw [ej] at hj ⊢
    rw [ha.1] at hj
    rw [h1]; exact hj
  · have ej : j = j / 2 * 2 + 1 := by omega
    rw [ej] at hj ⊢
    rw [ha.2] at hj
    rw [← Nat.add_assoc, h2]; exact hj

/- A row of entries that the call owns, read as a table. -/
theorem ents_of_owns {w : World} {B g n cap : Nat} {ts : List (Int × Int)} {xs : List Value} (ho : w.ownsRow B 142 2 (.slice (some ⟨g, 0, none⟩) n cap) n xs) (k : Nat) (hx : xs.take (k * 2) = entV ts) (hk : k ≤ n) (hl : ts.length = k) : Ents w (some ⟨g, 0, none⟩) k ts := by
  refine ⟨hl, fun i hi => ⟨g, 0, rfl, ?_, ?_⟩⟩
  · have ha := (entV_at ts i (by omega)).1
    rw [← hx, List.getElem?_take_of_lt (by omega)] at ha
    rw [Nat.zero_add, ho.cellAt (i * 2) (by omega)]; exact ha
  · have ha := (entV_at ts i (by omega)).2
    rw [← hx, List.getElem?_take_of_lt (by omega)] at ha
    rw [Nat.zero_add, ho.cellAt (i * 2 + 1) (by omega)]; exact ha
end Go.Proofs.YtjegaljdindfaabGreatDoor

namespace Go.Proofs.YtjegaljdindfaabGreatDoor
open Go.RowKit
attribute [local go_sem ↓] Go.wp_at_zero Go.wp_at_succ

theorem rowF_nonneg (ts : List (Int × Int)) (row : Int) : 0 ≤ rowF ts row := by
  unfold rowF
  split
  · split <;> omega
  · omega

theorem headF_nonneg (s : ByteArray) : 0 ≤ headF s := by
  unfold headF
  split
  · split <;> omega
  · next h => have := sealF_pos h; omega

/- A box that was just made, behind calls that turn nothing old. -/
theorem new_cell {w w2 : World} {C : Array Value} {t : TypeId} (hb : Below (w.alloc (.cells C t)).heap.size (w.alloc (.cells C t)) w2) (i : Nat) (v : Value) (hv : C[i]? = some v) : w2.cell? ⟨w.heap.size, i, none⟩ = some v := by
  rw [hb.cell (by simp), cell_of_row _ _ _ _ _ _ (heap_alloc_new w _)]; exact hv

theorem step_append {P : Program} {w w' : World} {ops : Array Oper} {rest : List Oper} {o : Oper} {a : Act} {Q : Exit → Act → World → Prop} (hgd : o.guard = none) (s x : Operand) (t ty : TypeId)
    (ho : o.op = .call { callee := .builtin .append, args := #[s, x], argTypes := #[t, t] }) (hty : o.type = ty) {v xv v' : Value} (hs : a.eval s = v) (hx : a.eval x = xv)
    (hr : (Builtin.append_ #[t, t] ty #[v, xv]).run P w = .ok v' w') (h : wpList P ops Q rest (a.put o.dst v') w') : wpList P ops Q (o :: rest) a w := by
  refine wpList_plain hgd fun K hK => ?_
  unfold Oper.wp execOp
  simp only [ho, resolve, invoke, builtin, Sem.run_bind, Sem.run_pure, Result.andThen_ok, List.map_toArray, List.map_cons, List.map_nil, hs, hx, hty, hr]
  exact hK _ _ h

theorem own_ents (ws : World) (la : Option Addr) (len cap : Nat) (ts : List (Int × Int)) (hT : Ents ws la len ts) (hnil : la = none → cap = 0) (h50 : len ≤ 50) :
    ∃ v1 w1 g cap2 w2, (Builtin.append_ #[88, 88] 88 #[.slice none 0 0, .slice la len cap]).run Tryz.prog ws = .ok v1 w1 ∧
      (Builtin.append_ #[88, 88] 88 #[v1, .slice (some ⟨w1.heap.size, 0, none⟩) 1 1]).run Tryz.prog (w1.alloc (.cells #[.int .i64 77, .int .i64 0] 142)) = .ok (.slice (some ⟨g, 0, none⟩) (len + 1) cap2) w2 ∧
      Below ws.heap.size ws w2 ∧ len + 1 ≤ cap2 ∧ cap2 ≤ maxLen ∧ Ents w2 (some ⟨g, 0, none⟩) len ts := by
  obtain ⟨i0, hi, hz0, hz1, hz2⟩ := info_parts info_ent
  have hlen := hT.1
  have h1 : ∃ v1 w1, (Builtin.append_ #[88, 88] 88 #[.slice none 0 0, .slice la len cap]).run Tryz.prog ws = .ok v1 w1 ∧ w1.ownsRow ws.heap.size 142 2 v1 len (entV ts) ∧ ws.grownBy w1 none := by
    cases la with
    | none =>
      have hl0 : len = 0 := by
        by_cases h : 0 < len
        · obtain ⟨b, off, e, _⟩ := hT.2 0 h
          cases e
        · omega
      subst hl0
      have : ts = [] := List.length_eq_zero_iff.1 hlen
      subst this
      rw [hnil rfl]
      exact ⟨_, _, run_append_owned_none (P := Tryz.prog) ws ws.heap.size 88 88 142 i0 2 Tryz.underlying88 hi _ 0 [] (World.ownsRow_nil _ _ _ _), World.ownsRow_nil _ _ _ _, ⟨rfl, rfl, rfl, Nat.le_refl _, fun _ _ _ => rfl⟩⟩
    | some a =>
      by_cases hp : 0 < len
      · obtain ⟨b, off, e, _⟩ := hT.2 0 hp
        cases e
        obtain ⟨v1, w1, hr, ho, hg, _⟩ := run_append_own (P := Tryz.prog) ws ws.heap.size 88 88 142 i0 (.agg #[.int .i64 0, .int .i64 0]) 2 16 Tryz.underlying88 hi hz0 hz1 hz2 rfl (by decide) (.slice none 0 0) 0 [] (World.ownsRow_nil _ _ _ _) ⟨b, off, none⟩ len cap (entV ts) (by rw [entV_len, hlen]) hT.src (entV_one ts) (by unfold maxLen; omega) (by omega) (Nat.le_refl _)
        exact ⟨v1, w1, hr, by simpa using ho, hg⟩
      · have hl0 : len = 0 := by omega
        subst hl0
        have : ts = [] := List.length_eq_zero_iff.1 hlen
        subst this
        obtain ⟨v1, w1, hr, ho, hg, _⟩ := run_append_own (P := Tryz.prog) ws ws.heap.size 88 88 142 i0 (.agg #[.int .i64 0, .int .i64 0]) 2 16 Tryz.underlying88 hi hz0 hz1 hz2 rfl (by decide) (.slice none 0 0) 0 [] (World.ownsRow_nil _ _ _ _) a 0 cap [] rfl (fun j u hj => by simp at hj) (fun u hu => by simp at hu) (by unfold maxLen; omega) (by omega) (Nat.le_refl _)
        exact ⟨v1, w1, hr, by simpa [entV] using ho, hg⟩
  obtain ⟨v1, w1, hr1, ho1, hg1⟩ := h1
  obtain ⟨v2, w2, hr2, ho2, hg2, hn2⟩ := run_append_own (P := Tryz.prog) (w1.alloc (.cells #[.int .i64 77, .int .i64 0] 142)) ws.heap.size 88 88 142 i0 (.agg #[.int .i64 0, .int .i64 0]) 2 16 Tryz.underlying88 hi hz0 hz1 hz2 rfl (by decide) v1 len (entV ts) (ho1.alloc _) ⟨w1.heap.size, 0, none⟩ 1 1 [.int .i64 77, .int .i64 0] rfl (two_news _ _ _ _) (fun u hu => by simp at hu; rcases hu with rfl | rfl <;> rfl) (by unfold maxLen; omega) (by omega) (by have := hg1.size; simp; omega)
  have hb1 : Below ws.heap.size ws w1 := (Below.refl _ _).grown hg1 (Nat.le_refl _) (fun k e => by cases e)
  have hb2 : Below ws.heap.size ws w2 := (hb1.alloc hg1.size _).grown hg2 (by have := hg1.size; simp; omega) (fun k e => (ho1.lt k e).1)
  rcases ho2.2 with ⟨_, h0⟩ | ⟨g, cap2, cur, hv, hbg, hh, hnc, hcm, hcs, htk⟩
  · omega
  · subst hv
    refine ⟨v1, w1, g, cap2, w2, hr1, hr2, hb2, hnc, hcm, ents_of_owns ho2 len ?_ (by omega) hlen⟩
    rw [List.take_append_of_le_length (by rw [entV_len]; omega), List.take_of_length_le (by rw [entV_len]; omega)]
end Go.Proofs.YtjegaljdindfaabGreatDoor

namespace Go.Proofs.YtjegaljdindfaabGreatDoor
open Go.RowKit

/- One entry more: none, if it may not stand there. -/
def stepT (h : HV) (acc : List (Int × Int)) (e : Int × Int) : Option (List (Int × Int)) :=
  if (acc.length : Int) = h.c then (if e = (0, 0) then some acc else none)
  else if entB e.1 e.2 h.p = true ∧ ¬ (e.1 = 2 ∧ e ∈ acc) then some (acc ++ [e]) else none

def entAt (s : ByteArray) (i : Nat) : Int × Int := (bAt s (i * 2), bAt s (i * 2 + 1))

def rowSt (h : HV) (acc : List (Int × Int)) (s : ByteArray) : Nat → Option (List (Int × Int))
  | 0 => some acc
  | i + 1 => match rowSt h acc s i with
    | none => none
    | some a => stepT h a (entAt s i)

theorem rowSt_none {h : HV} {acc : List (Int × Int)} {s : ByteArray} {i : Nat} (e : rowSt h acc s i = none) : ∀ j, i ≤ j → rowSt h acc s j = none := by
  intro j hj
  induction j with
  | zero => rw [show (0 : Nat) = i by omega]; exact e
  | succ j ih =>
    by_cases e2 : i = j + 1
    · rw [← e2]; exact e
    · have h1 := ih (by omega)
      show (match rowSt h acc s j with | none => none | some a => stepT h a (entAt s j)) = none
      rw [h1]

theorem rowSt_some {h : HV} {acc a : List (Int × Int)} {s : ByteArray} {i : Nat} (e : rowSt h acc s i = some a) : rowSt h acc s (i + 1) = stepT h a (entAt s i) := by
  show (match rowSt h acc s i with | none => none | some a => stepT h a (entAt s i)) = _
  rw [e]

theorem stepT_len {h : HV} {acc a : List (Int × Int)} {e : Int × Int} (hs : stepT h acc e = some a) (hl : (acc.length : Int) ≤ h.c) : (a.length : Int) ≤ h.c := by
  unfold stepT at hs
  split at hs
  · split at hs
    · cases hs; exact hl
    · cases hs
  · split at hs
    · cases hs; rw [List.length_append]; simp; omega
    · cases hs

theorem rowSt_len {h : HV} {acc : List (Int × Int)} {s : ByteArray} (hl : (acc.length : Int) ≤ h.c) : ∀ (i : Nat) (a : List (Int × Int)), rowSt h acc s i = some a → (a.length : Int) ≤ h.c := by
  intro i
  induction i with
  | zero => intro a e; cases e; exact hl
  | succ i ih =>
    intro a e
    cases e2 : rowSt h acc s i with
    | none => rw [rowSt_none e2 (i + 1) (by omega)] at e; cases e
    | some x => rw [rowSt_some e2] at e; exact stepT_len e (ih x e2)

/- Row by row: the entries so far, and what is wrong (0: nothing). -/
def tabTo (h : HV) (rows : List ByteArray) : Nat → List (Int × Int) × Int
  | 0 => ([], 0)
  | j + 1 => if (tabTo h rows j).2 = 0 then (if (rows.getD j ByteArray.empty).size = 16 then (match rowSt h (tabTo h rows j).1 (rows.getD j ByteArray.empty) 8 with | some a => (a, 0) | none => ([], 2)) else ([], 1)) else ([], (tabTo h rows j).2)

def tableIn (h : HV) (rows : List ByteArray) : Bool := h.ok && decide (rows.length = rowsN h.c.toNat)
def tableT (h : HV) (rows : List ByteArray) : List (Int × Int) := if tableIn h rows = true then (tabTo h rows rows.length).1 else []
def tableF (h : HV) (rows : List ByteArray) : Int := if tableIn h rows = true then (tabTo h rows rows.length).2 else 1

theorem tabTo_fault {h : HV} {rows : List ByteArray} {j : Nat} {f : Int} (hf : f ≠ 0) (e : tabTo h rows j = ([], f)) : ∀ i, j ≤ i → tabTo h rows i = ([], f) := by
  intro i hi
  induction i with
  | zero => rw [show (0 : Nat) = j by omega]; exact e
  | succ i ih =>
    by_cases e2 : j = i + 1
    · rw [← e2]; exact e
    · have h1 := ih (by omega)
      unfold tabTo
      rw [h1, if_neg hf]

theorem tabTo_short {h : HV} {rows : List ByteArray} {j : Nat} (e : (tabTo h rows j).2 = 0) (hs : (rows.getD j ByteArray.empty).size ≠ 16) : tabTo h rows (j + 1) = ([], 1) := by
  show (if (tabTo h rows j).2 = 0 then _ else _) = _
  rw [if_pos e, if_neg hs]

theorem tabTo_bad {h : HV} {rows : List ByteArray} {j : Nat} (e : (tabTo h rows j).2 = 0) (hs : (rows.getD j ByteArray.empty).size = 16) (hr : rowSt h (tabTo h rows j).1 (rows.getD j ByteArray.empty) 8 = none) : tabTo h rows (j + 1) = ([], 2) := by
  show (if (tabTo h rows j).2 = 0 then _ else _) = _
  rw [if_pos e, if_pos hs, hr]

theorem tabTo_good {h : HV} {rows : List ByteArray} {j : Nat} {a : List (Int × Int)} (e : (tabTo h rows j).2 = 0) (hs : (rows.getD j ByteArray.empty).size = 16) (hr : rowSt h (tabTo h rows j).1 (rows.getD j ByteArray.empty) 8 = some a) : tabTo h rows (j + 1) = (a, 0) := by
  show (if (tabTo h rows j).2 = 0 then _ else _) = _
  rw [if_pos e, if_pos hs, hr]

theorem tabTo_nonneg (h : HV) (rows : List ByteArray) (j : Nat) : 0 ≤ (tabTo h rows j).2 := by
  induction j with
  | zero => exact Int.le_refl 0
  | succ j ih =>
    by_cases e : (tabTo h rows j).2 = 0
    · by_cases hs : (rows.getD j ByteArray.empty).size = 16
      · cases hr : rowSt h (tabTo h rows j).1 (rows.getD j ByteArray.empty) 8 with
        | none => rw [tabTo_bad e hs hr]; decide
        | some a => rw [tabTo_good e hs hr]; exact Int.le_refl 0
      · rw [tabTo_short e hs]; decide
    · have : tabTo h rows (j + 1) = ([], (tabTo h rows j).2) := by
        show (if (tabTo h rows j).2 = 0 then _ else _) = _
        rw [if_neg e]
      rw [this]; exact ih

theorem tableF_nonneg (h : HV) (rows : List ByteArray) : 0 ≤ tableF h rows := by
  unfold tableF
  split
  · exact tabTo_nonneg h rows _
  · omega

/- The places that are taken. -/
def tkOf (acc : List (Int × Int)) : List Bool := (List.range 40).map fun q : Nat => decide (((2 : Int), (q : Int)) ∈ acc)

theorem tkOf_len (acc : List (Int × Int)) : (tkOf acc).length = 40 := by simp [tkOf]

theorem tkOf_at (acc : List (Int × Int)) (q : Nat) (hq : q < 40) : (tkOf acc).getD q false = decide (((2 : Int), (q : Int)) ∈ acc) := by
  simp [tkOf, List.getD, hq]

theorem tkOf_nil : tkOf [] = List.replicate 40 false := by
  simp [tkOf, List.map_const']

theorem tkOf_other (acc : List (Int × Int)) (k p : Int) (hk : k ≠ 2) : tkOf (acc ++ [(k, p)]) = tkOf acc := by
  unfold tkOf
  apply List.map_congr_left
  intro q _
  have : ((2 : Int), (q : Int)) ≠ (k, p) := fun e => hk (congrArg Prod.fst e).symm
  simp [this]

theorem tkOf_data (acc : List (Int × Int)) (q : Nat) (hq : q < 40) : tkOf (acc ++ [(2, (q : Int))]) = (tkOf acc).set q true := by
  apply List.ext_getElem?
  intro i
  rw [List.getElem?_set]
  by_cases e : q = i
  · subst e
    rw [if_pos rfl, if_pos (by rw [tkOf_len]; exact hq)]
    simp [tkOf, hq]
  · rw [if_neg e]
    by_cases hi : i < 40
    · simp [tkOf, hi]
      intro e2
      omega
    · rw [List.getElem?_eq_none (by rw [tkOf_len]; omega), List.getElem?_eq_none (by rw [tkOf_len]; omega)]

def tabV (h : HV) (v : Value) (tk : List Bool) : List Value := [.int .i64 h.c, .int .i64 h.p, .int .i64 h.b, v] ++ tk.map .bool

end Go.Proofs.YtjegaljdindfaabGreatDoor
