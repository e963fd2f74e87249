/-
The number of a fault is not below nought.
A table that was read whole: as many entries as clusters, each of which may be, no place twice; what image stands on a device (D1).
An image that is made of a table, and one that is opened.
A table of rows (C2), in the document's answer: what TableOf gives.
A table of rows (C2), in the document's answer: TableOf, where the head and the number of rows are as they should be.
-/
import Derived.Test.YtjegaljdindfaabGreatDoorQTabRead2
import Derived.Test.YtjegaljdindfaabGreatDoorQImgWrite
import Derived.Deep.RegionHeld3
namespace Go.Proofs.YtjegaljdindfaabGreatDoor
open Go.RowKit

theorem writeF_pos (v : IV) (c fr : Int) (s : ByteArray) : 0 ≤ v.writeF c fr s := by
  unfold IV.writeF IV.writeD
  split
  · split
    · rcases DV.puts_F v.d (beginN v.h (v.ent c).2.toNat + fr.toNat) s (s.size / 16) with h | h <;> rw [h] <;> decide
    · decide
  · decide
theorem putF_pos (d : DV) : 0 ≤ d.putF := by
  rcases d.putF_cases with ⟨h, _⟩ | ⟨h, _⟩ <;> rw [h] <;> decide
theorem clearF_pos (v : IV) (c : Int) : 0 ≤ v.clearF c := by
  unfold IV.clearF
  split
  · split
    · decide
    · exact putF_pos _
  · decide
theorem linkF_pos (v : IV) (b : Int) : 0 ≤ v.linkF b := by
  unfold IV.linkF
  split
  · exact putF_pos _
  · decide
theorem fillF_pos (v : IV) (c : Int) (s : ByteArray) : 0 ≤ v.fillF c s := by
  unfold IV.fillF
  repeat' split
  all_goals first
    | decide
    | exact putF_pos _
    | (rename_i h; simp only [ne_eq] at h; rcases DV.puts_F v.d _ s 4 with g | g <;> simp only [IV.fillD, g] <;> decide)
    | (unfold IV.fillD; rcases DV.puts_F v.d _ s 4 with g | g <;> rw [g] <;> decide)
end Go.Proofs.YtjegaljdindfaabGreatDoor

namespace Go.Proofs.YtjegaljdindfaabGreatDoor
open Go.RowKit

structure GoodT (h : HV) (a : List (Int × Int)) : Prop where
  ents : ∀ e ∈ a, entB e.1 e.2 h.p = true
  once : ∀ i j, i < j → j < a.length → (a.getD j (0, 0)).1 = 2 → a.getD i (0, 0) ≠ a.getD j (0, 0)

theorem GoodT.nil (h : HV) : GoodT h [] := ⟨fun e he => (by cases he), fun i j _ hj => (by cases hj)⟩

theorem getD_left {l r : List (Int × Int)} {i : Nat} (h : i < l.length) : (l ++ r).getD i (0, 0) = l.getD i (0, 0) := by
  rw [List.getD_eq_getElem?_getD, List.getD_eq_getElem?_getD, List.getElem?_append_left h]

theorem getD_last (l : List (Int × Int)) (e : Int × Int) : (l ++ [e]).getD l.length (0, 0) = e := by
  rw [List.getD_eq_getElem?_getD, List.getElem?_append_right (Nat.le_refl _)]; simp

theorem getD_mem {l : List (Int × Int)} {i : Nat} (h : i < l.length) : l.getD i (0, 0) ∈ l := by
  rw [List.getD_eq_getElem?_getD, List.getElem?_eq_getElem h]; exact List.getElem_mem _

theorem stepT_good {h : HV} {acc a : List (Int × Int)} {e : Int × Int} (hs : stepT h acc e = some a) (hg : GoodT h acc) (hl : (acc.length : Int) ≤ h.c) : GoodT h a ∧ (a.length : Int) = min h.c (acc.length + 1) := by
  unfold stepT at hs
  split at hs
  · next hc =>
    split at hs
    · cases hs; exact ⟨hg, by omega⟩
    · cases hs
  · next hc =>
    split at hs
    · next he =>
      cases hs
      refine ⟨⟨fun x hx => ?_, fun i j hij hj h2 => ?_⟩, by rw [List.length_append]; simp; omega⟩
      · rcases List.mem_append.1 hx with h1 | h1
        · exact hg.ents x h1
        · simp only [List.mem_singleton] at h1; rw [h1]; exact he.1
      · rw [List.length_append] at hj
        simp only [List.length_cons, List.length_nil] at hj
        by_cases hjl : j < acc.length
        · rw [getD_left hjl] at h2 ⊢
          rw [getD_left (by omega)]
          exact hg.once i j hij hjl h2
        · have : j = acc.length := by omega
          subst this
          rw [getD_last] at h2 ⊢
          rw [getD_left hij]
          intro heq
          exact he.2 ⟨h2, heq ▸ getD_mem hij⟩
    · cases hs

theorem rowSt_good {h : HV} {acc : List (Int × Int)} {s : ByteArray} (hg : GoodT h acc) (hl : (acc.length : Int) ≤ h.c) : ∀ (i : Nat) (a : List (Int × Int)), rowSt h acc s i = some a → GoodT h a ∧ (a.length : Int) = min h.c (acc.length + i) := by
  intro i
  induction i with
  | zero => intro a e; cases e; exact ⟨hg, by omega⟩
  | succ i ih =>
    intro a e
    cases e2 : rowSt h acc s i with
    | none => rw [rowSt_none e2 (i + 1) (by omega)] at e; cases e
    | some x =>
      rw [rowSt_some e2] at e
      obtain ⟨h1, h2⟩ := ih x e2
      obtain ⟨h3, h4⟩ := stepT_good e h1 (by omega)
      exact ⟨h3, by omega⟩

theorem tabTo_ok {h : HV} {rows : List ByteArray} (h0 : 0 ≤ h.c) : ∀ j, (tabTo h rows j).2 = 0 → GoodT h (tabTo h rows j).1 ∧ ((tabTo h rows j).1.length : Int) = min h.c (8 * j) := by
  intro j
  induction j with
  | zero => intro _; exact ⟨GoodT.nil h, by show ((0 : Nat) : Int) = _; omega⟩
  | succ j ih =>
    intro e
    by_cases e0 : (tabTo h rows j).2 = 0
    · obtain ⟨h1, h2⟩ := ih e0
      by_cases hs : (rows.getD j ByteArray.empty).size = 16
      · cases hr : rowSt h (tabTo h rows j).1 (rows.getD j ByteArray.empty) 8 with
        | none => rw [tabTo_bad e0 hs hr] at e; cases e
        | some a =>
          rw [tabTo_good e0 hs hr]
          obtain ⟨h3, h4⟩ := rowSt_good h1 (by omega) 8 a hr
          refine ⟨h3, ?_⟩
          show (a.length : Int) = _
          omega
      · rw [tabTo_short e0 hs] at e; cases e
    · have : tabTo h rows (j + 1) = ([], (tabTo h rows j).2) := by
        show (if (tabTo h rows j).2 = 0 then _ else _) = _
        rw [if_neg e0]
      rw [this] at e
      exact absurd e e0

theorem tableT_good {h : HV} {rows : List ByteArray} (hf : tableF h rows = 0) : h.ok = true ∧ rows.length = rowsN h.c.toNat ∧ GoodT h (tableT h rows) ∧ ((tableT h rows).length : Int) = h.c := by
  unfold tableF at hf
  split at hf
  · next hi =>
    unfold tableT
    rw [if_pos hi]
    have hi2 := hi
    unfold tableIn at hi2
    rw [Bool.and_eq_true] at hi2
    have hl : rows.length = rowsN h.c.toNat := of_decide_eq_true hi2.2
    have hb := HV.of_ok hi2.1
    obtain ⟨h1, h2⟩ := tabTo_ok (by omega) _ hf
    refine ⟨hi2.1, hl, h1, ?_⟩
    rw [h2, hl]
    unfold rowsN
    omega
  · cases hf

/- What image stands on a device. -/
def openH (d : DV) : HV := headOf (bytesOf (d.seen.getD 0 []))
def openR (d : DV) (k : Nat) : ByteArray := bytesOf (d.seen.getD (1 + k) [])
def openRs (d : DV) : List ByteArray := (List.range (rowsN (openH d).c.toNat)).map (openR d)
def openF (d : DV) : Int :=
  if headF (bytesOf (d.seen.getD 0 [])) = 0 then (if d.fl.length < needN (openH d) then 1 else tableF (openH d) (openRs d)) else headF (bytesOf (d.seen.getD 0 []))
def openV (d : DV) : IV := ⟨d, openH d, tableT (openH d) (openRs d), []⟩

theorem headF_ok {s : ByteArray} (h : headF s = 0) : (headOf s).ok = true := by
  unfold headF at h
  split at h
  · next hs =>
    split at h
    · next hg =>
      unfold headOf
      rw [if_pos ⟨hs, hg⟩]
      unfold headGood at hg
      rw [Bool.and_eq_true] at hg
      exact hg.1
    · cases h
  · next hs => exact absurd h hs

theorem open_ok {d : DV} {m : Nat} (hd : d.fine d.fl.length m) (hf : openF d = 0) : (openV d).ok m ∧ GoodT (openH d) (openV d).t := by
  unfold openF at hf
  split at hf
  · next h1 =>
    split at hf
    · cases hf
    · next h2 =>
      obtain ⟨h3, h4, h5, h6⟩ := tableT_good hf
      exact ⟨⟨hd, h3, h6, h5.ents, by show needN (openH d) ≤ d.fl.length; omega, (fun q hq => by cases hq), Nat.zero_le _⟩, h5⟩
  · next h1 => exact absurd hf h1
end Go.Proofs.YtjegaljdindfaabGreatDoor

namespace Go.Proofs.YtjegaljdindfaabGreatDoor
open Go.RowKit Go.Maps
attribute [local go_sem ↓] Go.wp_at_zero Go.wp_at_succ

set_option maxRecDepth 100000 in
set_option maxHeartbeats 1000000 in
theorem made_img {B : Gd} {tb tc : Nat} {h : Hd} {d : DV} (c p b : Int) (ts : List (Int × Int)) (w : World) (hd : IsDevG B w h d) (hB : B.top ≤ w.heap.size) (ho : w.ownsRow 0 142 2 (.slice (some ⟨tb, 0, none⟩) ts.length tc) ts.length (entV ts)) (htb : ¬ B.g tb) :
    Calls Tryz.prog 72 #[.pointer (some ⟨h.p, 0, none⟩), .agg #[.int .i64 c, .int .i64 p, .int .i64 b], .slice (some ⟨tb, 0, none⟩) ts.length tc] w fun e w' =>
      ∃ x : Ih, x.h = h ∧ x.tb = tb ∧ x.tc = tc ∧ e = .returned (.pointer (some ⟨x.p, 0, none⟩)) ∧ IsImg B w' x ⟨d, ⟨c, p, b⟩, ts, []⟩ ∧ Below w.heap.size w w' := by
  have hmm := @run_makeMap Tryz.prog
  have HD := toHid hd
  have HO := toHid ho
  clear hd ho
  go_enter Tryz.func72, Tryz.ntmps72
  go_wp2
  go_ret
  have hb1 : Below w.heap.size w (w.alloc (.cells #[.int .i64 c, .int .i64 p, .int .i64 b] 60)) := (Below.refl _ _).alloc (Nat.le_refl _) _
  have hb2 := hb1.alloc hb1.size (.map #[] 0)
  have hb3 := hb2.alloc hb2.size (.cells #[.pointer (some ⟨h.p, 0, none⟩), .int .i64 c, .int .i64 p, .int .i64 b, .slice (some ⟨tb, 0, none⟩) ts.length tc, .map (some (w.heap.size + 1))] 152)
  refine ⟨⟨w.heap.size + 2, h, tb, tc, w.heap.size + 1⟩, rfl, rfl, rfl, by simp, ⟨?_, ⟨B.fresh hB (Nat.le_add_right _ 2), htb⟩, B.fresh hB (Nat.le_add_right _ 1), ?_, ?_, ?_⟩, hb3⟩
  · have e := heap_alloc_new ((w.alloc (.cells #[.int .i64 c, .int .i64 p, .int .i64 b] 60)).alloc (.map #[] 0)) (.cells #[.pointer (some ⟨h.p, 0, none⟩), .int .i64 c, .int .i64 p, .int .i64 b, .slice (some ⟨tb, 0, none⟩) ts.length tc, .map (some (w.heap.size + 1))] 152)
    rw [show ((w.alloc (.cells #[.int .i64 c, .int .i64 p, .int .i64 b] 60)).alloc (.map #[] 0)).heap.size = w.heap.size + 2 by simp] at e
    exact e
  · exact HD.out.keep fun k hk => hb3.block k (HD.out.lt k hk).2
  · exact ownsRow_keep HO.out fun k hk => hb3.block k (HO.out.lt k hk).2
  · have e := World.ownsMap_made (w.alloc (.cells #[.int .i64 c, .int .i64 p, .int .i64 b] 60)) Tryz.prog 3 (unitElem (H := Unit))
    rw [show (w.alloc (.cells #[.int .i64 c, .int .i64 p, .int .i64 b] 60)).heap.size = w.heap.size + 1 by simp] at e
    refine ownsMap_block e ?_
    exact Below.heap_alloc _ _ _ (by simp)

def rowsTo (d : DV) (k : Nat) : List ByteArray := (List.range k).map (openR d)
theorem rowsTo_len (d : DV) (k : Nat) : (rowsTo d k).length = k := by simp [rowsTo]
theorem rowsTo_succ (d : DV) (k : Nat) : rowsTo d (k + 1) = rowsTo d k ++ [openR d k] := by unfold rowsTo; rw [List.range_succ, List.map_append]; rfl
theorem rowsTo_at (d : DV) (n k : Nat) (h : k < n) : (rowsTo d n).getD k ByteArray.empty = openR d k := by
  unfold rowsTo
  rw [List.getD_eq_getElem?_getD, List.getElem?_map, List.getElem?_range h]; rfl
def strV (l : List ByteArray) : List Value := l.map Value.string

theorem texts_owns {w : World} {B n cap : Nat} {a : Option Addr} {l : List ByteArray} (ho : w.ownsRow B 9 1 (.slice a n cap) n (strV l)) (hl : l.length = n) (hs : ∀ k, k < n → (l.getD k ByteArray.empty).size ≤ maxLen) : Texts w a n l := by
  refine ⟨hl, fun k hk => ?_⟩
  obtain ⟨g, cap2, hv, hc, _, _⟩ := ownsRow_cell ho k hk
  injection hv with hv1 hv2 hv3
  refine ⟨g, 0, hv1, ?_, hs k hk⟩
  rw [Nat.zero_add, hc]
  have hkl : k < l.length := by omega
  simp [strV, List.getElem?_eq_getElem hkl, List.getD]

end Go.Proofs.YtjegaljdindfaabGreatDoor

namespace Go.Proofs.YtjegaljdindfaabGreatDoor
open Go.RowKit
attribute [local go_sem ↓] Go.wp_at_zero Go.wp_at_succ

/- Is an entry's like among the first? -/
def dupB (acc : List (Int × Int)) (e : Int × Int) (j : Nat) : Bool := (acc.take j).any fun x => decide (e.1 = 2 ∧ x = e)

theorem dupB_succ (acc : List (Int × Int)) (e : Int × Int) (j : Nat) (hj : j < acc.length) : dupB acc e (j + 1) = (dupB acc e j || decide (e.1 = 2 ∧ acc.getD j (0, 0) = e)) := by
  unfold dupB
  have : acc.take (j + 1) = acc.take j ++ [acc.getD j (0, 0)] := by
    rw [List.take_succ_eq_append_getElem hj]; simp [List.getD, List.getElem?_eq_getElem hj]
  rw [this, List.any_append]
  simp

theorem dupB_all (acc : List (Int × Int)) (e : Int × Int) : dupB acc e acc.length = decide (e.1 = 2 ∧ e ∈ acc) := by
  unfold dupB
  rw [List.take_length, Bool.eq_iff_iff, List.any_eq_true]
  constructor
  · rintro ⟨x, hx, h⟩
    have h2 := of_decide_eq_true h
    exact decide_eq_true ⟨h2.1, h2.2 ▸ hx⟩
  · intro h
    have h2 := of_decide_eq_true h
    exact ⟨e, h2.2, decide_eq_true ⟨h2.1, rfl⟩⟩

theorem dup_step (B x : Bool) (h : x = true) : (B && !x) = false := by rw [h]; cases B <;> rfl

/- The slice that is being made, and the boxes beside it. -/
theorem ownsRow_basex {w : World} {B B' e size n : Nat} {v : Value} {xs : List Value} (h : w.ownsRow B' e size v n xs) (hB : B ≤ B') : w.ownsRow B e size v n xs := by
  refine ⟨h.1, ?_⟩
  rcases h.2 with h0 | ⟨g2, cap2, cur2, hv, hb, r⟩
  · exact .inl h0
  · exact .inr ⟨g2, cap2, cur2, hv, by omega, r⟩

structure IsOf (B : Nat) (w : World) (v : Value) (acc : List (Int × Int)) : Prop where
  own : w.ownsRow B 142 2 v acc.length (entV acc)

theorem IsOf.below {B : Nat} {w w' : World} {v : Value} {acc : List (Int × Int)} (h : IsOf B w v acc) (hb : Below w.heap.size w w') : IsOf B w' v acc :=
  ⟨ownsRow_stay h.own (fun q e => hb.block q (h.own.lt q e).2)⟩

theorem IsOf.ents {B : Nat} {w : World} {v : Value} {acc : List (Int × Int)} (h : IsOf B w v acc) : ∃ a cap, v = .slice a acc.length cap ∧ Ents w a acc.length acc := by
  have ho := h.own
  rcases ho.2 with ⟨h0, hn⟩ | ⟨g, cp2, cur, hv2, _⟩
  · have e : acc = [] := List.length_eq_zero_iff.1 hn
    subst e
    exact ⟨none, 0, h0, ents_nil _⟩
  · rw [hv2] at ho
    exact ⟨_, cp2, hv2, ents_of_owns ho _ (by rw [List.take_of_length_le (by rw [entV_len]; exact Nat.le_refl _)]) (Nat.le_refl _) rfl⟩

end Go.Proofs.YtjegaljdindfaabGreatDoor

namespace Go.Proofs.YtjegaljdindfaabGreatDoor
open Go.RowKit
attribute [local go_sem ↓] Go.wp_at_zero Go.wp_at_succ

theorem dupB_zero (a : List (Int × Int)) (e : Int × Int) : dupB a e 0 = false := by simp [dupB]

theorem start_bool (eb : Bool) (a : List (Int × Int)) (e : Int × Int) : Value.bool eb = .bool (eb && !dupB a e 0) := by rw [dupB_zero]; cases eb <;> rfl

theorem same_bool {eb x y : Bool} (h : y = x) : Value.bool (eb && !x) = .bool (eb && !y) := by rw [h]

theorem false_bool {eb y : Bool} (h : y = true) : Value.bool false = .bool (eb && !y) := by rw [h]; cases eb <;> rfl

theorem stepT_full {h : HV} {a : List (Int × Int)} {y0 y1 : Int} (hf : (a.length : Int) = h.c) : stepT h a (y0, y1) = if y0 = 0 ∧ y1 = 0 then some a else none := by
  unfold stepT
  rw [if_pos hf]
  by_cases hz : y0 = 0 ∧ y1 = 0
  · rw [if_pos hz, if_pos (by rw [hz.1, hz.2])]
  · rw [if_neg hz, if_neg (fun e => hz ⟨congrArg Prod.fst e, congrArg Prod.snd e⟩)]

theorem stepT_open {h : HV} {a : List (Int × Int)} {y0 y1 : Int} (hf : (a.length : Int) ≠ h.c) : stepT h a (y0, y1) = if (entB y0 y1 h.p && !dupB a (y0, y1) a.length) = true then some (a ++ [(y0, y1)]) else none := by
  unfold stepT
  rw [if_neg hf, dupB_all]
  by_cases hz : entB y0 y1 h.p = true ∧ ¬ (y0 = 2 ∧ (y0, y1) ∈ a)
  · rw [if_pos hz, if_pos (by rw [hz.1, decide_eq_false hz.2]; rfl)]
  · rw [if_neg hz, if_neg]
    intro h2
    rw [Bool.and_eq_true] at h2
    exact hz ⟨h2.1, fun h3 => by rw [decide_eq_true h3] at h2; exact absurd h2.2 (by decide)⟩

end Go.Proofs.YtjegaljdindfaabGreatDoor
