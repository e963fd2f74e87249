/-
The number of a fault is not below nought.
A table that was read whole: as many entries as clusters, each of which may be, no place twice; what image stands on a device (D1).
An image that is made of a table, and one that is opened.
A table of rows (C2), in the document's answer: what TableOf gives.
A table of rows (C2), in the document's answer: TableOf, where the head and the number of rows are as they should be.
asDev: a device and the document's own one, held against each other; same: an error, told by its number.
The document's own image: which one stands on a device.
Open: the image that stands on a device, or that there is none.
Create: the rows of a table that is all Absent, a flush, the head, a flush.
-/
import Derived.Test.YtjegaljdindfaabGreatDoorQTabRead2
import Derived.Test.YtjegaljdindfaabGreatDoorQImgWrite
import Derived.Deep.RegionHeld3
import Derived.Test.YtjegaljdindfaabGreatDoorQDevSn
import Derived.Test.YtjegaljdindfaabGreatDoorQRimActs
import Derived.Test.YtjegaljdindfaabGreatDoorQChainDefs
namespace Go.Proofs.YtjegaljdindfaabGreatDoor
open Go.RowKit

theorem writeF_pos (v : IV) (c fr : Int) (s : ByteArray) : 0 ≤ v.writeF c fr s := by
  unfold IV.writeF IV.writeD
  split
  · split
    · rcases DV.puts_F v.d (beginN v.h (v.ent c).2.toNat + fr.toNat) s (s.size / 16) with h | h <;> rw [h] <;> decide
    · decide
  · decide
theorem putF_pos (d : DV) : 0 ≤ d.putF := by
  rcases d.putF_cases with ⟨h, _⟩ | ⟨h, _⟩ <;> rw [h] <;> decide
theorem clearF_pos (v : IV) (c : Int) : 0 ≤ v.clearF c := by
  unfold IV.clearF
  split
  · split
    · decide
    · exact putF_pos _
  · decide
theorem linkF_pos (v : IV) (b : Int) : 0 ≤ v.linkF b := by
  unfold IV.linkF
  split
  · exact putF_pos _
  · decide
theorem fillF_pos (v : IV) (c : Int) (s : ByteArray) : 0 ≤ v.fillF c s := by
  unfold IV.fillF
  repeat' split
  all_goals first
    | decide
    | exact putF_pos _
    | (rename_i h; simp only [ne_eq] at h; rcases DV.puts_F v.d _ s 4 with g | g <;> simp only [IV.fillD, g] <;> decide)
    | (unfold IV.fillD; rcases DV.puts_F v.d _ s 4 with g | g <;> rw [g] <;> decide)
end Go.Proofs.YtjegaljdindfaabGreatDoor

namespace Go.Proofs.YtjegaljdindfaabGreatDoor
open Go.RowKit

structure GoodT (h : HV) (a : List (Int × Int)) : Prop where
  ents : ∀ e ∈ a, entB e.1 e.2 h.p = true
  once : ∀ i j, i < j → j < a.length → (a.getD j (0, 0)).1 = 2 → a.getD i (0, 0) ≠ a.getD j (0, 0)

theorem GoodT.nil (h : HV) : GoodT h [] := ⟨fun e he => (by cases he), fun i j _ hj => (by cases hj)⟩

theorem getD_left {l r : List (Int × Int)} {i : Nat} (h : i < l.length) : (l ++ r).getD i (0, 0) = l.getD i (0, 0) := by
  rw [List.getD_eq_getElem?_getD, List.getD_eq_getElem?_getD, List.getElem?_append_left h]

theorem getD_last (l : List (Int × Int)) (e : Int × Int) : (l ++ [e]).getD l.length (0, 0) = e := by
  rw [List.getD_eq_getElem?_getD, List.getElem?_append_right (Nat.le_refl _)]; simp

theorem getD_mem {l : List (Int × Int)} {i : Nat} (h : i < l.length) : l.getD i (0, 0) ∈ l := by
  rw [List.getD_eq_getElem?_getD, List.getElem?_eq_getElem h]; exact List.getElem_mem _

theorem stepT_good {h : HV} {acc a : List (Int × Int)} {e : Int × Int} (hs : stepT h acc e = some a) (hg : GoodT h acc) (hl : (acc.length : Int) ≤ h.c) : GoodT h a ∧ (a.length : Int) = min h.c (acc.length + 1) := by
  unfold stepT at hs
  split at hs
  · next hc =>
    split at hs
    · cases hs; exact ⟨hg, by omega⟩
    · cases hs
  · next hc =>
    split at hs
    · next he =>
      cases hs
      refine ⟨⟨fun x hx => ?_, fun i j hij hj h2 => ?_⟩, by rw [List.length_append]; simp; omega⟩
      · rcases List.mem_append.1 hx with h1 | h1
        · exact hg.ents x h1
        · simp only [List.mem_singleton] at h1; rw [h1]; exact he.1
      · rw [List.length_append] at hj
        simp only [List.length_cons, List.length_nil] at hj
        by_cases hjl : j < acc.length
        · rw [getD_left hjl] at h2 ⊢
          rw [getD_left (by omega)]
          exact hg.once i j hij hjl h2
        · have : j = acc.length := by omega
          subst this
          rw [getD_last] at h2 ⊢
          rw [getD_left hij]
          intro heq
          exact he.2 ⟨h2, heq ▸ getD_mem hij⟩
    · cases hs

theorem rowSt_good {h : HV} {acc : List (Int × Int)} {s : ByteArray} (hg : GoodT h acc) (hl : (acc.length : Int) ≤ h.c) : ∀ (i : Nat) (a : List (Int × Int)), rowSt h acc s i = some a → GoodT h a ∧ (a.length : Int) = min h.c (acc.length + i) := by
  intro i
  induction i with
  | zero => intro a e; cases e; exact ⟨hg, by omega⟩
  | succ i ih =>
    intro a e
    cases e2 : rowSt h acc s i with
    | none => rw [rowSt_none e2 (i + 1) (by omega)] at e; cases e
    | some x =>
      rw [rowSt_some e2] at e
      obtain ⟨h1, h2⟩ := ih x e2
      obtain ⟨h3, h4⟩ := stepT_good e h1 (by omega)
      exact ⟨h3, by omega⟩

theorem tabTo_ok {h : HV} {rows : List ByteArray} (h0 : 0 ≤ h.c) : ∀ j, (tabTo h rows j).2 = 0 → GoodT h (tabTo h rows j).1 ∧ ((tabTo h rows j).1.length : Int) = min h.c (8 * j) := by
  intro j
  induction j with
  | zero => intro _; exact ⟨GoodT.nil h, by show ((0 : Nat) : Int) = _; omega⟩
  | succ j ih =>
    intro e
    by_cases e0 : (tabTo h rows j).2 = 0
    · obtain ⟨h1, h2⟩ := ih e0
      by_cases hs : (rows.getD j ByteArray.empty).size = 16
      · cases hr : rowSt h (tabTo h rows j).1 (rows.getD j ByteArray.empty) 8 with
        | none => rw [tabTo_bad e0 hs hr] at e; cases e
        | some a =>
          rw [tabTo_good e0 hs hr]
          obtain ⟨h3, h4⟩ := rowSt_good h1 (by omega) 8 a hr
          refine ⟨h3, ?_⟩
          show (a.length : Int) = _
          omega
      · rw [tabTo_short e0 hs] at e; cases e
    · have : tabTo h rows (j + 1) = ([], (tabTo h rows j).2) := by
        show (if (tabTo h rows j).2 = 0 then _ else _) = _
        rw [if_neg e0]
      rw [this] at e
      exact absurd e e0

theorem tableT_good {h : HV} {rows : List ByteArray} (hf : tableF h rows = 0) : h.ok = true ∧ rows.length = rowsN h.c.toNat ∧ GoodT h (tableT h rows) ∧ ((tableT h rows).length : Int) = h.c := by
  unfold tableF at hf
  split at hf
  · next hi =>
    unfold tableT
    rw [if_pos hi]
    have hi2 := hi
    unfold tableIn at hi2
    rw [Bool.and_eq_true] at hi2
    have hl : rows.length = rowsN h.c.toNat := of_decide_eq_true hi2.2
    have hb := HV.of_ok hi2.1
    obtain ⟨h1, h2⟩ := tabTo_ok (by omega) _ hf
    refine ⟨hi2.1, hl, h1, ?_⟩
    rw [h2, hl]
    unfold rowsN
    omega
  · cases hf

/- What image stands on a device. -/
def openH (d : DV) : HV := headOf (bytesOf (d.seen.getD 0 []))
def openR (d : DV) (k : Nat) : ByteArray := bytesOf (d.seen.getD (1 + k) [])
def openRs (d : DV) : List ByteArray := (List.range (rowsN (openH d).c.toNat)).map (openR d)
def openF (d : DV) : Int :=
  if headF (bytesOf (d.seen.getD 0 [])) = 0 then (if d.fl.length < needN (openH d) then 1 else tableF (openH d) (openRs d)) else headF (bytesOf (d.seen.getD 0 []))
def openV (d : DV) : IV := ⟨d, openH d, tableT (openH d) (openRs d), []⟩

theorem headF_ok {s : ByteArray} (h : headF s = 0) : (headOf s).ok = true := by
  unfold headF at h
  split at h
  · next hs =>
    split at h
    · next hg =>
      unfold headOf
      rw [if_pos ⟨hs, hg⟩]
      unfold headGood at hg
      rw [Bool.and_eq_true] at hg
      exact hg.1
    · cases h
  · next hs => exact absurd h hs

theorem open_ok {d : DV} {m : Nat} (hd : d.fine d.fl.length m) (hf : openF d = 0) : (openV d).ok m ∧ GoodT (openH d) (openV d).t := by
  unfold openF at hf
  split at hf
  · next h1 =>
    split at hf
    · cases hf
    · next h2 =>
      obtain ⟨h3, h4, h5, h6⟩ := tableT_good hf
      exact ⟨⟨hd, h3, h6, h5.ents, by show needN (openH d) ≤ d.fl.length; omega, (fun q hq => by cases hq), Nat.zero_le _⟩, h5⟩
  · next h1 => exact absurd hf h1
end Go.Proofs.YtjegaljdindfaabGreatDoor

namespace Go.Proofs.YtjegaljdindfaabGreatDoor
open Go.RowKit Go.Maps
attribute [local go_sem ↓] Go.wp_at_zero Go.wp_at_succ

set_option maxRecDepth 100000 in
set_option maxHeartbeats 1000000 in
theorem made_img {B : Gd} {tb tc : Nat} {h : Hd} {d : DV} (c p b : Int) (ts : List (Int × Int)) (w : World) (hd : IsDevG B w h d) (hB : B.top ≤ w.heap.size) (ho : w.ownsRow 0 142 2 (.slice (some ⟨tb, 0, none⟩) ts.length tc) ts.length (entV ts)) (htb : ¬ B.g tb) :
    Calls Tryz.prog 72 #[.pointer (some ⟨h.p, 0, none⟩), .agg #[.int .i64 c, .int .i64 p, .int .i64 b], .slice (some ⟨tb, 0, none⟩) ts.length tc] w fun e w' =>
      ∃ x : Ih, x.h = h ∧ x.tb = tb ∧ x.tc = tc ∧ e = .returned (.pointer (some ⟨x.p, 0, none⟩)) ∧ IsImg B w' x ⟨d, ⟨c, p, b⟩, ts, []⟩ ∧ Below w.heap.size w w' := by
  have hmm := @run_makeMap Tryz.prog
  have HD := toHid hd
  have HO := toHid ho
  clear hd ho
  go_enter Tryz.func72, Tryz.ntmps72
  go_wp2
  go_ret
  have hb1 : Below w.heap.size w (w.alloc (.cells #[.int .i64 c, .int .i64 p, .int .i64 b] 60)) := (Below.refl _ _).alloc (Nat.le_refl _) _
  have hb2 := hb1.alloc hb1.size (.map #[] 0)
  have hb3 := hb2.alloc hb2.size (.cells #[.pointer (some ⟨h.p, 0, none⟩), .int .i64 c, .int .i64 p, .int .i64 b, .slice (some ⟨tb, 0, none⟩) ts.length tc, .map (some (w.heap.size + 1))] 152)
  refine ⟨⟨w.heap.size + 2, h, tb, tc, w.heap.size + 1⟩, rfl, rfl, rfl, by simp, ⟨?_, ⟨B.fresh hB (Nat.le_add_right _ 2), htb⟩, B.fresh hB (Nat.le_add_right _ 1), ?_, ?_, ?_⟩, hb3⟩
  · have e := heap_alloc_new ((w.alloc (.cells #[.int .i64 c, .int .i64 p, .int .i64 b] 60)).alloc (.map #[] 0)) (.cells #[.pointer (some ⟨h.p, 0, none⟩), .int .i64 c, .int .i64 p, .int .i64 b, .slice (some ⟨tb, 0, none⟩) ts.length tc, .map (some (w.heap.size + 1))] 152)
    rw [show ((w.alloc (.cells #[.int .i64 c, .int .i64 p, .int .i64 b] 60)).alloc (.map #[] 0)).heap.size = w.heap.size + 2 by simp] at e
    exact e
  · exact HD.out.keep fun k hk => hb3.block k (HD.out.lt k hk).2
  · exact ownsRow_keep HO.out fun k hk => hb3.block k (HO.out.lt k hk).2
  · have e := World.ownsMap_made (w.alloc (.cells #[.int .i64 c, .int .i64 p, .int .i64 b] 60)) Tryz.prog 3 (unitElem (H := Unit))
    rw [show (w.alloc (.cells #[.int .i64 c, .int .i64 p, .int .i64 b] 60)).heap.size = w.heap.size + 1 by simp] at e
    refine ownsMap_block e ?_
    exact Below.heap_alloc _ _ _ (by simp)

def rowsTo (d : DV) (k : Nat) : List ByteArray := (List.range k).map (openR d)
theorem rowsTo_len (d : DV) (k : Nat) : (rowsTo d k).length = k := by simp [rowsTo]
theorem rowsTo_succ (d : DV) (k : Nat) : rowsTo d (k + 1) = rowsTo d k ++ [openR d k] := by unfold rowsTo; rw [List.range_succ, List.map_append]; rfl
theorem rowsTo_at (d : DV) (n k : Nat) (h : k < n) : (rowsTo d n).getD k ByteArray.empty = openR d k := by
  unfold rowsTo
  rw [List.getD_eq_getElem?_getD, List.getElem?_map, List.getElem?_range h]; rfl
def strV (l : List ByteArray) : List Value := l.map Value.string

theorem texts_owns {w : World} {B n cap : Nat} {a : Option Addr} {l : List ByteArray} (ho : w.ownsRow B 9 1 (.slice a n cap) n (strV l)) (hl : l.length = n) (hs : ∀ k, k < n → (l.getD k ByteArray.empty).size ≤ maxLen) : Texts w a n l := by
  refine ⟨hl, fun k hk => ?_⟩
  obtain ⟨g, cap2, hv, hc, _, _⟩ := ownsRow_cell ho k hk
  injection hv with hv1 hv2 hv3
  refine ⟨g, 0, hv1, ?_, hs k hk⟩
  rw [Nat.zero_add, hc]
  have hkl : k < l.length := by omega
  simp [strV, List.getElem?_eq_getElem hkl, List.getD]

end Go.Proofs.YtjegaljdindfaabGreatDoor

namespace Go.Proofs.YtjegaljdindfaabGreatDoor
open Go.RowKit
attribute [local go_sem ↓] Go.wp_at_zero Go.wp_at_succ

/- Is an entry's like among the first? -/
def dupB (acc : List (Int × Int)) (e : Int × Int) (j : Nat) : Bool := (acc.take j).any fun x => decide (e.1 = 2 ∧ x = e)

theorem dupB_succ (acc : List (Int × Int)) (e : Int × Int) (j : Nat) (hj : j < acc.length) : dupB acc e (j + 1) = (dupB acc e j || decide (e.1 = 2 ∧ acc.getD j (0, 0) = e)) := by
  unfold dupB
  have : acc.take (j + 1) = acc.take j ++ [acc.getD j (0, 0)] := by
    rw [List.take_succ_eq_append_getElem hj]; simp [List.getD, List.getElem?_eq_getElem hj]
  rw [this, List.any_append]
  simp

theorem dupB_all (acc : List (Int × Int)) (e : Int × Int) : dupB acc e acc.length = decide (e.1 = 2 ∧ e ∈ acc) := by
  unfold dupB
  rw [List.take_length, Bool.eq_iff_iff, List.any_eq_true]
  constructor
  · rintro ⟨x, hx, h⟩
    have h2 := of_decide_eq_true h
    exact decide_eq_true ⟨h2.1, h2.2 ▸ hx⟩
  · intro h
    have h2 := of_decide_eq_true h
    exact ⟨e, h2.2, decide_eq_true ⟨h2.1, rfl⟩⟩

theorem dup_step (B x : Bool) (h : x = true) : (B && !x) = false := by rw [h]; cases B <;> rfl

/- The slice that is being made, and the boxes beside it. -/
theorem ownsRow_basex {w : World} {B B' e size n : Nat} {v : Value} {xs : List Value} (h : w.ownsRow B' e size v n xs) (hB : B ≤ B') : w.ownsRow B e size v n xs := by
  refine ⟨h.1, ?_⟩
  rcases h.2 with h0 | ⟨g2, cap2, cur2, hv, hb, r⟩
  · exact .inl h0
  · exact .inr ⟨g2, cap2, cur2, hv, by omega, r⟩

structure IsOf (B : Nat) (w : World) (v : Value) (acc : List (Int × Int)) : Prop where
  own : w.ownsRow B 142 2 v acc.length (entV acc)

theorem IsOf.below {B : Nat} {w w' : World} {v : Value} {acc : List (Int × Int)} (h : IsOf B w v acc) (hb : Below w.heap.size w w') : IsOf B w' v acc :=
  ⟨ownsRow_stay h.own (fun q e => hb.block q (h.own.lt q e).2)⟩

theorem IsOf.ents {B : Nat} {w : World} {v : Value} {acc : List (Int × Int)} (h : IsOf B w v acc) : ∃ a cap, v = .slice a acc.length cap ∧ Ents w a acc.length acc := by
  have ho := h.own
  rcases ho.2 with ⟨h0, hn⟩ | ⟨g, cp2, cur, hv2, _⟩
  · have e : acc = [] := List.length_eq_zero_iff.1 hn
    subst e
    exact ⟨none, 0, h0, ents_nil _⟩
  · rw [hv2] at ho
    exact ⟨_, cp2, hv2, ents_of_owns ho _ (by rw [List.take_of_length_le (by rw [entV_len]; exact Nat.le_refl _)]) (Nat.le_refl _) rfl⟩

end Go.Proofs.YtjegaljdindfaabGreatDoor

namespace Go.Proofs.YtjegaljdindfaabGreatDoor
open Go.RowKit
attribute [local go_sem ↓] Go.wp_at_zero Go.wp_at_succ

theorem dupB_zero (a : List (Int × Int)) (e : Int × Int) : dupB a e 0 = false := by simp [dupB]

theorem start_bool (eb : Bool) (a : List (Int × Int)) (e : Int × Int) : Value.bool eb = .bool (eb && !dupB a e 0) := by rw [dupB_zero]; cases eb <;> rfl

theorem same_bool {eb x y : Bool} (h : y = x) : Value.bool (eb && !x) = .bool (eb && !y) := by rw [h]

theorem false_bool {eb y : Bool} (h : y = true) : Value.bool false = .bool (eb && !y) := by rw [h]; cases eb <;> rfl

theorem stepT_full {h : HV} {a : List (Int × Int)} {y0 y1 : Int} (hf : (a.length : Int) = h.c) : stepT h a (y0, y1) = if y0 = 0 ∧ y1 = 0 then some a else none := by
  unfold stepT
  rw [if_pos hf]
  by_cases hz : y0 = 0 ∧ y1 = 0
  · rw [if_pos hz, if_pos (by rw [hz.1, hz.2])]
  · rw [if_neg hz, if_neg (fun e => hz ⟨congrArg Prod.fst e, congrArg Prod.snd e⟩)]

theorem stepT_open {h : HV} {a : List (Int × Int)} {y0 y1 : Int} (hf : (a.length : Int) ≠ h.c) : stepT h a (y0, y1) = if (entB y0 y1 h.p && !dupB a (y0, y1) a.length) = true then some (a ++ [(y0, y1)]) else none := by
  unfold stepT
  rw [if_neg hf, dupB_all]
  by_cases hz : entB y0 y1 h.p = true ∧ ¬ (y0 = 2 ∧ (y0, y1) ∈ a)
  · rw [if_pos hz, if_pos (by rw [hz.1, decide_eq_false hz.2]; rfl)]
  · rw [if_neg hz, if_neg]
    intro h2
    rw [Bool.and_eq_true] at h2
    exact hz ⟨h2.1, fun h3 => by rw [decide_eq_true h3] at h2; exact absurd h2.2 (by decide)⟩

end Go.Proofs.YtjegaljdindfaabGreatDoor

namespace Go.Proofs.YtjegaljdindfaabGreatDoor
open Go.RowKit
attribute [local go_sem ↓] Go.wp_at_zero Go.wp_at_succ

theorem setTo_last (d : DV) (i : Nat) (hi : i < d.fl.length) (k : Nat) (hk : k ≤ d.pend.length) : (setTo d.pend d.fl k).getD i [] = lastTo d i k := by
  induction k with
  | zero => rfl
  | succ k ih =>
    have h2 := ih (by omega)
    by_cases e : (d.pend.getD k (0, [])).1 = i
    · rw [lastTo_yes e]
      show ((setTo d.pend d.fl k).set (d.pend.getD k (0, [])).1 (d.pend.getD k (0, [])).2).getD i [] = _
      rw [e, List.getD_eq_getElem?_getD, List.getElem?_set_self (by rw [setTo_len]; exact hi)]; rfl
    · rw [lastTo_no e, ← h2]
      show ((setTo d.pend d.fl k).set (d.pend.getD k (0, [])).1 (d.pend.getD k (0, [])).2).getD i [] = _
      rw [List.getD_eq_getElem?_getD, List.getElem?_set_ne e, ← List.getD_eq_getElem?_getD]

theorem seen_last {d : DV} (hs : d.sn) (i : Nat) (hi : i < d.fl.length) : d.seen.getD i [] = lastTo d i d.pend.length := by
  rw [hs]; exact setTo_last d i hi _ (Nat.le_refl _)

set_option maxRecDepth 100000 in
set_option maxHeartbeats 400000 in
theorem same_nil (f : Int) (w : World) : Calls Tryz.prog 11 #[.nilIface, .int .i64 f] w fun e w' => e = .returned (.bool (f == 0)) ∧ w' = w := by
  go_enter Tryz.func11, Tryz.ntmps11
  go_wp2
  go_ret
  exact ⟨rfl, rfl⟩

set_option maxRecDepth 100000 in
set_option maxHeartbeats 400000 in
theorem same_err (n : Int) (w : World) (h0 : 0 < n) : Calls Tryz.prog 11 #[.iface 87 (.int .i64 n), .int .i64 n] w fun e w' => e = .returned (.bool true) ∧ w' = w := by
  have hta : ∀ w : World, (Instr.typeAssert (.iface 87 (.int .i64 n)) 33 87 true).run Tryz.prog w = .ok (.tuple #[.int .i64 n, .bool true]) w := fun _ => by kernel_rfl
  go_enter Tryz.func11, Tryz.ntmps11
  go_wp2
  go_ret
  exact ⟨rfl, rfl⟩

set_option maxRecDepth 100000 in
set_option maxHeartbeats 1000000 in
theorem asDev_any {B B' : Nat} {h : Hd} {q : Rh} {d : DV} (w : World) (hd : IsDev B w h d) (hr : IsRef B' w q d) (hs : d.sn) :
    Calls Tryz.prog 110 #[.pointer (some ⟨h.p, 0, none⟩), .pointer (some ⟨q.p, 0, none⟩)] w fun e w' => e = .returned (.bool true) ∧ Below w.heap.size w w' := by
  obtain ⟨c0, c1, c2, c3, c4, fz⟩ := hr.cells
  obtain ⟨a1, k1, e1⟩ := ownsRow_shape hr.o1
  rw [e1] at c1
  have hpl : q.p < w.heap.size := (hr.lt q.p (.inl rfl)).2
  have HKD : Hid (∀ W : World, Below w.heap.size w W → IsDev B W h d) := fun W hb => hd.keep fun k hk => hb.block k (hd.lt k hk).2
  have HKR : Hid (∀ W : World, Below w.heap.size w W → IsRef B' W q d) := fun W hb => hr.keep fun k hk => hb.block k (hr.lt k hk).2
  have HS : Hid d.sn := hs
  have h200 := hd.ok.n2
  have HOK : Hid d.ok := hd.ok
  clear hd hr hs fz c2 c3 e1
  go_enter Tryz.func110, Tryz.ntmps110
  go_wp2
  go_region_held3 (fun w' => Below w.heap.size w w' ∧ w'.cell? ⟨q.p, 0, none⟩ = some (.slice (some ⟨q.bf, 0, none⟩) d.fl.length q.cf) ∧ w'.cell? ⟨q.p, 1, none⟩ = some (.slice a1 d.pend.length k1) ∧ w'.cell? ⟨q.p, 4, none⟩ = some (.int .i64 (d.wr : Int)))
    (first | (exact ⟨Below.drew (Below.refl _ _), c0, c1, c4⟩) | assumption | (exact ⟨by assumption, (Below.cell (by assumption) hpl).trans c0, (Below.cell (by assumption) hpl).trans c1, (Below.cell (by assumption) hpl).trans c4⟩))
    (first
      | (go_at_call 70; refine (size_any _ (HKD.out _ ?_)).mono ?_; (· exact (by assumption : Below w.heap.size w _ ∧ _).1); rintro e w' ⟨rfl, rfl⟩)
      | (go_at_call 151; refine (pending_any _ (HKD.out _ ?_)).mono ?_; (· exact (by assumption : Below w.heap.size w _ ∧ _).1); rintro e w' ⟨rfl, rfl⟩)
      | (go_at_call 152; refine (writes_any _ (HKD.out _ ?_)).mono ?_; (· exact (by assumption : Below w.heap.size w _ ∧ _).1); rintro e w' ⟨rfl, rfl⟩)
      | (go_at_call 153; refine (bytes_dev _ (HKD.out _ ?_)).mono ?_; (· exact (by assumption : Below w.heap.size w _ ∧ _).1); rintro e w' ⟨rfl, hb'⟩; have hB' := Below.trans (by assumption : Below w.heap.size w _ ∧ _).1 (hb'.mono (by assumption : Below w.heap.size w _ ∧ _).1.size))
      | (go_at_call 154; refine (refBytes_any _ (HKR.out _ ?_) h200 HOK.out.l1).mono ?_; (· exact (by assumption : Below w.heap.size w _ ∧ _).1); rintro e w' ⟨rfl, rfl⟩))
  have hst := (by assumption : Below w.heap.size w _ ∧ _).1
  go_wp2
  go_loopw [5] (fun i wr => ∃ k : Nat, k ≤ d.fl.length ∧ i = .int .i64 k ∧ Below w.heap.size w wr) (fun i _ => d.fl.length - (intOf i).toNat)
  case atStart => exact ⟨0, Nat.zero_le _, rfl, hst⟩
  case round =>
    obtain ⟨k, hk, rfl, hbel⟩ := hrel
    have c0' : wr.cell? ⟨q.p, 0, none⟩ = some (.slice (some ⟨q.bf, 0, none⟩) d.fl.length q.cf) := (hbel.cell hpl).trans c0
    by_cases hlt : k < d.fl.length
    · have hrd := read_yes k wr (HKD.out wr hbel) hlt
      rw [seen_last HS.out k hlt] at hrd
      have HRD : Hid (Calls Tryz.prog 155 #[.pointer (some ⟨h.p, 0, none⟩), .int .i64 (k : Int)] wr fun e w' => e = .returned (.tuple #[.string (bytesOf (lastTo d k d.pend.length)), .nilIface]) ∧ w' = wr) := hrd
      have HSE : Hid (Calls Tryz.prog 150 #[.pointer (some ⟨q.p, 0, none⟩), .int .i64 (k : Int)] wr fun e w' => e = .returned (.string (bytesOf (lastTo d k d.pend.length))) ∧ w' = wr) := seen_any k wr (HKR.out wr hbel) hlt (by have := HOK.out.few; have := HOK.out.few2; omega)
      have HBL : Hid (Below w.heap.size w wr) := hbel
      clear hrd hbel
      generalize bytesOf (lastTo d k d.pend.length) = x at HRD HSE
      go_wp2_with fail
      refine HRD.out.mono ?_
      rintro e w' ⟨rfl, hw⟩
      have hw' := hw.symm
      subst hw'
      clear hw
      go_wp2_with fail
      refine HSE.out.mono ?_
      rintro e w' ⟨rfl, hw⟩
      have hw' := hw.symm
      subst hw'
      clear hw
      go_wp2
      go_roundw
      case rel =>
        have fin : ∃ k' : Nat, k' ≤ d.fl.length ∧ Value.int .i64 ((k : Int) + 1) = .int .i64 k' ∧ Below w.heap.size w wr := ⟨k + 1, by omega, by go_num, HBL.out⟩
        first | exact fin | ((repeat apply Exists.intro); exact ⟨fin, rfl⟩)
      case measure => simp [intOf]; omega
    · go_wp2
      go_ret
      exact ⟨rfl, hbel⟩
end Go.Proofs.YtjegaljdindfaabGreatDoor

namespace Go.Proofs.YtjegaljdindfaabGreatDoor
open Go.RowKit Go.Maps
attribute [local go_sem ↓] Go.wp_at_zero Go.wp_at_succ

theorem headF_pos (s : ByteArray) (h : headF s ≠ 0) : 0 < headF s := by
  have := headF_nonneg s
  omega

theorem seen_bytes {d : DV} {m : Nat} (hf : d.fine d.fl.length m) (i : Nat) (hi : i < d.fl.length) : bytesOf (lastTo d i d.pend.length) = bytesOf (d.seen.getD i []) := by rw [seen_last hf.sn i hi]

theorem rim_made {B : Gd} {g cap : Nat} {w wF : World} {q : Rh} {d : DV} {h : HV} {ts : List (Int × Int)} (hd : IsRefG B w q d) (hB : B.top ≤ w.heap.size) (hb : Below w.heap.size w wF) (ho : wF.ownsRow 0 142 2 (.slice (some ⟨g, 0, none⟩) ts.length cap) ts.length (entV ts)) (hg : ¬ B.g g) :
    IsRim B (wF.alloc (.cells #[.pointer (some ⟨q.p, 0, none⟩), .int .i64 h.c, .int .i64 h.p, .int .i64 h.b, .slice (some ⟨g, 0, none⟩) ts.length cap, .slice none 0 0] 90)) ⟨wF.heap.size, q, .slice (some ⟨g, 0, none⟩) ts.length cap, .slice none 0 0⟩ ⟨d, h, ts, []⟩ := by
  have hd2 : IsRefG B wF q d := hd.keep fun k hk => hb.block k (hd.lt k hk).2
  have hba := Below.refl wF.heap.size wF |>.alloc (Nat.le_refl _) (.cells #[.pointer (some ⟨q.p, 0, none⟩), .int .i64 h.c, .int .i64 h.p, .int .i64 h.b, .slice (some ⟨g, 0, none⟩) ts.length cap, .slice none 0 0] 90)
  refine ⟨heap_alloc_new _ _, B.fresh hB hb.size, hd2.keep fun k hk => hba.block k (hd2.lt k hk).2, ownsRow_keep ho fun k hk => hba.block k (ho.lt k hk).2, World.ownsRow_nil _ _ _ _, (fun k e => by cases e), (fun k e => by
    have : g = k := by simpa [Value.ownBlock] using e
    rw [← this]; exact hg), fun k e => by cases e⟩

end Go.Proofs.YtjegaljdindfaabGreatDoor

namespace Go.Proofs.YtjegaljdindfaabGreatDoor
open Go.RowKit Go.Maps
attribute [local go_sem ↓] Go.wp_at_zero Go.wp_at_succ

theorem erV_some2 {f : Int} (h : f ≠ 0) : erV f = .iface 87 (.int .i64 f) := by unfold erV; rw [if_neg h]

theorem HV.cells_eq (h : HV) : h.cells = #[.int .i64 h.c, .int .i64 h.p, .int .i64 h.b] := rfl

end Go.Proofs.YtjegaljdindfaabGreatDoor

namespace Go.Proofs.YtjegaljdindfaabGreatDoor
open Go.RowKit Go.Maps
attribute [local go_sem ↓] Go.wp_at_zero Go.wp_at_succ

def DV.rowsP (d : DV) (t : List (Int × Int)) : Nat → DV × Int
  | 0 => (d, 0)
  | k + 1 => if (d.rowsP t k).2 = 0 then ((d.rowsP t k).1.put (1 + k) (rowS t (k : Int)).data.toList, (d.rowsP t k).1.putF) else d.rowsP t k

theorem DV.rowsP_yes {d : DV} {t : List (Int × Int)} {k : Nat} (h : (d.rowsP t k).2 = 0) : d.rowsP t (k + 1) = ((d.rowsP t k).1.put (1 + k) (rowS t (k : Int)).data.toList, (d.rowsP t k).1.putF) := by
  show (if (d.rowsP t k).2 = 0 then _ else _) = _
  rw [if_pos h]

theorem DV.rowsP_no {d : DV} {t : List (Int × Int)} {k : Nat} (h : (d.rowsP t k).2 ≠ 0) : ∀ j, k ≤ j → d.rowsP t j = d.rowsP t k := by
  intro j hj
  induction j with
  | zero => rw [show (0 : Nat) = k by omega]
  | succ j ih =>
    by_cases e : k = j + 1
    · rw [← e]
    · have h1 := ih (by omega)
      show (if (d.rowsP t j).2 = 0 then _ else d.rowsP t j) = _
      rw [h1, if_neg h]

def crT (h : HV) : List (Int × Int) := List.replicate h.c.toNat (0, 0)
def crD (d : DV) (h : HV) : DV × Int := d.rowsP (crT h) (rowsN h.c.toNat)
def crV0 (d : DV) (h : HV) : IV := ⟨(crD d h).1, h, crT h, []⟩
def crV (d : DV) (h : HV) : IV := (crV0 d h).headV h
def crF (d : DV) (h : HV) : Int := if h.ok = true then (if d.fl.length < needN h then 1 else if (crD d h).2 = 0 then (crV0 d h).flush.d.putF else (crD d h).2) else 1

theorem crT_len (h : HV) (hk : h.ok = true) : ((crT h).length : Int) = h.c := by
  have := HV.of_ok hk
  unfold crT; rw [List.length_replicate]; omega

theorem crT_ents (h : HV) : ∀ e ∈ crT h, entB e.1 e.2 h.p = true := by
  intro e he
  rw [List.eq_of_mem_replicate he]
  exact entB_yes (.inr ⟨.inl rfl, rfl⟩)

theorem crT_row (h : HV) (hk : h.ok = true) (k : Nat) (hr : k < rowsN h.c.toNat) : rowF (crT h) (k : Int) = 0 ∧ (rowS (crT h) (k : Int)).size = 16 :=
  row_good hk (crT_len h hk) (crT_ents h) k (by have := crT_len h hk; have := HV.of_ok hk; rw [show (crT h).length = h.c.toNat by omega]; exact hr)

theorem crD_fine {d : DV} {m : Nat} {h : HV} (hd : d.fine d.fl.length m) (hk : h.ok = true) (hn : needN h ≤ d.fl.length) (hm : m + 10 < 1000000000) : ∀ k, k ≤ rowsN h.c.toNat → (d.rowsP (crT h) k).1.fine d.fl.length (m + k) := by
  have hb := (begin_le hk hn).1
  have hrn : rowsN h.c.toNat ≤ 5 := by have := HV.of_ok hk; unfold rowsN; omega
  intro k
  induction k with
  | zero => intro _; exact hd
  | succ k ih =>
    intro hkn
    have h1 := ih (by omega)
    by_cases h0 : (d.rowsP (crT h) k).2 = 0
    · rw [DV.rowsP_yes h0]
      exact h1.put (by omega) (by have := (crT_row h hk k (by omega)).2; simpa using this) (by omega)
    · rw [DV.rowsP_no h0 (k + 1) (by omega)]
      exact h1.more (by omega)

theorem crV0_ok {d : DV} {m : Nat} {h : HV} (hd : d.fine d.fl.length m) (hk : h.ok = true) (hn : needN h ≤ d.fl.length) (hm : m + 10 < 1000000000) : (crV0 d h).ok (m + 5) := by
  have hrn : rowsN h.c.toNat ≤ 5 := by have := HV.of_ok hk; unfold rowsN; omega
  have h1 := (crD_fine hd hk hn hm _ (Nat.le_refl _)).more (show m + rowsN h.c.toNat ≤ m + 5 by omega)
  refine ⟨?_, hk, crT_len h hk, crT_ents h, ?_, (fun q hq => by cases hq), Nat.zero_le _⟩
  · show (crD d h).1.fine (crD d h).1.fl.length (m + 5)
    unfold crD
    rw [h1.len]; exact h1
  · show needN h ≤ (crD d h).1.fl.length
    unfold crD
    rw [h1.len]; exact hn

theorem crV_ok {d : DV} {m : Nat} {h : HV} (hd : d.fine d.fl.length m) (hk : h.ok = true) (hn : needN h ≤ d.fl.length) (hm : m + 20 < 1000000000) : (crV d h).ok (m + 15) :=
  ((crV0_ok hd hk hn (by omega)).headV hk rfl rfl (by omega)).more (by omega)

theorem KeptP.retb {B : Gd} {tb tb' : Nat} {w w' : World} (h : KeptP B tb w w') (ht : w.heap.size ≤ tb) : KeptP B tb' w w' :=
  Kept.mono h fun k hk hs => ⟨hs.1, .inl (by rcases hs.2 with h2 | h2; exact h2; omega)⟩

/- Create, of a head that may not be, or on a device with too few sectors. -/
set_option maxRecDepth 100000 in
set_option maxHeartbeats 1000000 in
theorem create_bad {B : Gd} {h : Hd} {d : DV} (c p b : Int) (w : World) (hd : IsDevG B w h d) (hn : ¬ (HV.ok ⟨c, p, b⟩ = true ∧ needN ⟨c, p, b⟩ ≤ d.fl.length)) :
    Calls Tryz.prog 26 #[.pointer (some ⟨h.p, 0, none⟩), .agg #[.int .i64 c, .int .i64 p, .int .i64 b]] w fun e w' => e = .returned (.tuple #[.pointer none, .iface 87 (.int .i64 1)]) ∧ Below w.heap.size w w' := by
  have HCH := toHid (checkHead_any c p b)
  cases hk : HV.ok ⟨c, p, b⟩ with
  | false =>
    have e1 : HV.fault ⟨c, p, b⟩ = 1 := by unfold HV.fault; rw [hk]; rfl
    rw [e1, erV_1] at HCH
    clear hd hn hk e1
    go_enter Tryz.func26, Tryz.ntmps26
    go_wp2_with fail
    refine (HCH.out _).mono ?_
    rintro e w1 ⟨rfl, hb1⟩
    go_wp2
    go_ret2
    exact ⟨rfl, ((Below.refl _ _).alloc (Nat.le_refl _) _).trans (hb1.mono (by simp))⟩
  | true =>
    have e1 : HV.fault ⟨c, p, b⟩ = 0 := by unfold HV.fault; rw [hk]; rfl
    rw [e1, erV_0] at HCH
    have hlt : d.fl.length < needN ⟨c, p, b⟩ := by
      by_cases hx : needN ⟨c, p, b⟩ ≤ d.fl.length
      · exact absurd ⟨hk, hx⟩ hn
      · omega
    have HND := toHid (fun W => need_any c p b W hk)
    have HSI : Hid (∀ W : World, Below w.heap.size w W → Calls Tryz.prog 70 #[.pointer (some ⟨h.p, 0, none⟩)] W fun e w' => e = .returned (.int .i64 (d.fl.length : Int)) ∧ w' = W) := fun W hb => size_any W (hd.keep fun k hk => hb.block k (hd.lt k hk).2).toIsDev
    generalize needN ⟨c, p, b⟩ = nn at HND hlt
    clear hd hn hk e1
    go_enter Tryz.func26, Tryz.ntmps26
    go_wp2_with fail
    refine (HCH.out _).mono ?_
    rintro e wA ⟨rfl, hb1⟩
    have HB1 : Hid (Below w.heap.size w wA) := ((Below.refl _ _).alloc (Nat.le_refl _) _).trans (hb1.mono (by simp))
    have hx1 : wA.heap[w.heap.size]? = some (.cells #[.int .i64 c, .int .i64 p, .int .i64 b] 60 (0, 0)) := by rw [hb1.block _ (by simp), heap_alloc_new]
    have hNl : w.heap.size < wA.heap.size := lt_of_some hx1
    have y0 : wA.cell? ⟨w.heap.size, 0, none⟩ = some (.int .i64 c) := by rw [cell_of_row _ _ _ _ _ _ hx1]; rfl
    have y1 : wA.cell? ⟨w.heap.size, 1, none⟩ = some (.int .i64 p) := by rw [cell_of_row _ _ _ _ _ _ hx1]; rfl
    have y2 : wA.cell? ⟨w.heap.size, 2, none⟩ = some (.int .i64 b) := by rw [cell_of_row _ _ _ _ _ _ hx1]; rfl
    clear hb1 hx1 HCH
    go_wp2
    go_region_held3 (fun W => Below wA.heap.size wA W ∧ W.cell? ⟨w.heap.size, 0, none⟩ = some (.int .i64 c) ∧ W.cell? ⟨w.heap.size, 1, none⟩ = some (.int .i64 p) ∧ W.cell? ⟨w.heap.size, 2, none⟩ = some (.int .i64 b))
      (first | (exact ⟨Below.drew (Below.refl _ _), y0, y1, y2⟩) | assumption | (exact ⟨by assumption, (Below.cell (by assumption) hNl).trans y0, (Below.cell (by assumption) hNl).trans y1, (Below.cell (by assumption) hNl).trans y2⟩))
      (first
        | (go_at_call 70; refine (HSI.out _ (HB1.out.trans (Below.mono (by assumption : Below wA.heap.size wA _ ∧ _).1 HB1.out.size))).mono ?_; rintro e w' ⟨rfl, rfl⟩)
        | (go_at_call 71; refine (HND.out _).mono ?_; rintro e w' ⟨rfl, hb'⟩; have hB' := Below.trans (by assumption : Below wA.heap.size wA _ ∧ _).1 (hb'.mono (by assumption : Below wA.heap.size wA _ ∧ _).1.size)))
    all_goals
      obtain ⟨hs0, z0, z1, z2⟩ := (by assumption : Below wA.heap.size wA _ ∧ _)
      have HBW := toHid (HB1.out.trans (hs0.mono HB1.out.size))
      have g1 : decide ((d.fl.length : Int) < (nn : Int)) = true := decide_eq_true (by omega)
      clear hs0 y0 y1 y2 hNl
      go_wp2
      go_ret2
      exact ⟨rfl, HBW.out⟩

theorem entV_zeros (n : Nat) : entV (List.replicate n (0, 0)) = List.replicate (n * 2) (.int .i64 0) := by
  induction n with
  | zero => rfl
  | succ n ih =>
    rw [List.replicate_succ]
    have e1 : ∀ (y : Int × Int) (l : List (Int × Int)), entV (y :: l) = .int .i64 y.1 :: .int .i64 y.2 :: entV l := fun _ _ => rfl
    rw [e1, ih, show (n + 1) * 2 = n * 2 + 1 + 1 by omega, List.replicate_succ, List.replicate_succ]

theorem made_zeros (n : Nat) : (madeCells (Value.agg #[.int .i64 0, .int .i64 0]).cells (n * 2)).toList = entV (List.replicate n (0, 0)) := by
  rw [entV_zeros]
  apply List.ext_getElem
  · simp [madeCells]
  · intro i h1 h2
    simp [madeCells, Value.cells]
    rcases Nat.mod_two_eq_zero_or_one i with h | h <;> simp [h]
end Go.Proofs.YtjegaljdindfaabGreatDoor
