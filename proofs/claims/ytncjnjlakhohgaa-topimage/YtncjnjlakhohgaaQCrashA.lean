/-
A table that was read whole: as many entries as clusters, each of which may be, no place twice; what image stands on a device (D1).
What a crash may leave of a sector: its versions; and that an image whose rows are versions of one table is opened (D1, D2), in plain words.
-/
import Derived.Test.YtncjnjlakhohgaaQImgDefs
namespace Go.Proofs.Ytncjnjlakhohgaa
open Go.RowKit

structure GoodT (h : HV) (a : List (Int × Int)) : Prop where
  ents : ∀ e ∈ a, entB e.1 e.2 h.p = true
  once : ∀ i j, i < j → j < a.length → (a.getD j (0, 0)).1 = 2 → a.getD i (0, 0) ≠ a.getD j (0, 0)

theorem GoodT.nil (h : HV) : GoodT h [] := ⟨fun e he => (by cases he), fun i j _ hj => (by cases hj)⟩

theorem getD_left {l r : List (Int × Int)} {i : Nat} (h : i < l.length) : (l ++ r).getD i (0, 0) = l.getD i (0, 0) := by
  rw [List.getD_eq_getElem?_getD, List.getD_eq_getElem?_getD, List.getElem?_append_left h]

theorem getD_last (l : List (Int × Int)) (e : Int × Int) : (l ++ [e]).getD l.length (0, 0) = e := by
  rw [List.getD_eq_getElem?_getD, List.getElem?_append_right (Nat.le_refl _)]; simp

theorem getD_mem {l : List (Int × Int)} {i : Nat} (h : i < l.length) : l.getD i (0, 0) ∈ l := by
  rw [List.getD_eq_getElem?_getD, List.getElem?_eq_getElem h]; exact List.getElem_mem _

theorem stepT_good {h : HV} {acc a : List (Int × Int)} {e : Int × Int} (hs : stepT h acc e = some a) (hg : GoodT h acc) (hl : (acc.length : Int) ≤ h.c) : GoodT h a ∧ (a.length : Int) = min h.c (acc.length + 1) := by
  unfold stepT at hs
  split at hs
  · next hc =>
    split at hs
    · cases hs; exact ⟨hg, by omega⟩
    · cases hs
  · next hc =>
    split at hs
    · next he =>
      cases hs
      refine ⟨⟨fun x hx => ?_, fun i j hij hj h2 => ?_⟩, by rw [List.length_append]; simp; omega⟩
      · rcases List.mem_append.1 hx with h1 | h1
        · exact hg.ents x h1
        · simp only [List.mem_singleton] at h1; rw [h1]; exact he.1
      · rw [List.length_append] at hj
        simp only [List.length_cons, List.length_nil] at hj
        by_cases hjl : j < acc.length
        · rw [getD_left hjl] at h2 ⊢
          rw [getD_left (by omega)]
          exact hg.once i j hij hjl h2
        · have : j = acc.length := by omega
          subst this
          rw [getD_last] at h2 ⊢
          rw [getD_left hij]
          intro heq
          exact he.2 ⟨h2, heq ▸ getD_mem hij⟩
    · cases hs

theorem rowSt_good {h : HV} {acc : List (Int × Int)} {s : ByteArray} (hg : GoodT h acc) (hl : (acc.length : Int) ≤ h.c) : ∀ (i : Nat) (a : List (Int × Int)), rowSt h acc s i = some a → GoodT h a ∧ (a.length : Int) = min h.c (acc.length + i) := by
  intro i
  induction i with
  | zero => intro a e; cases e; exact ⟨hg, by omega⟩
  | succ i ih =>
    intro a e
    cases e2 : rowSt h acc s i with
    | none => rw [rowSt_none e2 (i + 1) (by omega)] at e; cases e
    | some x =>
      rw [rowSt_some e2] at e
      obtain ⟨h1, h2⟩ := ih x e2
      obtain ⟨h3, h4⟩ := stepT_good e h1 (by omega)
      exact ⟨h3, by omega⟩

theorem tabTo_ok {h : HV} {rows : List ByteArray} (h0 : 0 ≤ h.c) : ∀ j, (tabTo h rows j).2 = 0 → GoodT h (tabTo h rows j).1 ∧ ((tabTo h rows j).1.length : Int) = min h.c (8 * j) := by
  intro j
  induction j with
  | zero => intro _; exact ⟨GoodT.nil h, by show ((0 : Nat) : Int) = _; omega⟩
  | succ j ih =>
    intro e
    by_cases e0 : (tabTo h rows j).2 = 0
    · obtain ⟨h1, h2⟩ := ih e0
      by_cases hs : (rows.getD j ByteArray.empty).size = 16
      · cases hr : rowSt h (tabTo h rows j).1 (rows.getD j ByteArray.empty) 8 with
        | none => rw [tabTo_bad e0 hs hr] at e; cases e
        | some a =>
          rw [tabTo_good e0 hs hr]
          obtain ⟨h3, h4⟩ := rowSt_good h1 (by omega) 8 a hr
          refine ⟨h3, ?_⟩
          show (a.length : Int) = _
          omega
      · rw [tabTo_short e0 hs] at e; cases e
    · have : tabTo h rows (j + 1) = ([], (tabTo h rows j).2) := by
        show (if (tabTo h rows j).2 = 0 then _ else _) = _
        rw [if_neg e0]
      rw [this] at e
      exact absurd e e0

theorem tableT_good {h : HV} {rows : List ByteArray} (hf : tableF h rows = 0) : h.ok = true ∧ rows.length = rowsN h.c.toNat ∧ GoodT h (tableT h rows) ∧ ((tableT h rows).length : Int) = h.c := by
  unfold tableF at hf
  split at hf
  · next hi =>
    unfold tableT
    rw [if_pos hi]
    have hi2 := hi
    unfold tableIn at hi2
    rw [Bool.and_eq_true] at hi2
    have hl : rows.length = rowsN h.c.toNat := of_decide_eq_true hi2.2
    have hb := HV.of_ok hi2.1
    obtain ⟨h1, h2⟩ := tabTo_ok (by omega) _ hf
    refine ⟨hi2.1, hl, h1, ?_⟩
    rw [h2, hl]
    unfold rowsN
    omega
  · cases hf

/- What image stands on a device. -/
def openH (d : DV) : HV := headOf (bytesOf (d.seen.getD 0 []))
def openR (d : DV) (k : Nat) : ByteArray := bytesOf (d.seen.getD (1 + k) [])
def openRs (d : DV) : List ByteArray := (List.range (rowsN (openH d).c.toNat)).map (openR d)
def openF (d : DV) : Int :=
  if headF (bytesOf (d.seen.getD 0 [])) = 0 then (if d.fl.length < needN (openH d) then 1 else tableF (openH d) (openRs d)) else headF (bytesOf (d.seen.getD 0 []))
def openV (d : DV) : IV := ⟨d, openH d, tableT (openH d) (openRs d), []⟩

theorem headF_ok {s : ByteArray} (h : headF s = 0) : (headOf s).ok = true := by
  unfold headF at h
  split at h
  · next hs =>
    split at h
    · next hg =>
      unfold headOf
      rw [if_pos ⟨hs, hg⟩]
      unfold headGood at hg
      rw [Bool.and_eq_true] at hg
      exact hg.1
    · cases h
  · next hs => exact absurd h hs

theorem open_ok {d : DV} {m : Nat} (hd : d.fine d.fl.length m) (hf : openF d = 0) : (openV d).ok m ∧ GoodT (openH d) (openV d).t := by
  unfold openF at hf
  split at hf
  · next h1 =>
    split at hf
    · cases hf
    · next h2 =>
      obtain ⟨h3, h4, h5, h6⟩ := tableT_good hf
      exact ⟨⟨hd, h3, h6, h5.ents, by show needN (openH d) ≤ d.fl.length; omega, (fun q hq => by cases hq), Nat.zero_le _⟩, h5⟩
  · next h1 => exact absurd hf h1
end Go.Proofs.Ytncjnjlakhohgaa

namespace Go.Proofs.Ytncjnjlakhohgaa
open Go.RowKit

/- A sector's versions: what was flushed, or a write that is pending. -/
def DV.ver (d : DV) (i : Nat) (s : List UInt8) : Prop := s = d.fl.getD i [] ∨ ∃ x ∈ d.pend, x.1 = i ∧ x.2 = s

theorem getD_set2 (l : List (List UInt8)) (j i : Nat) (v : List UInt8) : ((l.set j v).getD i [] = v ∧ j = i) ∨ (l.set j v).getD i [] = l.getD i [] := by
  by_cases h : j = i
  · subst h
    by_cases hl : j < l.length
    · left; refine ⟨?_, rfl⟩
      rw [List.getD_eq_getElem?_getD, List.getElem?_set_self hl]; rfl
    · right; rw [List.getD_eq_getElem?_getD, List.getD_eq_getElem?_getD, List.getElem?_eq_none (by rw [List.length_set]; omega), List.getElem?_eq_none (by omega)]
  · right; rw [List.getD_eq_getElem?_getD, List.getD_eq_getElem?_getD, List.getElem?_set_ne h]

theorem getD_set_ne (l : List (List UInt8)) {j i : Nat} (v : List UInt8) (h : j ≠ i) : (l.set j v).getD i [] = l.getD i [] := by
  rw [List.getD_eq_getElem?_getD, List.getD_eq_getElem?_getD, List.getElem?_set_ne h]

theorem pend_mem {p : List (Nat × List UInt8)} {k : Nat} (h : k < p.length) : p.getD k (0, []) ∈ p := by
  rw [List.getD_eq_getElem?_getD, List.getElem?_eq_getElem h]; exact List.getElem_mem _

theorem ver_set {d : DV} {l : List (List UInt8)} {k : Nat} (hk : k < d.pend.length) (h : ∀ i, d.ver i (l.getD i [])) : ∀ i, d.ver i ((l.set (d.pend.getD k (0, [])).1 (d.pend.getD k (0, [])).2).getD i []) := by
  intro i
  rcases getD_set2 l (d.pend.getD k (0, [])).1 i (d.pend.getD k (0, [])).2 with ⟨h1, h2⟩ | h1
  · rw [h1]; exact .inr ⟨_, pend_mem hk, h2, rfl⟩
  · rw [h1]; exact h i

theorem ver_setTo (d : DV) : ∀ k, k ≤ d.pend.length → ∀ i, d.ver i ((setTo d.pend d.fl k).getD i []) := by
  intro k
  induction k with
  | zero => intro _ i; exact .inl rfl
  | succ k ih => intro hk; exact ver_set (by omega) (ih (by omega))

theorem ver_keepTo (d : DV) (ks : List Bool) : ∀ k, k ≤ d.pend.length → ∀ i, d.ver i ((keepTo d.pend ks d.fl k).getD i []) := by
  intro k
  induction k with
  | zero => intro _ i; exact .inl rfl
  | succ k ih =>
    intro hk
    cases e : ks.getD k false with
    | true => rw [keepTo_yes e]; exact ver_set (by omega) (ih (by omega))
    | false => rw [keepTo_no e]; exact ih (by omega)

theorem ver_seen {d : DV} (hs : d.sn) (i : Nat) : d.ver i (d.seen.getD i []) := by
  rw [show d.seen = setTo d.pend d.fl d.pend.length from hs]; exact ver_setTo d _ (Nat.le_refl _) i

theorem ticked_same (d : DV) : d.ticked.fl = d.fl ∧ d.ticked.pend = d.pend ∧ d.ticked.seen = d.seen := by
  unfold DV.ticked; split <;> exact ⟨rfl, rfl, rfl⟩

theorem ver_put {d : DV} {j i : Nat} {s t : List UInt8} (h : (d.put j s).ver i t) : d.ver i t ∨ (j = i ∧ s = t) := by
  unfold DV.put at h
  split at h
  · exact .inl h
  · obtain ⟨e1, e2, _⟩ := ticked_same d
    rcases h with h | ⟨x, hx, h1, h2⟩
    · left; left; rw [h]; show d.ticked.fl.getD i [] = _; rw [e1]
    · have hx2 : x ∈ d.pend ++ [(j, s)] := by rw [← e2]; exact hx
      rcases List.mem_append.1 hx2 with h3 | h3
      · exact .inl (.inr ⟨x, h3, h1, h2⟩)
      · simp only [List.mem_singleton] at h3
        subst h3
        exact .inr ⟨h1, h2⟩

theorem seen_put_ne (d : DV) {j i : Nat} (s : List UInt8) (h : j ≠ i) : (d.put j s).seen.getD i [] = d.seen.getD i [] := by
  unfold DV.put
  split
  · rfl
  · show (d.ticked.seen.set j s).getD i [] = _
    rw [(ticked_same d).2.2, getD_set_ne _ _ h]

theorem seen_put_same (d : DV) {j : Nat} (s : List UInt8) (h : d.putF = 0) (hj : j < d.seen.length) : (d.put j s).seen.getD j [] = s := by
  have hf : d.fail ≠ 0 := by rcases d.putF_cases with ⟨_, h1⟩ | ⟨h1, _⟩; exact h1; omega
  unfold DV.put
  rw [if_neg hf]
  show (d.ticked.seen.set j s).getD j [] = _
  rw [(ticked_same d).2.2, List.getD_eq_getElem?_getD, List.getElem?_set_self hj]; rfl

theorem put_no {d : DV} (j : Nat) (s : List UInt8) (h : d.putF ≠ 0) : d.put j s = d.failing (-1) := by
  have hf : d.fail = 0 := by rcases d.putF_cases with ⟨h1, _⟩ | ⟨_, h1⟩; exact absurd h1 h; exact h1
  unfold DV.put; rw [if_pos hf]

/- Sectors that are written one after the other turn none below them. -/
theorem puts_low (d : DV) (a : Nat) (s : ByteArray) : ∀ k i, i < a → (∀ t, (d.puts a s k).1.ver i t → d.ver i t) ∧ (d.puts a s k).1.seen.getD i [] = d.seen.getD i [] := by
  intro k
  induction k with
  | zero => intro i _; exact ⟨fun t h => h, rfl⟩
  | succ k ih =>
    intro i hi
    obtain ⟨h1, h2⟩ := ih i hi
    by_cases h0 : (d.puts a s k).2 = 0
    · rw [DV.puts_yes h0]
      refine ⟨fun t h => ?_, ?_⟩
      · rcases ver_put h with h3 | h3
        · exact h1 t h3
        · omega
      · show ((d.puts a s k).1.put (a + k) (chunk s k)).seen.getD i [] = _
        rw [seen_put_ne _ _ (by omega)]; exact h2
    · rw [DV.puts_no h0 (k + 1) (by omega)]; exact ⟨h1, h2⟩

/- A table, some of whose entries have become absent or zero. -/
def Sub (U T : List (Int × Int)) : Prop := T.length = U.length ∧ ∀ c, T.getD c (0, 0) = U.getD c (0, 0) ∨ T.getD c (0, 0) = (0, 0) ∨ T.getD c (0, 0) = (1, 0)

theorem Sub.refl (U : List (Int × Int)) : Sub U U := ⟨rfl, fun _ => .inl rfl⟩

theorem entB_0 (p : Int) : entB 0 0 p = true := entB_yes (.inr ⟨.inl rfl, rfl⟩)
theorem entB_1 (p : Int) : entB 1 0 p = true := entB_yes (.inr ⟨.inr rfl, rfl⟩)

theorem mem_getD {l : List (Int × Int)} {e : Int × Int} (h : e ∈ l) : ∃ i, i < l.length ∧ l.getD i (0, 0) = e := by
  obtain ⟨i, hi, h1⟩ := List.getElem_of_mem h
  exact ⟨i, hi, by rw [List.getD_eq_getElem?_getD, List.getElem?_eq_getElem hi]; exact h1⟩

theorem GoodT.at {h : HV} {U : List (Int × Int)} (hg : GoodT h U) (c : Nat) : entB (U.getD c (0, 0)).1 (U.getD c (0, 0)).2 h.p = true := by
  by_cases hc : c < U.length
  · exact hg.ents _ (getD_mem hc)
  · rw [List.getD_eq_getElem?_getD, List.getElem?_eq_none (by omega)]; exact entB_0 _

theorem Sub.entB {h : HV} {U T : List (Int × Int)} (hg : GoodT h U) (hs : Sub U T) (c : Nat) : entB (T.getD c (0, 0)).1 (T.getD c (0, 0)).2 h.p = true := by
  rcases hs.2 c with e | e | e
  · rw [e]; exact hg.at c
  · rw [e]; exact entB_0 _
  · rw [e]; exact entB_1 _

theorem Sub.data {U T : List (Int × Int)} (hs : Sub U T) {c : Nat} (h2 : (T.getD c (0, 0)).1 = 2) : T.getD c (0, 0) = U.getD c (0, 0) := by
  rcases hs.2 c with e | e | e
  · exact e
  · rw [e] at h2; cases h2
  · rw [e] at h2; cases h2

theorem Sub.good {h : HV} {U T : List (Int × Int)} (hg : GoodT h U) (hs : Sub U T) : GoodT h T := by
  refine ⟨fun e he => ?_, fun i j hij hj h2 heq => ?_⟩
  · obtain ⟨i, _, rfl⟩ := mem_getD he
    exact hs.entB hg i
  · have hjd := hs.data h2
    have hid : T.getD i (0, 0) = U.getD i (0, 0) := hs.data (by rw [heq]; exact h2)
    exact hg.once i j hij (by rw [← hs.1]; exact hj) (by rw [← hjd]; exact h2) (by rw [← hid, heq, hjd])

/- A row depends on its own entries. -/
theorem rowS_congr {T T' : List (Int × Int)} {r : Nat} (hl : T.length = T'.length) (h : ∀ i, i < 8 → T.getD (r * 8 + i) (0, 0) = T'.getD (r * 8 + i) (0, 0)) : rowS T (r : Int) = rowS T' (r : Int) := by
  have e1 : rowIn T (r : Int) = rowIn T' (r : Int) := by unfold rowIn; rw [hl]
  have e2 : rowOk T ((r : Int)).toNat = rowOk T' ((r : Int)).toNat := by
    unfold rowOk
    rw [Bool.eq_iff_iff, List.all_eq_true, List.all_eq_true]
    constructor
    · intro g i hi
      have := g i hi
      rw [show ((r : Int)).toNat = r by omega] at this ⊢
      rw [← h i (List.mem_range.1 hi)]; exact this
    · intro g i hi
      have := g i hi
      rw [show ((r : Int)).toNat = r by omega] at this ⊢
      rw [h i (List.mem_range.1 hi)]; exact this
  have e3 : rowTo T ((r : Int)).toNat 8 = rowTo T' ((r : Int)).toNat 8 := by
    unfold rowTo
    apply List.map_congr_left
    intro j hj
    have hj' := List.mem_range.1 hj
    rw [show ((r : Int)).toNat = r by omega, h (j / 2) (by omega)]
  unfold rowS rowF
  rw [e1, e2, e3]

theorem row_ent {h : HV} {T : List (Int × Int)} (hk : h.ok = true) (hl : (T.length : Int) = h.c) (he : ∀ c, entB (T.getD c (0, 0)).1 (T.getD c (0, 0)).2 h.p = true) {r : Nat} (hr : r < rowsN T.length) {i : Nat} (hi : i < 8) :
    entAt (rowS T (r : Int)) i = T.getD (r * 8 + i) (0, 0) := by
  have hrow := row_good hk hl (fun e hm => by obtain ⟨j, _, rfl⟩ := mem_getD hm; exact he j) r hr
  have hb := HV.of_ok hk
  have hv := entB_of (he (r * 8 + i))
  have e1 : rowS T (r : Int) = strOfNums (rowTo T r 8) := by unfold rowS; rw [if_pos hrow.1]; rfl
  have key : ∀ j, j < 16 → 0 ≤ (rowTo T r 8).getD j 0 ∧ (rowTo T r 8).getD j 0 < 256 → bAt (strOfNums (rowTo T r 8)) j = (rowTo T r 8).getD j 0 := by
    intro j hj hbd
    have hjl : j < (rowTo T r 8).length := by rw [rowTo_len]; exact hj
    have e2 : (strOfNums (rowTo T r 8)).data.toList = (rowTo T r 8).map fun n => UInt8.ofNat n.toNat := by unfold strOfNums; simp
    unfold bAt
    have g : (rowTo T r 8).getD j 0 = (rowTo T r 8)[j] := by rw [List.getD_eq_getElem?_getD, List.getElem?_eq_getElem hjl]; rfl
    rw [g] at hbd ⊢
    rw [e2, List.getD_eq_getElem?_getD, List.getElem?_map, List.getElem?_eq_getElem hjl]
    simp only [Option.map_some, Option.getD_some, UInt8.toNat_ofNat']
    omega
  have g0 : (rowTo T r 8).getD (i * 2) 0 = (T.getD (r * 8 + i) (0, 0)).1 := by
    have a1 : i * 2 / 2 = i := by omega
    have a3 : i * 2 < 16 := by omega
    simp [rowTo, List.getD_eq_getElem?_getD, a3, a1, hi]
  have g1 : (rowTo T r 8).getD (i * 2 + 1) 0 = (T.getD (r * 8 + i) (0, 0)).2 := by
    have a1 : (i * 2 + 1) / 2 = i := by omega
    have a3 : i * 2 + 1 < 16 := by omega
    have a4 : (i * 2 + 1) % 2 = 1 := by omega
    simp [rowTo, List.getD_eq_getElem?_getD, a3, a1, hi, a4]
  unfold entAt
  rw [e1, key (i * 2) (by omega) (by rw [g0]; omega), key (i * 2 + 1) (by omega) (by rw [g1]; omega), g0, g1]
end Go.Proofs.Ytncjnjlakhohgaa
