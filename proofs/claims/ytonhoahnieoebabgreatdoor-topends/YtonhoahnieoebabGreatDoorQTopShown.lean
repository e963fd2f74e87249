/-
What a crash may leave of a sector: its versions; and that an image whose rows are versions of one table is opened (D1, D2), in plain words.
An image that is safe: whatever of its pending writes is lost, it is opened, and is safe again.
Behind each act an image that was safe is safe; and one that is made anew is.
What a sector of an image may be behind a crash: what it was at the last flush, or since (D2 to D4), in plain words.
Each act of TopImage, what it shows, and what a crash behind it shows, in plain words.
What is shown of an image's sector, and whether a text is among those that may be (TopImage's helpers).
-/
import Derived.Test.YtonhoahnieoebabGreatDoorQImgCreate
import Derived.Test.YtonhoahnieoebabGreatDoorQImgWrite
namespace Go.Proofs.YtonhoahnieoebabGreatDoor
open Go.RowKit

/- A sector's versions: what was flushed, or a write that is pending. -/
def DV.ver (d : DV) (i : Nat) (s : List UInt8) : Prop := s = d.fl.getD i [] ∨ ∃ x ∈ d.pend, x.1 = i ∧ x.2 = s

theorem getD_set2 (l : List (List UInt8)) (j i : Nat) (v : List UInt8) : ((l.set j v).getD i [] = v ∧ j = i) ∨ (l.set j v).getD i [] = l.getD i [] := by
  by_cases h : j = i
  · subst h
    by_cases hl : j < l.length
    · left; refine ⟨?_, rfl⟩
      rw [List.getD_eq_getElem?_getD, List.getElem?_set_self hl]; rfl
    · right; rw [List.getD_eq_getElem?_getD, List.getD_eq_getElem?_getD, List.getElem?_eq_none (by rw [List.length_set]; omega), List.getElem?_eq_none (by omega)]
  · right; rw [List.getD_eq_getElem?_getD, List.getD_eq_getElem?_getD, List.getElem?_set_ne h]

theorem getD_set_ne (l : List (List UInt8)) {j i : Nat} (v : List UInt8) (h : j ≠ i) : (l.set j v).getD i [] = l.getD i [] := by
  rw [List.getD_eq_getElem?_getD, List.getD_eq_getElem?_getD, List.getElem?_set_ne h]

theorem pend_mem {p : List (Nat × List UInt8)} {k : Nat} (h : k < p.length) : p.getD k (0, []) ∈ p := by
  rw [List.getD_eq_getElem?_getD, List.getElem?_eq_getElem h]; exact List.getElem_mem _

theorem ver_set {d : DV} {l : List (List UInt8)} {k : Nat} (hk : k < d.pend.length) (h : ∀ i, d.ver i (l.getD i [])) : ∀ i, d.ver i ((l.set (d.pend.getD k (0, [])).1 (d.pend.getD k (0, [])).2).getD i []) := by
  intro i
  rcases getD_set2 l (d.pend.getD k (0, [])).1 i (d.pend.getD k (0, [])).2 with ⟨h1, h2⟩ | h1
  · rw [h1]; exact .inr ⟨_, pend_mem hk, h2, rfl⟩
  · rw [h1]; exact h i

theorem ver_setTo (d : DV) : ∀ k, k ≤ d.pend.length → ∀ i, d.ver i ((setTo d.pend d.fl k).getD i []) := by
  intro k
  induction k with
  | zero => intro _ i; exact .inl rfl
  | succ k ih => intro hk; exact ver_set (by omega) (ih (by omega))

theorem ver_seen {d : DV} (hs : d.sn) (i : Nat) : d.ver i (d.seen.getD i []) := by
  rw [show d.seen = setTo d.pend d.fl d.pend.length from hs]; exact ver_setTo d _ (Nat.le_refl _) i

theorem ticked_same (d : DV) : d.ticked.fl = d.fl ∧ d.ticked.pend = d.pend ∧ d.ticked.seen = d.seen := by
  unfold DV.ticked; split <;> exact ⟨rfl, rfl, rfl⟩

theorem ver_put {d : DV} {j i : Nat} {s t : List UInt8} (h : (d.put j s).ver i t) : d.ver i t ∨ (j = i ∧ s = t) := by
  unfold DV.put at h
  split at h
  · exact .inl h
  · obtain ⟨e1, e2, _⟩ := ticked_same d
    rcases h with h | ⟨x, hx, h1, h2⟩
    · left; left; rw [h]; show d.ticked.fl.getD i [] = _; rw [e1]
    · have hx2 : x ∈ d.pend ++ [(j, s)] := by rw [← e2]; exact hx
      rcases List.mem_append.1 hx2 with h3 | h3
      · exact .inl (.inr ⟨x, h3, h1, h2⟩)
      · simp only [List.mem_singleton] at h3
        subst h3
        exact .inr ⟨h1, h2⟩

theorem seen_put_ne (d : DV) {j i : Nat} (s : List UInt8) (h : j ≠ i) : (d.put j s).seen.getD i [] = d.seen.getD i [] := by
  unfold DV.put
  split
  · rfl
  · show (d.ticked.seen.set j s).getD i [] = _
    rw [(ticked_same d).2.2, getD_set_ne _ _ h]

theorem seen_put_same (d : DV) {j : Nat} (s : List UInt8) (h : d.putF = 0) (hj : j < d.seen.length) : (d.put j s).seen.getD j [] = s := by
  have hf : d.fail ≠ 0 := by rcases d.putF_cases with ⟨_, h1⟩ | ⟨h1, _⟩; exact h1; omega
  unfold DV.put
  rw [if_neg hf]
  show (d.ticked.seen.set j s).getD j [] = _
  rw [(ticked_same d).2.2, List.getD_eq_getElem?_getD, List.getElem?_set_self hj]; rfl

theorem put_no {d : DV} (j : Nat) (s : List UInt8) (h : d.putF ≠ 0) : d.put j s = d.failing (-1) := by
  have hf : d.fail = 0 := by rcases d.putF_cases with ⟨h1, _⟩ | ⟨_, h1⟩; exact absurd h1 h; exact h1
  unfold DV.put; rw [if_pos hf]

/- Sectors that are written one after the other turn none below them. -/
theorem puts_low (d : DV) (a : Nat) (s : ByteArray) : ∀ k i, i < a → (∀ t, (d.puts a s k).1.ver i t → d.ver i t) ∧ (d.puts a s k).1.seen.getD i [] = d.seen.getD i [] := by
  intro k
  induction k with
  | zero => intro i _; exact ⟨fun t h => h, rfl⟩
  | succ k ih =>
    intro i hi
    obtain ⟨h1, h2⟩ := ih i hi
    by_cases h0 : (d.puts a s k).2 = 0
    · rw [DV.puts_yes h0]
      refine ⟨fun t h => ?_, ?_⟩
      · rcases ver_put h with h3 | h3
        · exact h1 t h3
        · omega
      · show ((d.puts a s k).1.put (a + k) (chunk s k)).seen.getD i [] = _
        rw [seen_put_ne _ _ (by omega)]; exact h2
    · rw [DV.puts_no h0 (k + 1) (by omega)]; exact ⟨h1, h2⟩

/- A table, some of whose entries have become absent or zero. -/
def Sub (U T : List (Int × Int)) : Prop := T.length = U.length ∧ ∀ c, T.getD c (0, 0) = U.getD c (0, 0) ∨ T.getD c (0, 0) = (0, 0) ∨ T.getD c (0, 0) = (1, 0)

theorem Sub.refl (U : List (Int × Int)) : Sub U U := ⟨rfl, fun _ => .inl rfl⟩

theorem entB_0 (p : Int) : entB 0 0 p = true := entB_yes (.inr ⟨.inl rfl, rfl⟩)
theorem entB_1 (p : Int) : entB 1 0 p = true := entB_yes (.inr ⟨.inr rfl, rfl⟩)

theorem mem_getD {l : List (Int × Int)} {e : Int × Int} (h : e ∈ l) : ∃ i, i < l.length ∧ l.getD i (0, 0) = e := by
  obtain ⟨i, hi, h1⟩ := List.getElem_of_mem h
  exact ⟨i, hi, by rw [List.getD_eq_getElem?_getD, List.getElem?_eq_getElem hi]; exact h1⟩

theorem GoodT.at {h : HV} {U : List (Int × Int)} (hg : GoodT h U) (c : Nat) : entB (U.getD c (0, 0)).1 (U.getD c (0, 0)).2 h.p = true := by
  by_cases hc : c < U.length
  · exact hg.ents _ (getD_mem hc)
  · rw [List.getD_eq_getElem?_getD, List.getElem?_eq_none (by omega)]; exact entB_0 _

theorem Sub.entB {h : HV} {U T : List (Int × Int)} (hg : GoodT h U) (hs : Sub U T) (c : Nat) : entB (T.getD c (0, 0)).1 (T.getD c (0, 0)).2 h.p = true := by
  rcases hs.2 c with e | e | e
  · rw [e]; exact hg.at c
  · rw [e]; exact entB_0 _
  · rw [e]; exact entB_1 _

theorem Sub.data {U T : List (Int × Int)} (hs : Sub U T) {c : Nat} (h2 : (T.getD c (0, 0)).1 = 2) : T.getD c (0, 0) = U.getD c (0, 0) := by
  rcases hs.2 c with e | e | e
  · exact e
  · rw [e] at h2; cases h2
  · rw [e] at h2; cases h2

theorem Sub.good {h : HV} {U T : List (Int × Int)} (hg : GoodT h U) (hs : Sub U T) : GoodT h T := by
  refine ⟨fun e he => ?_, fun i j hij hj h2 heq => ?_⟩
  · obtain ⟨i, _, rfl⟩ := mem_getD he
    exact hs.entB hg i
  · have hjd := hs.data h2
    have hid : T.getD i (0, 0) = U.getD i (0, 0) := hs.data (by rw [heq]; exact h2)
    exact hg.once i j hij (by rw [← hs.1]; exact hj) (by rw [← hjd]; exact h2) (by rw [← hid, heq, hjd])

/- A row depends on its own entries. -/
theorem rowS_congr {T T' : List (Int × Int)} {r : Nat} (hl : T.length = T'.length) (h : ∀ i, i < 8 → T.getD (r * 8 + i) (0, 0) = T'.getD (r * 8 + i) (0, 0)) : rowS T (r : Int) = rowS T' (r : Int) := by
  have e1 : rowIn T (r : Int) = rowIn T' (r : Int) := by unfold rowIn; rw [hl]
  have e2 : rowOk T ((r : Int)).toNat = rowOk T' ((r : Int)).toNat := by
    unfold rowOk
    rw [Bool.eq_iff_iff, List.all_eq_true, List.all_eq_true]
    constructor
    · intro g i hi
      have := g i hi
      rw [show ((r : Int)).toNat = r by omega] at this ⊢
      rw [← h i (List.mem_range.1 hi)]; exact this
    · intro g i hi
      have := g i hi
      rw [show ((r : Int)).toNat = r by omega] at this ⊢
      rw [h i (List.mem_range.1 hi)]; exact this
  have e3 : rowTo T ((r : Int)).toNat 8 = rowTo T' ((r : Int)).toNat 8 := by
    unfold rowTo
    apply List.map_congr_left
    intro j hj
    have hj' := List.mem_range.1 hj
    rw [show ((r : Int)).toNat = r by omega, h (j / 2) (by omega)]
  unfold rowS rowF
  rw [e1, e2, e3]

end Go.Proofs.YtonhoahnieoebabGreatDoor

namespace Go.Proofs.YtonhoahnieoebabGreatDoor
open Go.RowKit

structure Safe (v : IV) (U : List (Int × Int)) : Prop where
  good : GoodT v.h U
  sub : Sub U v.t
  head : ∀ s, v.d.ver 0 s → s = (sealS v.h.bytes).data.toList
  rows : ∀ r, r < rowsN v.t.length → ∀ s, v.d.ver (1 + r) s → ∃ T, Sub U T ∧ s = (rowS T (r : Int)).data.toList
  seen : ∀ r, r < rowsN v.t.length → v.d.seen.getD (1 + r) [] = (rowS v.t (r : Int)).data.toList

/- A device turns above its rows alone. -/
theorem Safe.low {v : IV} {U : List (Int × Int)} (hs : Safe v U) {d : DV} (h1 : ∀ i, i < 1 + rowsN v.t.length → ∀ t, d.ver i t → v.d.ver i t) (h2 : ∀ i, i < 1 + rowsN v.t.length → d.seen.getD i [] = v.d.seen.getD i []) (held : List Nat) : Safe ⟨d, v.h, v.t, held⟩ U :=
  ⟨hs.good, hs.sub, fun s h => hs.head s (h1 0 (by omega) s h), fun r hr s h => hs.rows r hr s (h1 (1 + r) (by have : r < rowsN v.t.length := hr; omega) s h), fun r hr => by
    show d.seen.getD (1 + r) [] = _
    rw [h2 (1 + r) (by have : r < rowsN v.t.length := hr; omega)]; exact hs.seen r hr⟩

theorem Safe.flush {v : IV} {U : List (Int × Int)} (hs : Safe v U) (hsn : v.d.sn) : Safe v.flush v.t := by
  have hone : ∀ i s, v.d.flushed.ver i s → s = v.d.seen.getD i [] := fun i s h => by
    rcases h with h | ⟨x, hx, _⟩
    · exact h
    · cases hx
  refine ⟨hs.sub.good hs.good, Sub.refl _, fun s h => ?_, fun r hr s h => ⟨v.t, Sub.refl _, ?_⟩, hs.seen⟩
  · rw [hone 0 s h]; exact hs.head _ (ver_seen hsn 0)
  · rw [hone _ s h]; exact hs.seen r hr

theorem Safe.set {v : IV} {U : List (Int × Int)} {m : Nat} (hs : Safe v U) (hok : v.ok m) {c : Nat} (hc : c < v.t.length) {e : Int × Int} (he : e = U.getD c (0, 0) ∨ e = (0, 0) ∨ e = (1, 0)) : Safe (v.set c e) U := by
  have hb := (begin_le hok.h hok.need).1
  have hnl : v.h.c.toNat = v.t.length := by have := hok.len; omega
  rw [hnl] at hb
  have hcr := rows_lt hc
  have gs : ∀ k, (v.t.set c e).getD k (0, 0) = (if c = k then e else v.t.getD k (0, 0)) := fun k => by
    rw [List.getD_eq_getElem?_getD, List.getD_eq_getElem?_getD]
    by_cases h : c = k
    · subst h; rw [List.getElem?_set_self hc, if_pos rfl]; rfl
    · rw [List.getElem?_set_ne h, if_neg h]
  have hsub : Sub U (v.t.set c e) := ⟨by rw [List.length_set]; exact hs.sub.1, fun k => by
    rw [gs k]
    split
    · next h => subst h; exact he
    · exact hs.sub.2 k⟩
  unfold IV.set
  by_cases h0 : v.d.putF = 0
  · rw [if_pos h0]
    refine ⟨hs.good, hsub, fun s h => ?_, fun r hr s h => ?_, fun r hr => ?_⟩
    · rcases ver_put h with h1 | ⟨h1, _⟩
      · exact hs.head s h1
      · omega
    · have hr2 : r < rowsN v.t.length := by have : r < rowsN (v.t.set c e).length := hr; rw [List.length_set] at this; exact this
      rcases ver_put h with h1 | ⟨h1, h2⟩
      · exact hs.rows r hr2 s h1
      · have : r = c / 8 := by omega
        subst this
        exact ⟨_, hsub, h2.symm⟩
    · have hr2 : r < rowsN v.t.length := by have : r < rowsN (v.t.set c e).length := hr; rw [List.length_set] at this; exact this
      show (v.setD c e).seen.getD (1 + r) [] = (rowS (v.t.set c e) (r : Int)).data.toList
      unfold IV.setD
      by_cases hrc : r = c / 8
      · subst hrc
        exact seen_put_same _ _ h0 (by have := hok.d.ok.same; omega)
      · rw [seen_put_ne _ _ (by omega), hs.seen r hr2]
        congr 2
        refine rowS_congr (by rw [List.length_set]) fun i hi => ?_
        rw [gs, if_neg (by omega)]
  · rw [if_neg h0]
    unfold IV.setD
    rw [put_no _ _ h0]
    exact hs.low (d := v.d.failing (-1)) (fun i _ t h => h) (fun i _ => rfl) _
end Go.Proofs.YtonhoahnieoebabGreatDoor

namespace Go.Proofs.YtonhoahnieoebabGreatDoor
open Go.RowKit

theorem begin_low {v : IV} {m : Nat} (hok : v.ok m) (q : Nat) : 1 + rowsN v.t.length ≤ beginN v.h q := by
  have : v.h.c.toNat = v.t.length := by have := hok.len; omega
  unfold beginN
  rw [this]; omega

theorem Safe.puts {v : IV} {U : List (Int × Int)} (hs : Safe v U) {a : Nat} (ha : 1 + rowsN v.t.length ≤ a) (s : ByteArray) (k : Nat) : Safe { v with d := (v.d.puts a s k).1 } U :=
  hs.low (fun i hi t h => (puts_low v.d a s k i (by omega)).1 t h) (fun i hi => (puts_low v.d a s k i (by omega)).2) _

theorem Safe.write {v : IV} {U : List (Int × Int)} {m : Nat} (hs : Safe v U) (hok : v.ok m) (c fr : Int) (s : ByteArray) : Safe (v.write c fr s) U := by
  unfold IV.write
  split
  · unfold IV.writeD
    exact hs.puts (by have := begin_low hok (v.ent c).2.toNat; omega) s _
  · exact hs

theorem Safe.clear {v : IV} {U : List (Int × Int)} {m : Nat} (hs : Safe v U) (hok : v.ok m) (c : Int) : Safe (v.clear c) U := by
  unfold IV.clear
  split
  · next h =>
    obtain ⟨h1, h2⟩ := IV.there_of h.1
    exact hs.set hok (by omega) (.inr (.inr rfl))
  · exact hs

theorem Safe.fail {v : IV} {U : List (Int × Int)} (hs : Safe v U) (n : Int) : Safe { v with d := v.d.failing n } U :=
  hs.low (d := v.d.failing n) (fun _ _ _ h => h) (fun _ _ => rfl) _

theorem Safe.fill {v : IV} {U : List (Int × Int)} {m : Nat} (hs : Safe v U) (hok : v.ok m) (hm : m + 10 ≤ 1000000000) (c : Int) (s : ByteArray) : ∃ U', Safe (v.fill c s) U' := by
  unfold IV.fill
  split
  · next h1 =>
    split
    · exact ⟨U, hs⟩
    · next h2 =>
      cases hq : v.freeL with
      | nil => exact ⟨U, hs⟩
      | cons q tl =>
        have hs2 : Safe { v with d := (v.fillD q s).1 } U := by
          unfold IV.fillD
          exact hs.puts (by have := begin_low hok q; omega) s 4
        show ∃ U', Safe (if (v.fillD q s).2 = 0 then (v.fillV q s).set c.toNat (2, (q : Int)) else { v with d := (v.fillD q s).1 }) U'
        by_cases h0 : (v.fillD q s).2 = 0
        · rw [if_pos h0]
          have hqm : q ∈ v.freeL := by rw [hq]; exact List.mem_cons_self
          have hfd := hok.fillD hqm h1.2 hm
          have hs3 : Safe (v.fillV q s) v.t := hs2.flush hfd.sn
          obtain ⟨t0, t1⟩ := IV.there_of h1.1
          have hc : c.toNat < v.t.length := by omega
          have hcd : v.t.getD c.toNat (0, 0) = (0, 0) ∨ v.t.getD c.toNat (0, 0) = (1, 0) := by
            have hb := entB_of (hok.ent h1.1)
            unfold IV.ent at hb h2
            generalize v.t.getD c.toNat (0, 0) = y at hb h2 ⊢
            obtain ⟨y0, y1⟩ := y
            simp only at hb h2
            rcases hb with hb | ⟨hb | hb, hb2⟩
            · exact absurd hb.1 h2
            · left; rw [hb, hb2]
            · right; rw [hb, hb2]
          have hop := (IV.freeTo_mem hqm).2
          unfold IV.openB IV.usedB at hop
          simp only [Bool.and_eq_true, Bool.not_eq_true', List.any_eq_false, decide_eq_true_eq] at hop
          have gs : ∀ k, (v.t.set c.toNat (2, (q : Int))).getD k (0, 0) = (if c.toNat = k then (2, (q : Int)) else v.t.getD k (0, 0)) := fun k => by
            rw [List.getD_eq_getElem?_getD, List.getD_eq_getElem?_getD]
            by_cases h : c.toNat = k
            · subst h; rw [List.getElem?_set_self hc, if_pos rfl]; rfl
            · rw [List.getElem?_set_ne h, if_neg h]
          have hgood : GoodT v.h (v.t.set c.toNat (2, (q : Int))) := by
            refine ⟨ents_set hs3.good.ents _ _ (free_ent hok hqm), fun i j hij hj hd heq => ?_⟩
            rw [List.length_set] at hj
            rw [gs j] at hd heq
            rw [gs i] at heq
            by_cases hi2 : c.toNat = i
            · rw [if_pos hi2, if_neg (by omega)] at heq
              exact hop.1 _ (getD_mem hj) heq.symm
            · rw [if_neg hi2] at heq
              by_cases hj2 : c.toNat = j
              · rw [if_pos hj2] at heq
                exact hop.1 _ (getD_mem (by omega)) heq
              · rw [if_neg hj2] at heq hd
                exact hs3.good.once i j hij hj hd heq
          have hsub : Sub (v.t.set c.toNat (2, (q : Int))) v.t := ⟨by rw [List.length_set], fun k => by
            rw [gs k]
            by_cases h : c.toNat = k
            · subst h; exact .inr hcd
            · rw [if_neg h]; exact .inl rfl⟩
          have hone : ∀ i x, (v.fillV q s).d.ver i x → x = (v.fillV q s).d.seen.getD i [] := fun i x h => by
            rcases h with h | ⟨x, hx, _⟩
            · exact h
            · cases hx
          have hs4 : Safe (v.fillV q s) (v.t.set c.toNat (2, (q : Int))) := ⟨hgood, hsub, hs3.head, fun r hr x h => ⟨v.t, hsub, by rw [hone _ x h]; exact hs3.seen r hr⟩, hs3.seen⟩
          exact ⟨_, hs4.set (hok.fillV hqm h1.2 hm) (c := c.toNat) hc (.inl (by rw [gs, if_pos rfl]))⟩
        · rw [if_neg h0]; exact ⟨U, hs2⟩
  · exact ⟨U, hs⟩

/- A head between two flushes. -/
theorem safe_head {v : IV} {m : Nat} (hok : v.ok m) (hg : GoodT v.h v.t) (hse : ∀ r, r < rowsN v.t.length → v.d.seen.getD (1 + r) [] = (rowS v.t (r : Int)).data.toList) {h : HV} (hp : h.p = v.h.p) (h0 : v.flush.d.putF = 0) : Safe (v.headV h) v.t := by
  unfold IV.headV
  rw [if_pos h0]
  have hb := (begin_le hok.h hok.need).1
  have hsm := hok.d.ok.same
  have hone : ∀ i x, (v.flush.d.put 0 (sealS h.bytes).data.toList).flushed.ver i x → x = (v.flush.d.put 0 (sealS h.bytes).data.toList).seen.getD i [] := fun i x hx => by
    rcases hx with hx | ⟨y, hy, _⟩
    · exact hx
    · cases hy
  have hrow : ∀ r, r < rowsN v.t.length → (v.flush.d.put 0 (sealS h.bytes).data.toList).seen.getD (1 + r) [] = (rowS v.t (r : Int)).data.toList := fun r hr => by
    rw [seen_put_ne _ _ (by omega)]; exact hse r hr
  refine ⟨⟨fun e he => ?_, hg.once⟩, Sub.refl _, fun s hs => ?_, fun r hr s hs => ⟨v.t, Sub.refl _, ?_⟩, hrow⟩
  · show entB e.1 e.2 h.p = true
    rw [hp]; exact hg.ents e he
  · rw [hone 0 s hs, seen_put_same _ _ h0 (by show 0 < v.d.seen.length; omega)]
  · rw [hone _ s hs]; exact hrow r hr

theorem Safe.link {v : IV} {U : List (Int × Int)} {m : Nat} (hs : Safe v U) (hok : v.ok m) (b : Int) : ∃ U', Safe (v.link b) U' := by
  unfold IV.link
  split
  · by_cases h0 : v.flush.d.putF = 0
    · exact ⟨_, safe_head hok (hs.sub.good hs.good) hs.seen rfl h0⟩
    · refine ⟨v.t, ?_⟩
      unfold IV.headV
      rw [if_neg h0, put_no _ _ h0]
      exact (hs.flush hok.d.sn).low (d := v.flush.d.failing (-1)) (fun i _ t h => h) (fun i _ => rfl) _
  · exact ⟨U, hs⟩

theorem rowsP_seen {d : DV} {t : List (Int × Int)} (hl : ∀ k, k ≤ rowsN t.length → (d.rowsP t k).1.seen.length = d.seen.length) (hn : rowsN t.length < d.seen.length) : ∀ k, k ≤ rowsN t.length → (d.rowsP t k).2 = 0 → ∀ r, r < k → (d.rowsP t k).1.seen.getD (1 + r) [] = (rowS t (r : Int)).data.toList := by
  intro k
  induction k with
  | zero => intro _ _ r hr; omega
  | succ k ih =>
    intro hk h0 r hr
    by_cases e0 : (d.rowsP t k).2 = 0
    · rw [DV.rowsP_yes e0] at h0 ⊢
      show ((d.rowsP t k).1.put (1 + k) (rowS t (k : Int)).data.toList).seen.getD (1 + r) [] = _
      by_cases hrk : r = k
      · subst hrk
        exact seen_put_same _ _ h0 (by rw [hl r (by omega)]; omega)
      · rw [seen_put_ne _ _ (by omega)]
        exact ih (by omega) e0 r (by omega)
    · rw [DV.rowsP_no e0 (k + 1) (by omega)] at h0
      exact absurd h0 e0

theorem crV_safe {d : DV} {m : Nat} {h : HV} (hd : d.fine d.fl.length m) (hk : h.ok = true) (hn : needN h ≤ d.fl.length) (hm : m + 20 < 1000000000) (hf : crF d h = 0) : Safe (crV d h) (crT h) := by
  unfold crF at hf
  rw [if_pos hk, if_neg (by omega)] at hf
  by_cases h0 : (crD d h).2 = 0
  · rw [if_pos h0] at hf
    have hok := crV0_ok hd hk hn (by omega)
    have hcl := crT_len h hk
    have hrl : rowsN (crT h).length = rowsN h.c.toNat := by unfold crT; rw [List.length_replicate]
    have hb := (begin_le hk hn).1
    refine safe_head (v := crV0 d h) hok ⟨crT_ents h, fun i j hij hj h2 => ?_⟩ (fun r hr => ?_) rfl hf
    · have : (crV0 d h).t.getD j (0, 0) = (0, 0) := by
        show (List.replicate h.c.toNat ((0 : Int), (0 : Int))).getD j (0, 0) = _
        rw [List.getD_eq_getElem?_getD]
        by_cases hj2 : j < h.c.toNat
        · rw [List.getElem?_replicate, if_pos hj2]; rfl
        · rw [List.getElem?_replicate, if_neg hj2]; rfl
      rw [this] at h2; cases h2
    · have hsl : ∀ k, k ≤ rowsN (crT h).length → (d.rowsP (crT h) k).1.seen.length = d.seen.length := fun k hk2 => by
        have hx := crD_fine hd hk hn (by omega) k (by rw [← hrl]; exact hk2)
        rw [hx.ok.same, hx.len, hd.ok.same]
      have := rowsP_seen hsl (by rw [hrl, hd.ok.same]; omega) (rowsN (crT h).length) (Nat.le_refl _) (by rw [hrl]; exact h0) r hr
      rw [hrl] at this
      exact this
  · rw [if_neg h0] at hf; exact absurd hf h0
end Go.Proofs.YtonhoahnieoebabGreatDoor

namespace Go.Proofs.YtonhoahnieoebabGreatDoor
open Go.RowKit

/- What is shown of an image's sector. -/
def IV.sh (v : IV) (k : Nat) : List UInt8 :=
  if (v.t.getD (k / 4) (0, 0)).1 = 2 then v.d.seen.getD (beginN v.h (v.t.getD (k / 4) (0, 0)).2.toNat + k % 4) []
  else if (v.t.getD (k / 4) (0, 0)).1 = 1 then noughts else [45]

theorem div4 {c j : Nat} (h : j < 4) : (4 * c + j) / 4 = c ∧ (4 * c + j) % 4 = j := by omega

theorem sh_at (v : IV) (c j : Nat) (h : j < 4) : v.sh (4 * c + j) = if (v.t.getD c (0, 0)).1 = 2 then v.d.seen.getD (beginN v.h (v.t.getD c (0, 0)).2.toNat + j) [] else if (v.t.getD c (0, 0)).1 = 1 then noughts else [45] := by
  unfold IV.sh
  rw [(div4 h).1, (div4 h).2]

theorem puts_seen_out (d : DV) (a : Nat) (s : ByteArray) : ∀ k i, i < a ∨ a + k ≤ i → (d.puts a s k).1.seen.getD i [] = d.seen.getD i [] := by
  intro k
  induction k with
  | zero => intro i _; rfl
  | succ k ih =>
    intro i hi
    by_cases h0 : (d.puts a s k).2 = 0
    · rw [DV.puts_yes h0]
      show ((d.puts a s k).1.put (a + k) (chunk s k)).seen.getD i [] = _
      rw [seen_put_ne _ _ (by omega)]; exact ih i (by omega)
    · rw [DV.puts_no h0 (k + 1) (by omega)]; exact ih i (by omega)

/- A row's write turns no place. -/
theorem begin_row {v : IV} {m : Nat} (hok : v.ok m) {c q j : Nat} (hc : c < v.t.length) : 1 + c / 8 ≠ beginN v.h q + j := by
  have := begin_low hok q
  have := rows_lt hc
  omega

theorem getD_tset (t : List (Int × Int)) {c : Nat} (hc : c < t.length) (e : Int × Int) (k : Nat) : (t.set c e).getD k (0, 0) = if c = k then e else t.getD k (0, 0) := by
  rw [List.getD_eq_getElem?_getD, List.getD_eq_getElem?_getD]
  by_cases h : c = k
  · subst h; rw [List.getElem?_set_self hc, if_pos rfl]; rfl
  · rw [List.getElem?_set_ne h, if_neg h]

end Go.Proofs.YtonhoahnieoebabGreatDoor

namespace Go.Proofs.YtonhoahnieoebabGreatDoor
open Go.RowKit

theorem puts_len {d : DV} {m : Nat} (hd : d.fine d.fl.length m) {a : Nat} {s : ByteArray} {c : Nat} (hs : s.size = c * 16) (ha : a + c ≤ d.fl.length) (hm : m + c < 1000000000) : ∀ k, k ≤ c → (d.puts a s k).1.seen.length = d.seen.length := fun k hk => by
  have := hd.puts hs ha hm k hk
  rw [this.ok.same, this.len, hd.ok.same]

end Go.Proofs.YtonhoahnieoebabGreatDoor

namespace Go.Proofs.YtonhoahnieoebabGreatDoor
open Go.RowKit Go.Maps
attribute [local go_sem ↓] Go.wp_at_zero Go.wp_at_succ

set_option maxRecDepth 100000 in
set_option maxHeartbeats 1000000 in
theorem worth_has {B : Nat} {vs : Value} {l : List (List UInt8)} (s : List UInt8) (w : World) (ho : w.ownsRow B 9 1 vs l.length (flS l)) (hs : s ∈ l) (hl : l.length ≤ 1000) :
    Calls Tryz.prog 145 #[vs, .string (bytesOf s)] w fun e w' => e = .returned (.bool true) ∧ w' = w := by
  obtain ⟨i0, hi0, hget⟩ := List.getElem_of_mem hs
  have HG : Hid (l.getD i0 [] = s) := by unfold Hid; rw [List.getD_eq_getElem?_getD, List.getElem?_eq_getElem hi0]; exact hget
  obtain ⟨a, cap, hsh⟩ := ownsRow_shape ho
  have HC : Hid (∀ k, k < l.length → ∃ g, a = some ⟨g, 0, none⟩ ∧ w.cell? ⟨g, k, none⟩ = some (.string (bytesOf (l.getD k [])))) := fun k hk => by
    obtain ⟨g, cap2, h1, h2, _⟩ := ownsRow_cell ho k hk
    rw [hsh] at h1
    cases h1
    exact ⟨g, rfl, by rw [h2, flS_at l k hk]⟩
  subst hsh
  clear ho hs hget
  generalize l.length = n at HC hi0 hl ⊢
  go_enter Tryz.func145, Tryz.ntmps145
  go_wp2
  go_loopw [5] (fun i wr => ∃ k : Nat, k ≤ i0 ∧ i = .int .i64 k ∧ Hid (wr = w)) (fun i _ => n - (intOf i).toNat)
  case atStart => exact ⟨0, Nat.zero_le _, rfl, rfl⟩
  case round =>
    obtain ⟨k, hk, rfl, HW⟩ := hrel
    have hkn : k < n := by omega
    obtain ⟨g, rfl, hc0⟩ := HC.out k hkn
    obtain ⟨t, HT⟩ : ∃ t, Hid (t = bytesOf (l.getD k [])) := ⟨_, rfl⟩
    have hc : wr.cell? ⟨g, k, none⟩ = some (.string t) := by rw [HW.out, HT.out]; exact hc0
    clear hc0
    have k0 : (0 : Int) ≤ (k : Int) := by omega
    have k1 : (k : Int) < (n : Int) := by omega
    obtain ⟨u, HU⟩ : ∃ u, Hid (u = bytesOf s) := ⟨_, rfl⟩
    rw [← HU.out]
    cases hq : (t.toList == u.toList) with
    | true =>
      go_wp2
      go_ret
      exact ⟨rfl, HW.out⟩
    | false =>
      have hne : k ≠ i0 := fun e => by
        rw [HT.out, HU.out, e, HG.out] at hq
        simp at hq
      go_wp2
      go_roundw
      case rel =>
        have fin : ∃ k' : Nat, k' ≤ i0 ∧ Value.int .i64 ((k : Int) + 1) = .int .i64 k' ∧ Hid (wr = w) := ⟨k + 1, by omega, by go_num, HW.out⟩
        first | exact fin | ((repeat apply Exists.intro); exact ⟨fin, rfl⟩)
      case measure => simp [intOf]; omega
end Go.Proofs.YtonhoahnieoebabGreatDoor
