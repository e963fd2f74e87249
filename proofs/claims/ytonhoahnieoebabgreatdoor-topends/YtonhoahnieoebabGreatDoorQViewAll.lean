/-
What is seen of a sector through a chain (G2), and that it is what is read.
What is seen through a chain behind a part that is put or wiped, well or not (G3).
What is seen through a chain behind sectors of one cluster that are laid in its first file, or a cluster that is cleared there: well, or not (G3).
What is seen through a chain behind a range of sectors that is put or wiped: well, it is as it should be; else each of its sectors is as it was, or as it should be (G3).
A whole range that is put or wiped, as it is seen through a chain (G3).
-/
import Derived.Test.YtonhoahnieoebabGreatDoorQShowPlain
import Derived.Test.YtonhoahnieoebabGreatDoorQYardWalk
import Derived.Test.YtonhoahnieoebabGreatDoorQYardOk2
namespace Go.Proofs.YtonhoahnieoebabGreatDoor
open Go.RowKit

def SV.view (s : SV) (c j : Nat) : List Int → List UInt8
  | [] => noughts
  | n :: r => match s.file n with
    | none => s.view c j r
    | some v => if (v.t.getD c (0, 0)).1 = 0 then s.view c j r else v.shE (v.t.getD c (0, 0)) j

theorem entE_nat (v : IV) (c : Nat) : v.entE (c : Int) = v.t.getD c (0, 0) := by
  unfold IV.entE
  by_cases h : v.there (c : Int) = true
  · rw [if_pos h]; rfl
  · rw [if_neg h]
    have h2 : ¬ (0 ≤ (c : Int) ∧ (c : Int) < v.t.length) := IV.there_no (by simpa using h)
    rw [List.getD_eq_getElem?_getD, List.getElem?_eq_none (by omega)]; rfl

theorem view_seenAt (s : SV) (c j : Nat) : ∀ l, (s.seenAt (c : Int) l = none ∧ s.view c j l = noughts) ∨ ∃ v, s.seenAt (c : Int) l = some v ∧ (v.t.getD c (0, 0)).1 ≠ 0 ∧ s.view c j l = v.shE (v.t.getD c (0, 0)) j ∧ ∃ n ∈ l, s.file n = some v := by
  intro l
  induction l with
  | nil => exact .inl ⟨rfl, rfl⟩
  | cons n r ih =>
    unfold SV.seenAt SV.view
    cases hf : s.file n with
    | none =>
      have : kindO (none : Option IV) (c : Int) = 0 := rfl
      rw [if_pos this]
      rcases ih with h | ⟨v, h1, h2, h3, k, hk, h4⟩
      · exact .inl h
      · exact .inr ⟨v, h1, h2, h3, k, List.mem_cons_of_mem _ hk, h4⟩
    | some v =>
      have hk : kindO (some v) (c : Int) = (v.t.getD c (0, 0)).1 := by show (v.entE (c : Int)).1 = _; rw [entE_nat]
      rw [hk]
      by_cases g : (v.t.getD c (0, 0)).1 = 0
      · simp only [g, if_true]
        rcases ih with h | ⟨v, h1, h2, h3, k, hk, h4⟩
        · exact .inl h
        · exact .inr ⟨v, h1, h2, h3, k, List.mem_cons_of_mem _ hk, h4⟩
      · simp only [g, if_false]
        exact .inr ⟨v, rfl, g, rfl, n, List.mem_cons_self, hf⟩

theorem chunk_place {d : DV} {a n m : Nat} (hd : d.fine n m) (ha : a + 4 ≤ n) {j : Nat} (hj : j < 4) : chunk (bytesOf (placeL d a 4)) j = d.seen.getD (a + j) [] := by
  have hs := hd.ok.same
  have hl := hd.len
  have g : ∀ k, k < 4 → (d.seen.getD (a + k) []).length = 16 := fun k hk => by
    have hx : a + k < d.seen.length := by omega
    rw [List.getD_eq_getElem?_getD, List.getElem?_eq_getElem hx]; exact hd.ok.l2 _ (List.getElem_mem hx)
  have e : placeL d a 4 = d.seen.getD (a + 0) [] ++ d.seen.getD (a + 1) [] ++ d.seen.getD (a + 2) [] ++ d.seen.getD (a + 3) [] := by
    show (((([] ++ d.seen.getD (a + 0) []) ++ d.seen.getD (a + 1) []) ++ d.seen.getD (a + 2) []) ++ d.seen.getD (a + 3) []) = _
    rw [List.nil_append]
  have g0 := g 0 (by omega)
  have g1 := g 1 (by omega)
  have g2 := g 2 (by omega)
  have g3 := g 3 (by omega)
  have cut : ∀ (p x q : List UInt8) (k : Nat), p.length = k → x.length = 16 → ((p ++ x ++ q).drop k).take 16 = x := fun p x q k hp hx => by
    rw [List.append_assoc, ← hp, List.drop_left, ← hx, List.take_left]
  show ((placeL d a 4).drop (j * 16)).take 16 = _
  rw [e]
  clear e
  rcases (show j = 0 ∨ j = 1 ∨ j = 2 ∨ j = 3 by omega) with h | h | h | h
  all_goals
    subst h
    generalize d.seen.getD (a + 0) [] = x0 at *
    generalize d.seen.getD (a + 1) [] = x1 at *
    generalize d.seen.getD (a + 2) [] = x2 at *
    generalize d.seen.getD (a + 3) [] = x3 at *
  · have := cut [] x0 (x1 ++ x2 ++ x3) 0 rfl g0
    rw [List.nil_append] at this
    rw [List.append_assoc, List.append_assoc, ← List.append_assoc x1]; exact this
  · have := cut x0 x1 (x2 ++ x3) (1 * 16) (by rw [g0]) g1
    rw [List.append_assoc (x0 ++ x1)]; exact this
  · exact cut (x0 ++ x1) x2 x3 (2 * 16) (by rw [List.length_append, g0, g1]) g2
  · have := cut (x0 ++ x1 ++ x2) x3 [] (3 * 16) (by rw [List.length_append, List.length_append, g0, g1, g2]) g3
    rw [List.append_nil] at this
    exact this

theorem chunk_zero {j : Nat} (hj : j < 4) : chunk (bytesOf zeros64) j = noughts := by
  rcases (show j = 0 ∨ j = 1 ∨ j = 2 ∨ j = 3 by omega) with h | h | h | h <;> subst h <;> decide

theorem readS_sh {v : IV} {m : Nat} (hok : v.ok m) {c j : Nat} (h : (v.t.getD c (0, 0)).1 ≠ 0) (hj : j < 4) : chunk (bytesOf (v.readS (c : Int))) j = v.shE (v.t.getD c (0, 0)) j := by
  have hth : v.there (c : Int) = true ∧ (v.ent (c : Int)).1 ≠ 0 := IV.entE_there (by rw [entE_nat]; exact h)
  have he : v.ent (c : Int) = v.t.getD c (0, 0) := rfl
  unfold IV.readS IV.shE
  rw [if_pos hth.1, he]
  by_cases g : (v.t.getD c (0, 0)).1 = 2
  · rw [if_pos g, if_pos g]
    obtain ⟨_, _, p2⟩ := hok.place hth.1 g
    exact chunk_place hok.d p2 hj
  · rw [if_neg g, if_neg g]
    have hb := entB_of (hok.ent hth.1)
    have g1 : (v.t.getD c (0, 0)).1 = 1 := by
      rw [he] at hb
      rcases hb with hb | hb
      · exact absurd hb.1 g
      · rcases hb.1 with hb | hb
        · exact absurd hb h
        · exact hb
    rw [if_pos g1, if_pos g1]
    exact chunk_zero hj

/- What is read of a cluster is what is seen of its sectors. -/
theorem read_view {s : SV} {C m : Nat} {l : List Int} (hg : s.good (C : Int) l) (hok : s.ok m) (h0 : l ≠ []) {c j : Nat} (hc : c < C) (hj : j < 4) : chunk (s.read l (c : Int)).1 j = s.view c j l := by
  unfold SV.read
  rw [if_neg h0, hg.clusters h0, if_pos ⟨by omega, by omega⟩]
  rcases view_seenAt s c j l with ⟨h1, h2⟩ | ⟨v, h1, h2, h3, n, hn, h4⟩
  · rw [h1, h2]; exact chunk_zero hj
  · rw [h1, h3]
    exact readS_sh (hok _ _ (SV.file_of h4).2.2) h2 hj
end Go.Proofs.YtonhoahnieoebabGreatDoor

namespace Go.Proofs.YtonhoahnieoebabGreatDoor
open Go.RowKit

theorem view_other {s z : SV} {c j : Nat} : ∀ {l : List Int}, (∀ n ∈ l, z.file n = s.file n) → z.view c j l = s.view c j l := by
  intro l
  induction l with
  | nil => intro _; rfl
  | cons n r ih =>
    intro h
    unfold SV.view
    rw [h n List.mem_cons_self]
    cases s.file n with
    | none => exact ih fun k hk => h k (List.mem_cons_of_mem _ hk)
    | some v => simp only; rw [ih fun k hk => h k (List.mem_cons_of_mem _ hk)]

theorem view_head {s : SV} {c j : Nat} {n : Int} {r : List Int} {v : IV} (hf : s.file n = some v) : s.view c j (n :: r) = if (v.t.getD c (0, 0)).1 = 0 then s.view c j r else v.shE (v.t.getD c (0, 0)) j := by
  show (match s.file n with
    | none => s.view c j r
    | some v => if (v.t.getD c (0, 0)).1 = 0 then s.view c j r else v.shE (v.t.getD c (0, 0)) j) = _
  rw [hf]

/- The first file becomes another. -/
theorem view_upd {s : SV} {c j : Nat} {n : Int} {r : List Int} {v : IV} (hf : s.file n = some v) (hn : n ∉ r) (u : IV) : (s.upd n.toNat u).view c j (n :: r) = if (u.t.getD c (0, 0)).1 = 0 then s.view c j r else u.shE (u.t.getD c (0, 0)) j := by
  have h1 : (s.upd n.toNat u).file n = some u := by rw [SV.file_upd hf, if_pos rfl]
  rw [view_head h1, view_other (s := s) (fun k hk => by rw [SV.file_upd hf, if_neg (fun (e : k = n) => hn (e ▸ hk))])]

/- With the same kinds and what they show, the same is seen. -/
theorem view_same {s : SV} {c j : Nat} {n : Int} {r : List Int} {v u : IV} (hf : s.file n = some v) (hn : n ∉ r) (ht : u.t = v.t) (hj : j < 4) (hs : u.sh (4 * c + j) = v.sh (4 * c + j)) : (s.upd n.toNat u).view c j (n :: r) = s.view c j (n :: r) := by
  rw [view_upd hf hn, view_head hf, ht]
  rw [sh_ent _ _ _ hj, sh_ent _ _ _ hj, ht] at hs
  rw [hs]

/- The tables. -/
theorem write_t (v : IV) (c f : Int) (s : ByteArray) : (v.write c f s).t = v.t := by unfold IV.write; split <;> rfl
theorem fill_t_no {v : IV} {c : Int} {s : ByteArray} (h : v.fillF c s ≠ 0) : (v.fill c s).t = v.t := by
  unfold IV.fillF at h
  unfold IV.fill
  split
  · next hx =>
    rw [if_pos hx] at h
    split
    · rfl
    · next h2 =>
      rw [if_neg h2] at h
      cases hq : v.freeL with
      | nil => rfl
      | cons q tl =>
        rw [hq] at h
        simp only at h ⊢
        split
        · next hz => rw [if_pos hz] at h; exact set_t_no h
        · rfl
  · rfl
theorem fill_t_yes {v : IV} {c : Nat} {s : ByteArray} (h : v.fillF (c : Int) s = 0) : c < v.t.length ∧ ∃ q : Nat, (v.fill (c : Int) s).t = v.t.set c (2, (q : Int)) := by
  unfold IV.fillF at h
  unfold IV.fill
  split at h
  · next hx =>
    obtain ⟨_, t1⟩ := IV.there_of hx.1
    rw [if_pos hx]
    refine ⟨by omega, ?_⟩
    split at h
    · cases h
    · next h2 =>
      rw [if_neg h2]
      cases hq : v.freeL with
      | nil => rw [hq] at h; cases h
      | cons q tl =>
        rw [hq] at h
        simp only at h ⊢
        split at h
        · next hz => rw [if_pos hz]; exact ⟨q, set_t h⟩
        · next hz => exact absurd h hz
  · cases h
theorem clear_t_no {v : IV} {c : Int} (h : v.clearF c ≠ 0) : (v.clear c).t = v.t := by
  unfold IV.clearF at h
  unfold IV.clear
  split
  · next hx => rw [if_pos hx.1, if_neg hx.2] at h; exact set_t_no h
  · rfl
theorem clear_t_yes {v : IV} {c : Nat} (h : v.clearF (c : Int) = 0) (c2 : Nat) : (((v.clear (c : Int)).t.getD c2 (0, 0)).1 = if c = c2 then 1 else (v.t.getD c2 (0, 0)).1) ∧ c < v.t.length := by
  unfold IV.clearF at h
  unfold IV.clear
  split at h
  · next ht =>
    have hc := (IV.there_of ht).2
    refine ⟨?_, by omega⟩
    split at h
    · next h1 =>
      rw [if_neg (fun e => e.2 h1)]
      split
      · next e => subst e; exact h1
      · rfl
    · next h1 =>
      rw [if_pos ⟨ht, h1⟩, set_t h, getD_tset _ (by omega), show ((c : Int)).toNat = c by omega]
      split <;> rfl
  · cases h

/- Texts: a part of one in another. -/
theorem chunk_ext (t : ByteArray) (i : Nat) : chunk t i = (t.data.toList.drop (i * 16)).take 16 := rfl
theorem chunk_patch {old t : ByteArray} {f n : Nat} (ho : old.size = 64) (ht : t.size = n * 16) (hf : f + n ≤ 4) {j : Nat} (hj : j < 4) :
    chunk (old.extract 0 (f * 16) ++ t ++ old.extract (f * 16 + t.size) 64) j = if f ≤ j ∧ j < f + n then chunk t (j - f) else chunk old j := by
  rw [chunk_ext, chunk_ext, chunk_ext]
  have e : (old.extract 0 (f * 16) ++ t ++ old.extract (f * 16 + t.size) 64).data.toList = old.data.toList.take (f * 16) ++ t.data.toList ++ old.data.toList.drop ((f + n) * 16) := by
    rw [ByteArray.data_append, ByteArray.data_append, ByteArray.data_extract, ByteArray.data_extract, Array.toList_append, Array.toList_append, Array.toList_extract, Array.toList_extract, List.extract_eq_take_drop, List.extract_eq_take_drop, ht, show f * 16 + n * 16 = (f + n) * 16 by omega, List.drop_zero, Nat.sub_zero]
    congr 1
    exact List.take_of_length_le (by
      have : old.data.toList.length = 64 := by simpa using ho
      rw [List.length_drop, this]; omega)
  rw [e]
  have hol : old.data.toList.length = 64 := by simpa using ho
  have htl : t.data.toList.length = n * 16 := by simpa using ht
  generalize old.data.toList = O at hol ⊢
  generalize t.data.toList = T at htl ⊢
  split
  · next hx =>
    rw [List.append_assoc, List.drop_append, List.drop_eq_nil_of_le (by rw [List.length_take]; omega), List.nil_append, List.length_take, show j * 16 - min (f * 16) O.length = (j - f) * 16 by omega, List.drop_append_of_le_length (by omega), List.take_append_of_le_length (by rw [List.length_drop]; omega)]
  · next hx =>
    by_cases h1 : j < f
    · rw [List.append_assoc, List.drop_append_of_le_length (by rw [List.length_take]; omega), List.take_append_of_le_length (by rw [List.length_drop, List.length_take]; omega), List.drop_take, List.take_take, show min 16 (f * 16 - j * 16) = 16 by omega]
    · have h2 : f + n ≤ j := by omega
      rw [List.drop_append, List.drop_eq_nil_of_le (by rw [List.length_append, List.length_take]; omega), List.nil_append, List.length_append, List.length_take, List.drop_drop, show (f + n) * 16 + (j * 16 - (min (f * 16) O.length + T.length)) = j * 16 by omega]
end Go.Proofs.YtonhoahnieoebabGreatDoor

namespace Go.Proofs.YtonhoahnieoebabGreatDoor
open Go.RowKit

/- The first file of a chain, and the rest. -/
structure Top (s : SV) (C m : Nat) (n : Int) (r : List Int) (v : IV) : Prop where
  ok : s.ok m
  good : s.good (C : Int) (n :: r)
  file : s.file n = some v
  apart : n ∉ r
  tab : GoodT v.h v.t

theorem Top.vok {s : SV} {C m : Nat} {n : Int} {r : List Int} {v : IV} (h : Top s C m n r v) : v.ok m := h.ok _ _ (SV.file_of h.file).2.2
theorem Top.len {s : SV} {C m : Nat} {n : Int} {r : List Int} {v : IV} (h : Top s C m n r v) : v.t.length = C := by
  obtain ⟨u, h1, h2⟩ := h.good n List.mem_cons_self
  rw [h.file] at h1
  cases h1
  have := h.vok.len
  omega

/- What a range of a cluster is to be, and is at most. -/
def inR (c f k c2 j : Nat) : Prop := c = c2 ∧ f ≤ j ∧ j < f + k
instance (c f k c2 j : Nat) : Decidable (inR c f k c2 j) := by unfold inR; infer_instance

theorem lay_view {s : SV} {C m : Nat} {n : Int} {r : List Int} {v : IV} (h : Top s C m n r v) (hm : m + 10 ≤ 1000000000) {c f k : Nat} {t : ByteArray} (hc : c < C) (ht : t.size = k * 16) (hk : f + k ≤ 4) {c2 j : Nat} (hc2 : c2 < C) (hj : j < 4) :
    ((s.lay (n :: r) c f t).2 = 0 → (s.lay (n :: r) c f t).1.view c2 j (n :: r) = if inR c f k c2 j then chunk t (j - f) else s.view c2 j (n :: r)) ∧
    ((s.lay (n :: r) c f t).1.view c2 j (n :: r) = s.view c2 j (n :: r) ∨ inR c f k c2 j ∧ (s.lay (n :: r) c f t).1.view c2 j (n :: r) = chunk t (j - f)) := by
  have hv := h.vok
  have hl := h.len
  have hL : s.lay (n :: r) c f t = if (v.entE c).1 = 2 then (s.upd n.toNat (v.write c f t), v.writeF c f t) else
      (s.upd n.toNat (v.fill c ((s.read (n :: r) c).1.extract 0 (f * 16) ++ t ++ (s.read (n :: r) c).1.extract (f * 16 + t.size) 64)), v.fillF c ((s.read (n :: r) c).1.extract 0 (f * 16) ++ t ++ (s.read (n :: r) c).1.extract (f * 16 + t.size) 64)) := by
    unfold SV.lay
    simp only
    rw [h.file]
  rw [hL]
  clear hL
  by_cases g : (v.entE (c : Int)).1 = 2
  · rw [if_pos g]
    rw [entE_nat] at g
    have hw : wrOk v (c : Int) (f : Int) t = true := by
      unfold wrOk
      rw [Bool.and_eq_true]
      exact ⟨decide_eq_true ⟨by omega, by omega⟩, decide_eq_true ⟨by omega, by omega, by omega, by omega⟩⟩
    have hin := write_in hv h.tab hm hw g (c2 := c2) (j := j) (by omega) hj
    have hks : t.size / 16 = k := by omega
    rw [hks] at hin
    simp only
    by_cases hr : inR c f k c2 j
    · obtain ⟨e, h1, h2⟩ := hr
      subst e
      obtain ⟨a1, a2⟩ := hin.2 rfl h1 h2
      have hup : (s.upd n.toNat (v.write (c : Int) (f : Int) t)).view c j (n :: r) = (v.write (c : Int) (f : Int) t).sh (4 * c + j) := by
        rw [view_upd h.file h.apart, write_t, if_neg (by omega), sh_ent _ _ _ hj, write_t]
      have hup0 : s.view c j (n :: r) = v.sh (4 * c + j) := by
        rw [view_head h.file, if_neg (by omega), sh_ent _ _ _ hj]
      rw [hup, hup0, if_pos ⟨rfl, h1, h2⟩]
      refine ⟨a1, ?_⟩
      rcases a2 with a2 | a2
      · exact .inr ⟨⟨rfl, h1, h2⟩, a2⟩
      · exact .inl a2
    · have hs := view_same h.file h.apart (u := v.write (c : Int) (f : Int) t) (write_t _ _ _ _) hj (hin.1 hr)
      rw [if_neg hr, hs]
      exact ⟨fun _ => rfl, .inl rfl⟩
  · rw [if_neg g]
    rw [entE_nat] at g
    obtain ⟨_, r2⟩ := SV.read_yes h.good h.ok (List.cons_ne_nil _ _) (c := (c : Int)) ⟨by omega, by omega⟩
    have hpatch : ∀ i, i < 4 → chunk ((s.read (n :: r) c).1.extract 0 (f * 16) ++ t ++ (s.read (n :: r) c).1.extract (f * 16 + t.size) 64) i = if f ≤ i ∧ i < f + k then chunk t (i - f) else s.view c i (n :: r) := fun i hi => by
      rw [chunk_patch r2 ht hk hi, read_view h.good h.ok (List.cons_ne_nil _ _) hc hi]
    generalize ((s.read (n :: r) c).1.extract 0 (f * 16) ++ t ++ (s.read (n :: r) c).1.extract (f * 16 + t.size) 64) = T at hpatch ⊢
    simp only
    by_cases hF : v.fillF (c : Int) T = 0
    · obtain ⟨hct, q, hq⟩ := fill_t_yes hF
      have hy := fill_yes hv hm hF (c2 := c2) (j := j) (by omega) hj
      have hv2 : (s.upd n.toNat (v.fill (c : Int) T)).view c2 j (n :: r) = if inR c f k c2 j then chunk t (j - f) else s.view c2 j (n :: r) := by
        by_cases e : c = c2
        · subst e
          rw [if_pos rfl] at hy
          rw [view_upd h.file h.apart, hq, getD_tset _ hct, if_pos rfl, if_neg (by show ¬ (2 : Int) = 0; decide)]
          rw [sh_ent _ _ _ hj, hq, getD_tset _ hct, if_pos rfl] at hy
          rw [hy, hpatch j hj]
          by_cases hx : f ≤ j ∧ j < f + k
          · rw [if_pos hx, if_pos ⟨rfl, hx⟩]
          · rw [if_neg hx, if_neg (fun e => hx e.2)]
        · rw [if_neg e] at hy
          rw [if_neg (fun x => e x.1), view_upd h.file h.apart, view_head h.file]
          rw [sh_ent _ _ _ hj, sh_ent _ _ _ hj] at hy
          have ht2 : (v.fill (c : Int) T).t.getD c2 (0, 0) = v.t.getD c2 (0, 0) := by rw [hq, getD_tset _ hct, if_neg e]
          rw [ht2] at hy ⊢
          rw [hy]
      refine ⟨fun _ => hv2, ?_⟩
      rw [hv2]
      by_cases hr : inR c f k c2 j
      · rw [if_pos hr]; exact .inr ⟨hr, rfl⟩
      · rw [if_neg hr]; exact .inl rfl
    · have hs := view_same h.file h.apart (c := c2) (u := v.fill (c : Int) T) (fill_t_no hF) hj (fill_no hv hF (by omega) hj)
      exact ⟨fun e => absurd e hF, .inl hs⟩

theorem clear_view {s : SV} {C m : Nat} {n : Int} {r : List Int} {v : IV} (h : Top s C m n r v) {c c2 j : Nat} (hj : j < 4) :
    (v.clearF (c : Int) = 0 → (s.upd n.toNat (v.clear (c : Int))).view c2 j (n :: r) = if c = c2 then noughts else s.view c2 j (n :: r)) ∧
    (v.clearF (c : Int) ≠ 0 → (s.upd n.toNat (v.clear (c : Int))).view c2 j (n :: r) = s.view c2 j (n :: r)) := by
  have hv := h.vok
  refine ⟨fun hF => ?_, fun hF => view_same h.file h.apart (clear_t_no hF) hj (clear_no hF _)⟩
  have hy := clear_yes hv hF (c2 := c2) hj
  obtain ⟨k1, _⟩ := clear_t_yes hF c2
  rw [view_upd h.file h.apart, k1]
  rw [sh_ent _ _ _ hj] at hy
  by_cases e : c = c2
  · rw [if_pos e] at hy ⊢
    rw [if_neg (by decide), if_pos e]; exact hy
  · rw [if_neg e] at hy ⊢
    rw [if_neg e, view_head h.file]
    rw [sh_ent _ _ _ hj] at hy
    rw [hy]
end Go.Proofs.YtonhoahnieoebabGreatDoor

namespace Go.Proofs.YtonhoahnieoebabGreatDoor
open Go.RowKit

/- The first file is safe. -/
def STop (s : SV) (C m : Nat) (n : Int) (r : List Int) : Prop := ∃ v U, Top s C m n r v ∧ Safe v U
theorem STop.of {s : SV} {C m : Nat} {n : Int} {r : List Int} {v : IV} {U : List (Int × Int)} (h1 : s.ok m) (h2 : s.good (C : Int) (n :: r)) (h3 : s.file n = some v) (h4 : n ∉ r) (h5 : Safe v U) : STop s C m n r :=
  ⟨v, U, ⟨h1, h2, h3, h4, h5.sub.good h5.good⟩, h5⟩
theorem STop.more {s : SV} {C m m' : Nat} {n : Int} {r : List Int} (h : STop s C m n r) (hm : m ≤ m') : STop s C m' n r := by
  obtain ⟨v, U, h1, h2⟩ := h
  exact ⟨v, U, ⟨h1.ok.more hm, h1.good, h1.file, h1.apart, h1.tab⟩, h2⟩

theorem STop.lay {s : SV} {C m : Nat} {n : Int} {r : List Int} (h : STop s C m n r) (hm : m + 10 ≤ 1000000000) (c f : Nat) (t : ByteArray) : STop (s.lay (n :: r) c f t).1 C (m + 10) n r := by
  obtain ⟨v, U, h1, h2⟩ := h
  have ho := h1.ok.lay (n :: r) c f t hm
  have hg := h1.good.lay (n :: r) c f t
  have hs : ∃ u U', (s.lay (n :: r) c f t).1.file n = some u ∧ Safe u U' := by
    unfold SV.lay
    simp only
    rw [h1.file]
    simp only
    split
    · exact ⟨_, _, by rw [SV.file_upd h1.file, if_pos rfl], h2.write h1.vok _ _ _⟩
    · obtain ⟨U', h3⟩ := h2.fill h1.vok hm (c : Int) ((s.read (n :: r) c).1.extract 0 (f * 16) ++ t ++ (s.read (n :: r) c).1.extract (f * 16 + t.size) 64)
      exact ⟨_, U', by rw [SV.file_upd h1.file, if_pos rfl], h3⟩
  obtain ⟨u, U', e, hs⟩ := hs
  exact .of ho hg e h1.apart hs
theorem STop.clear {s : SV} {C m : Nat} {n : Int} {r : List Int} {v : IV} {U : List (Int × Int)} (h1 : Top s C m n r v) (h2 : Safe v U) (hm : m + 10 ≤ 1000000000) (c : Int) : STop (s.upd n.toNat (v.clear c)) C (m + 10) n r :=
  .of (h1.ok.upd (by omega) (h1.vok.clear c hm)) (h1.good.upd h1.file (IV.clear_h _ _)) (by rw [SV.file_upd h1.file, if_pos rfl]) h1.apart (h2.clear h1.vok c)

/- A sector. -/
def SV.sec (s : SV) (l : List Int) (k : Nat) : List UInt8 := s.view (k / 4) (k % 4) l

/- What an act on the sectors from a to b leaves, x being what they are to be. -/
structure Laid (s z : SV) (C : Nat) (l : List Int) (a b : Nat) (x : Nat → List UInt8) (well : Prop) : Prop where
  yes : well → ∀ k, k < 4 * C → z.sec l k = if a ≤ k ∧ k < b then x k else s.sec l k
  any : ∀ k, k < 4 * C → z.sec l k = s.sec l k ∨ (a ≤ k ∧ k < b) ∧ z.sec l k = x k

theorem chunk_sec {t : ByteArray} {a n i : Nat} (h : i < n) (_ht : (a + n) * 16 ≤ t.size) : chunk (secB t a n) i = chunk t (a + i) := by
  rw [chunk_ext, chunk_ext]
  unfold secB
  rw [ByteArray.data_extract, Array.toList_extract, List.extract_eq_take_drop, List.drop_take, List.drop_drop, List.take_take, show min 16 ((a + n) * 16 - a * 16 - i * 16) = 16 by omega, show a * 16 + i * 16 = (a + i) * 16 by omega]

theorem putPt_laid {s : SV} {C m : Nat} {n : Int} {r : List Int} (h : STop s C m n r) (hm : m + 10 ≤ 1000000000) {fr N : Nat} {t : ByteArray} (ht : t.size = N * 16) {p : Pt} (hp : p.fits fr N C) :
    Laid s (SV.putPt (n :: r) t s p).1 C (n :: r) (fr + p.a) (fr + p.a + p.n) (fun k => chunk t (k - fr)) ((SV.putPt (n :: r) t s p).2 = 0) := by
  obtain ⟨v, U, h1, _⟩ := h
  have hat := hp.at_
  have han := hp.an
  have hz : (secB t p.a p.n).size = p.n * 16 := secB_size (by rw [ht]; omega)
  have key : ∀ k, k < 4 * C → (inR p.c p.f p.n (k / 4) (k % 4) ↔ (fr + p.a ≤ k ∧ k < fr + p.a + p.n)) := fun k _ => by
    have h4 := hp.n4
    unfold inR
    omega
  have hch : ∀ k, k < 4 * C → inR p.c p.f p.n (k / 4) (k % 4) → chunk (secB t p.a p.n) (k % 4 - p.f) = chunk t (k - fr) := fun k hk hr => by
    have h5 := (key k hk).1 hr
    obtain ⟨e1, e2, e3⟩ := hr
    rw [chunk_sec (by omega) (by rw [ht]; omega), show p.a + (k % 4 - p.f) = k - fr by omega]
  refine ⟨fun hw k hk => ?_, fun k hk => ?_⟩
  · have := (lay_view h1 hm hp.c hz hp.n4 (c2 := k / 4) (j := k % 4) (by omega) (by omega)).1 hw
    show SV.view _ (k / 4) (k % 4) (n :: r) = _
    unfold SV.putPt
    rw [this]
    by_cases hr : inR p.c p.f p.n (k / 4) (k % 4)
    · rw [if_pos hr, if_pos ((key k hk).1 hr)]; exact hch k hk hr
    · rw [if_neg hr, if_neg (fun e => hr ((key k hk).2 e))]; rfl
  · rcases (lay_view h1 hm hp.c hz hp.n4 (c2 := k / 4) (j := k % 4) (by omega) (by omega)).2 with h5 | ⟨h5, h6⟩
    · exact .inl h5
    · exact .inr ⟨(key k hk).1 h5, h6.trans (hch k hk h5)⟩

theorem chunk_nought {n i : Nat} (h : i < n) : chunk (noughtB (n * 16)) i = noughts := by
  rw [chunk_ext]
  show ((List.replicate (n * 16) (0 : UInt8)).drop (i * 16)).take 16 = List.replicate 16 0
  rw [List.drop_replicate, List.take_replicate, show min 16 (n * 16 - i * 16) = 16 by omega]

theorem wipePt_laid {s : SV} {C m : Nat} {n : Int} {r : List Int} (h : STop s C m n r) (hm : m + 10 ≤ 1000000000) {fr N : Nat} {p : Pt} (hp : p.fits fr N C) :
    Laid s (SV.wipePt (n :: r) s p).1 C (n :: r) (fr + p.a) (fr + p.a + p.n) (fun _ => noughts) ((SV.wipePt (n :: r) s p).2 = 0) ∧ STop (SV.wipePt (n :: r) s p).1 C (m + 10) n r := by
  have h0 := h
  obtain ⟨v, U, h1, h2⟩ := h
  have hat := hp.at_
  have h4 := hp.n4
  have hn1 := hp.n1
  have key : ∀ k, k < 4 * C → (inR p.c p.f p.n (k / 4) (k % 4) ↔ (fr + p.a ≤ k ∧ k < fr + p.a + p.n)) := fun k _ => by
    unfold inR
    omega
  have hW : SV.wipePt (n :: r) s p = if p.n = 4 then (s.upd n.toNat (v.clear p.c), v.clearF p.c) else if (v.entE p.c).1 = 1 then (s, 0) else s.lay (n :: r) p.c p.f (noughtB (p.n * 16)) := by
    unfold SV.wipePt
    simp only
    rw [h1.file]
  rw [hW]
  split
  · next e4 =>
    refine ⟨⟨fun hw k hk => ?_, fun k hk => ?_⟩, .clear h1 h2 hm _⟩
    · have := (clear_view h1 (c := p.c) (c2 := k / 4) (j := k % 4) (by omega)).1 hw
      show SV.view _ (k / 4) (k % 4) (n :: r) = _
      rw [this]
      by_cases e : p.c = k / 4
      · rw [if_pos e, if_pos (by omega)]
      · rw [if_neg e, if_neg (by omega)]; rfl
    · have hcv := clear_view h1 (c := p.c) (c2 := k / 4) (j := k % 4) (by omega)
      show SV.view _ (k / 4) (k % 4) (n :: r) = _ ∨ _ ∧ SV.view _ (k / 4) (k % 4) (n :: r) = _
      by_cases hF : v.clearF (p.c : Int) = 0
      · have := hcv.1 hF
        by_cases e : p.c = k / 4
        · rw [if_pos e] at this
          exact .inr ⟨by omega, this⟩
        · rw [if_neg e] at this
          exact .inl this
      · exact .inl (hcv.2 hF)
  · split
    · next e4 e1 =>
      refine ⟨⟨fun _ k hk => ?_, fun k hk => .inl rfl⟩, h0.more (by omega)⟩
      split
      · next hr =>
        have hc := ((key k hk).2 hr).1
        show s.view (k / 4) (k % 4) (n :: r) = noughts
        rw [entE_nat, hc] at e1
        rw [view_head h1.file, if_neg (by omega)]
        unfold IV.shE
        rw [if_neg (by omega), if_pos e1]
      · rfl
    · have hz : (noughtB (p.n * 16)).size = p.n * 16 := by
        show (List.replicate (p.n * 16) (0 : UInt8)).toArray.size = _
        simp
      have hch : ∀ k, k < 4 * C → inR p.c p.f p.n (k / 4) (k % 4) → chunk (noughtB (p.n * 16)) (k % 4 - p.f) = noughts := fun k _ hr => by
        obtain ⟨e1, e2, e3⟩ := hr
        exact chunk_nought (by omega)
      refine ⟨⟨fun hw k hk => ?_, fun k hk => ?_⟩, h0.lay hm _ _ _⟩
      · have := (lay_view h1 hm hp.c hz hp.n4 (c2 := k / 4) (j := k % 4) (by omega) (by omega)).1 hw
        show SV.view _ (k / 4) (k % 4) (n :: r) = _
        rw [this]
        by_cases hr : inR p.c p.f p.n (k / 4) (k % 4)
        · rw [if_pos hr, if_pos ((key k hk).1 hr)]; exact hch k hk hr
        · rw [if_neg hr, if_neg (fun e => hr ((key k hk).2 e))]; rfl
      · rcases (lay_view h1 hm hp.c hz hp.n4 (c2 := k / 4) (j := k % 4) (by omega) (by omega)).2 with h5 | ⟨h5, h6⟩
        · exact .inl h5
        · exact .inr ⟨(key k hk).1 h5, h6.trans (hch k hk h5)⟩
end Go.Proofs.YtonhoahnieoebabGreatDoor

namespace Go.Proofs.YtonhoahnieoebabGreatDoor
open Go.RowKit

theorem goPts_laid {op : SV → Pt → SV × Int} {C : Nat} {n : Int} {r : List Int} {fr N : Nat} {x : Nat → List UInt8} (hN : fr + N ≤ 4 * C)
    (hop : ∀ (s : SV) (m : Nat) (p : Pt), STop s C m n r → m + 10 ≤ 1000000000 → p.fits fr N C → Laid s (op s p).1 C (n :: r) (fr + p.a) (fr + p.a + p.n) x ((op s p).2 = 0) ∧ STop (op s p).1 C (m + 10) n r) :
    ∀ (k a : Nat) (s : SV) (m : Nat), N - a ≤ k → STop s C m n r → m + 10 * k ≤ 1000000000 →
      Laid s (goPts op s (ptsFrom fr N a)).1 C (n :: r) (fr + a) (fr + N) x ((goPts op s (ptsFrom fr N a)).2 = 0) ∧ STop (goPts op s (ptsFrom fr N a)).1 C (m + 10 * k) n r := by
  intro k
  induction k with
  | zero =>
    intro a s m ha hs _
    rw [ptsFrom_nil (by omega)]
    refine ⟨⟨fun _ i _ => ?_, fun i _ => .inl rfl⟩, hs⟩
    rw [if_neg (by omega)]; rfl
  | succ k ih =>
    intro a s m ha hs hm
    by_cases h : a < N
    · have h1 := mkPt_n (fr := fr) h
      have hf := mkPt_fits (C := C) h hN
      rw [ptsFrom_cons h, goPts_cons]
      generalize ep : mkPt fr N a = p at h1 hf ⊢
      have ea : p.a = a := by rw [← ep]; rfl
      obtain ⟨l1, s1⟩ := hop s m p hs (by omega) hf
      rw [ea] at l1
      by_cases hw : (op s p).2 = 0
      · rw [if_pos hw]
        obtain ⟨l2, s2⟩ := ih (a + p.n) (op s p).1 (m + 10) (by omega) s1 (by omega)
        refine ⟨⟨fun hw2 i hi => ?_, fun i hi => ?_⟩, by rw [show m + 10 * (k + 1) = m + 10 + 10 * k by omega]; exact s2⟩
        · rw [l2.yes hw2 i hi, l1.yes hw i hi]
          by_cases c1 : fr + (a + p.n) ≤ i ∧ i < fr + N
          · rw [if_pos c1, if_pos (by omega)]
          · rw [if_neg c1]
            by_cases c2 : fr + a ≤ i ∧ i < fr + a + p.n
            · rw [if_pos c2, if_pos (by omega)]
            · rw [if_neg c2, if_neg (by omega)]
        · rcases l2.any i hi with h2 | ⟨h2, h3⟩
          · rcases l1.any i hi with h4 | ⟨h4, h5⟩
            · exact .inl (h2.trans h4)
            · exact .inr ⟨by omega, h2.trans h5⟩
          · exact .inr ⟨by omega, h3⟩
      · rw [if_neg hw]
        refine ⟨⟨fun hw2 => absurd hw2 hw, fun i hi => ?_⟩, s1.more (by omega)⟩
        rcases l1.any i hi with h4 | ⟨h4, h5⟩
        · exact .inl h4
        · exact .inr ⟨by omega, h5⟩
    · rw [ptsFrom_nil h]
      refine ⟨⟨fun _ i _ => ?_, fun i _ => .inl rfl⟩, hs.more (by omega)⟩
      rw [if_neg (by omega)]; rfl

theorem put_laid {s : SV} {C m : Nat} {n : Int} {r : List Int} (h : STop s C m n r) {fr : Nat} {t : ByteArray} (ht : t.size % 16 = 0) (hf : s.chkF (n :: r) (fr : Int) ((t.size / 16 : Nat) : Int) = 0) (hm : m + 10 * (t.size / 16) ≤ 1000000000) :
    Laid s (s.put (n :: r) (fr : Int) t).1 C (n :: r) fr (fr + t.size / 16) (fun k => chunk t (k - fr)) ((s.put (n :: r) (fr : Int) t).2 = 0) ∧ STop (s.put (n :: r) (fr : Int) t).1 C (m + 10 * (t.size / 16)) n r := by
  have hg : s.good (C : Int) (n :: r) := by obtain ⟨v, U, h1, _⟩ := h; exact h1.good
  obtain ⟨_, _, _, hr⟩ := SV.chk_ok hg hf
  unfold SV.put
  rw [if_pos ht, if_pos hf, show ((fr : Int)).toNat = fr by omega]
  have := goPts_laid (op := SV.putPt (n :: r) t) (C := C) (n := n) (r := r) (fr := fr) (N := t.size / 16) (x := fun k => chunk t (k - fr)) (by omega)
    (fun s m p hs hm hp => ⟨putPt_laid hs hm (by omega) hp, hs.lay hm _ _ _⟩) (t.size / 16) 0 s m (by omega) h hm
  exact this

theorem wipe_laid {s : SV} {C m : Nat} {n : Int} {r : List Int} (h : STop s C m n r) {fr N : Nat} (hf : s.chkF (n :: r) (fr : Int) (N : Int) = 0) (hm : m + 10 * N ≤ 1000000000) :
    Laid s (s.wipe (n :: r) (fr : Int) (N : Int)).1 C (n :: r) fr (fr + N) (fun _ => noughts) ((s.wipe (n :: r) (fr : Int) (N : Int)).2 = 0) ∧ STop (s.wipe (n :: r) (fr : Int) (N : Int)).1 C (m + 10 * N) n r := by
  have hg : s.good (C : Int) (n :: r) := by obtain ⟨v, U, h1, _⟩ := h; exact h1.good
  obtain ⟨_, _, _, hr⟩ := SV.chk_ok hg hf
  unfold SV.wipe
  rw [if_pos hf, show ((fr : Int)).toNat = fr by omega, show ((N : Int)).toNat = N by omega]
  have := goPts_laid (op := SV.wipePt (n :: r)) (C := C) (n := n) (r := r) (fr := fr) (N := N) (x := fun _ => noughts) (by omega)
    (fun s m p hs hm hp => wipePt_laid hs hm hp) N 0 s m (by omega) h hm
  exact this
end Go.Proofs.YtonhoahnieoebabGreatDoor
