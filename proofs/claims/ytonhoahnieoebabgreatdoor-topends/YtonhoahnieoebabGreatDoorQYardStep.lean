/-
What is seen through a chain behind a move into a file (G4), well or not: outside the chain, below what is found, or into the first file, where nothing is.
What a job has done (W1): of a cluster that is not left, the same is seen through the list that the job is to leave. So it is at first, and behind each step.
A step of a job: what is seen through its list stays, and of what is not left the same is seen through the list that it is to leave (W1).
-/
import Derived.Test.YtonhoahnieoebabGreatDoorQViewAll
import Derived.Test.YtonhoahnieoebabGreatDoorQYardMem
namespace Go.Proofs.YtonhoahnieoebabGreatDoor
open Go.RowKit

def IV.mv (v : IV) (c : Int) (t : ByteArray) : IV × Int := if t = noughtB 64 then (v.clear c, v.clearF c) else if (v.entE c).1 = 2 then (v.write c 0 t, v.writeF c 0 t) else (v.fill c t, v.fillF c t)
theorem move_mv {s : SV} {n c : Int} {t : ByteArray} {v : IV} (h : s.file n = some v) : s.move n c t = (s.upd n.toNat (v.mv c t).1, (v.mv c t).2) := by
  unfold SV.move IV.mv
  rw [h]
  simp only
  split
  · rfl
  · split <;> rfl

theorem wr_whole {v : IV} {c : Nat} {t : ByteArray} (hc : c < v.t.length) (ht : t.size = 64) : wrOk v (c : Int) ((0 : Nat) : Int) t = true := by
  unfold wrOk
  rw [Bool.and_eq_true]
  exact ⟨decide_eq_true ⟨by omega, by omega⟩, decide_eq_true ⟨by omega, by omega, by omega, by omega⟩⟩

/- Other clusters stay. -/
theorem mv_only {v : IV} {m : Nat} (hok : v.ok m) (hg : GoodT v.h v.t) (hm : m + 10 ≤ 1000000000) {c : Nat} (hc : c < v.t.length) {t : ByteArray} (ht : t.size = 64) {c2 j : Nat} (hne : c ≠ c2) (hc2 : c2 < v.t.length) (hj : j < 4) :
    ((v.mv (c : Int) t).1.t.getD c2 (0, 0)).1 = (v.t.getD c2 (0, 0)).1 ∧ (v.mv (c : Int) t).1.sh (4 * c2 + j) = v.sh (4 * c2 + j) := by
  unfold IV.mv
  split
  · by_cases hF : v.clearF (c : Int) = 0
    · have h1 := (clear_t_yes hF c2).1
      have h2 := clear_yes hok hF (c2 := c2) hj
      rw [if_neg hne] at h1 h2
      exact ⟨h1, h2⟩
    · exact ⟨by show ((v.clear (c : Int)).t.getD c2 (0, 0)).1 = _; rw [clear_t_no hF], clear_no hF _⟩
  · split
    · next h2 =>
      rw [entE_nat] at h2
      refine ⟨by show ((v.write (c : Int) 0 t).t.getD c2 (0, 0)).1 = _; rw [write_t], ?_⟩
      exact (write_in hok hg hm (wr_whole hc ht) h2 hc2 hj).1 (fun e => hne e.1)
    · by_cases hF : v.fillF (c : Int) t = 0
      · obtain ⟨_, q, hq⟩ := fill_t_yes hF
        have h2 := fill_yes hok hm hF hc2 hj
        rw [if_neg hne] at h2
        exact ⟨by show ((v.fill (c : Int) t).t.getD c2 (0, 0)).1 = _; rw [hq, getD_tset _ hc, if_neg hne], h2⟩
      · exact ⟨by show ((v.fill (c : Int) t).t.getD c2 (0, 0)).1 = _; rw [fill_t_no hF], fill_no hok hF hc2 hj⟩

/- It went well: the cluster is there, and is the text. -/
theorem mv_yes {v : IV} {m : Nat} (hok : v.ok m) (hg : GoodT v.h v.t) (hm : m + 10 ≤ 1000000000) {c : Nat} (hc : c < v.t.length) {t : ByteArray} (ht : t.size = 64) (hF : (v.mv (c : Int) t).2 = 0) {j : Nat} (hj : j < 4) :
    ((v.mv (c : Int) t).1.t.getD c (0, 0)).1 ≠ 0 ∧ (v.mv (c : Int) t).1.sh (4 * c + j) = chunk t j := by
  unfold IV.mv at hF ⊢
  split
  · next e =>
    rw [if_pos e] at hF
    have h1 := (clear_t_yes hF c).1
    have h2 := clear_yes hok hF (c2 := c) hj
    rw [if_pos rfl] at h1 h2
    refine ⟨by show ((v.clear (c : Int)).t.getD c (0, 0)).1 ≠ 0; rw [h1]; decide, ?_⟩
    rw [e]
    exact h2.trans (chunk_nought (n := 4) hj).symm
  · next e =>
    rw [if_neg e] at hF
    split
    · next h2 =>
      rw [if_pos h2] at hF
      rw [entE_nat] at h2
      refine ⟨by show ((v.write (c : Int) 0 t).t.getD c (0, 0)).1 ≠ 0; rw [write_t]; omega, ?_⟩
      have := ((write_in hok hg hm (wr_whole hc ht) h2 hc hj).2 rfl (by omega) (by omega)).1 hF
      rw [Nat.sub_zero] at this
      exact this
    · next h2 =>
      rw [if_neg h2] at hF
      obtain ⟨_, q, hq⟩ := fill_t_yes hF
      have h3 := fill_yes hok hm hF hc hj
      rw [if_pos rfl] at h3
      refine ⟨?_, h3⟩
      show ((v.fill (c : Int) t).t.getD c (0, 0)).1 ≠ 0
      rw [hq, getD_tset _ hc, if_pos rfl]
      show (2 : Int) ≠ 0
      decide

/- It did not: where no data is, all stays. -/
theorem mv_no {v : IV} {m : Nat} (hok : v.ok m) {c : Nat} {t : ByteArray} (hF : (v.mv (c : Int) t).2 ≠ 0) (h0 : (v.t.getD c (0, 0)).1 ≠ 2) {c2 j : Nat} (hc2 : c2 < v.t.length) (hj : j < 4) :
    (v.mv (c : Int) t).1.t = v.t ∧ (v.mv (c : Int) t).1.sh (4 * c2 + j) = v.sh (4 * c2 + j) := by
  unfold IV.mv at hF ⊢
  split
  · next e =>
    rw [if_pos e] at hF
    exact ⟨clear_t_no hF, clear_no hF _⟩
  · next e =>
    rw [if_neg e] at hF
    split
    · next h2 => rw [entE_nat] at h2; exact absurd h2 h0
    · next h2 =>
      rw [if_neg h2] at hF
      exact ⟨fill_t_no hF, fill_no hok hF hc2 hj⟩

/- What is seen hangs on kinds, and on what is shown where they are not Absent. -/
theorem view_cong {s z : SV} {c j : Nat} (hj : j < 4) : ∀ {l : List Int}, (∀ n ∈ l, ∃ v u, s.file n = some v ∧ z.file n = some u ∧ (u.t.getD c (0, 0)).1 = (v.t.getD c (0, 0)).1 ∧ ((v.t.getD c (0, 0)).1 ≠ 0 → u.sh (4 * c + j) = v.sh (4 * c + j))) → z.view c j l = s.view c j l := by
  intro l
  induction l with
  | nil => intro _; rfl
  | cons n r ih =>
    intro h
    obtain ⟨v, u, h1, h2, h3, h4⟩ := h n List.mem_cons_self
    rw [view_head h1, view_head h2, h3, ih fun k hk => h k (List.mem_cons_of_mem _ hk)]
    by_cases g : (v.t.getD c (0, 0)).1 = 0
    · rw [if_pos g, if_pos g]
    · rw [if_neg g, if_neg g, ← sh_ent _ _ _ hj, ← sh_ent _ _ _ hj, h4 g]

/- Another cluster, wherever the file lies. -/
theorem move_other {s : SV} {C m : Nat} {l : List Int} (hg : s.good (C : Int) l) (hok : s.ok m) (hm : m + 10 ≤ 1000000000) {f : Int} {v : IV} (hf : s.file f = some v) (hv : GoodT v.h v.t) {c : Nat} (hc : c < v.t.length) {t : ByteArray} (ht : t.size = 64) {c2 j : Nat} (hne : c ≠ c2) (hc2 : c2 < C) (hj : j < 4) :
    (s.move f (c : Int) t).1.view c2 j l = s.view c2 j l := by
  rw [move_mv hf]
  refine view_cong hj fun n hn => ?_
  obtain ⟨u, h1, h2⟩ := hg n hn
  by_cases e : n = f
  · subst e
    rw [hf] at h1
    cases h1
    have hvo := hok _ _ (SV.file_of hf).2.2
    have hl := hvo.len
    obtain ⟨k1, k2⟩ := mv_only hvo hv hm hc ht hne (by omega) hj
    exact ⟨v, _, hf, by show (s.upd n.toNat _).file n = _; rw [SV.file_upd hf, if_pos rfl], k1, fun _ => k2⟩
  · exact ⟨u, u, h1, by show (s.upd f.toNat _).file n = _; rw [SV.file_upd hf, if_neg e]; exact h1, rfl, fun _ => rfl⟩

/- A file outside the list. -/
theorem move_out {s : SV} {l : List Int} {f c : Int} {t : ByteArray} (hn : f ∉ l) (c2 j : Nat) : (s.move f c t).1.view c2 j l = s.view c2 j l := by
  cases hf : s.file f with
  | none => unfold SV.move; rw [hf]
  | some v =>
    rw [move_mv hf]
    exact view_other fun n hm => by
      show (s.upd f.toNat _).file n = _
      rw [SV.file_upd hf, if_neg (fun (e : n = f) => hn (e ▸ hm))]

/- Below a file in which the cluster is found. -/
theorem view_found {s z : SV} {c j : Nat} : ∀ {p : List Int} (q : List Int), (∀ n ∈ p, z.file n = s.file n) → (∃ n ∈ p, ∃ v, s.file n = some v ∧ (v.t.getD c (0, 0)).1 ≠ 0) → z.view c j (p ++ q) = s.view c j (p ++ q) := by
  intro p
  induction p with
  | nil => intro q _ h; obtain ⟨n, hn, _⟩ := h; cases hn
  | cons n r ih =>
    intro q h ⟨k, hk, v, h1, h2⟩
    rcases List.mem_cons.1 hk with e | e
    · subst e
      show z.view c j (k :: (r ++ q)) = s.view c j (k :: (r ++ q))
      rw [view_head h1, view_head ((h k List.mem_cons_self).trans h1), if_neg h2, if_neg h2]
    · have := ih q (fun x hx => h x (List.mem_cons_of_mem _ hx)) ⟨k, e, v, h1, h2⟩
      show z.view c j (n :: (r ++ q)) = s.view c j (n :: (r ++ q))
      unfold SV.view
      rw [h n List.mem_cons_self]
      cases s.file n with
      | none => exact this
      | some w => simp only; rw [this]
theorem move_below {s : SV} {p q : List Int} {f c : Int} {t : ByteArray} (hn : f ∉ p) {c2 j : Nat} (h : ∃ n ∈ p, ∃ v, s.file n = some v ∧ (v.t.getD c2 (0, 0)).1 ≠ 0) : (s.move f c t).1.view c2 j (p ++ q) = s.view c2 j (p ++ q) := by
  cases hf : s.file f with
  | none => unfold SV.move; rw [hf]
  | some v =>
    rw [move_mv hf]
    exact view_found q (fun n hm => by
      show (s.upd f.toNat _).file n = _
      rw [SV.file_upd hf, if_neg (fun (e : n = f) => hn (e ▸ hm))]) h

/- Into the first file, where nothing is: what is seen there. -/
theorem move_top {s : SV} {C m : Nat} {n : Int} {r : List Int} {v : IV} (h : Top s C m n r v) (hm : m + 10 ≤ 1000000000) {c : Nat} (hc : c < C) (h0 : (v.t.getD c (0, 0)).1 = 0) {j : Nat} (hj : j < 4) :
    (s.move n (c : Int) (s.read (n :: r) (c : Int)).1).1.view c j (n :: r) = s.view c j (n :: r) := by
  have hv := h.vok
  have hl := h.len
  obtain ⟨_, r2⟩ := SV.read_yes h.good h.ok (List.cons_ne_nil _ _) (c := (c : Int)) ⟨by omega, by omega⟩
  have hrv := read_view h.good h.ok (List.cons_ne_nil _ _) hc hj
  rw [move_mv h.file]
  show (s.upd n.toNat _).view c j (n :: r) = _
  by_cases hF : (v.mv (c : Int) (s.read (n :: r) (c : Int)).1).2 = 0
  · obtain ⟨k1, k2⟩ := mv_yes hv h.tab hm (by omega) r2 hF hj
    rw [view_upd h.file h.apart, if_neg k1, ← sh_ent _ _ _ hj, k2]
    exact hrv
  · obtain ⟨k1, k2⟩ := mv_no hv hF (by omega) (c2 := c) (by omega) hj
    exact view_same h.file h.apart k1 hj k2
end Go.Proofs.YtonhoahnieoebabGreatDoor

namespace Go.Proofs.YtonhoahnieoebabGreatDoor
open Go.RowKit

/- The list that a job is to leave. -/
def tlist (j : JV) : List Int := if j.kind = 1 then [j.file] else if j.kind = 2 then j.l.headD 0 :: j.l.drop j.deep else j.l.drop j.deep

def Same (s : SV) (C : Nat) (j : JV) : Prop := ∀ c, c < C → j.x.testBit c = false → ∀ i, i < 4 → s.view c i (tlist j) = s.view c i j.l

theorem Same.done {s : SV} {C : Nat} {j : JV} (h : Same s C j) (h0 : S4.cnt j.x 64 = 0) (hC : C ≤ 64) {c i : Nat} (hc : c < C) (hi : i < 4) : s.view c i (tlist j) = s.view c i j.l := by
  refine h c hc ?_ i hi
  cases hb : j.x.testBit c with
  | false => rfl
  | true =>
    have hm : c ∈ S4.elemsTo j.x 64 := (S4.elemsTo_mem j.x 64 c).2 ⟨by omega, hb⟩
    have hl := S4.elemsTo_len j.x 64
    rw [h0] at hl
    rw [List.eq_nil_of_length_eq_zero hl] at hm
    cases hm

theorem wantTo_bit (s : SV) (j : JV) : ∀ k, k ≤ j.n → ∀ c, c < k → (wantTo s j k).testBit c = j.wantB s (c : Int) := by
  intro k
  induction k with
  | zero => intro _ c hc; exact absurd hc (Nat.not_lt_zero _)
  | succ k ih =>
    intro hk c hc
    show (S4.putV j.n (wantTo s j k) (k : Int) (j.wantB s (k : Int))).testBit c = _
    rw [S4.putV_bit]
    by_cases e : c = k
    · subst e
      rw [if_pos ⟨decide_eq_true ⟨by omega, by omega⟩, rfl⟩]
    · rw [if_neg (fun h => e (by have := h.2; omega))]
      exact ih (by omega) c (by omega)

theorem view_none {s : SV} {c i : Nat} : ∀ (p : List Int) (q : List Int) (k : Nat), s.foundGo (c : Int) p k = -1 → s.view c i (p ++ q) = s.view c i q := by
  intro p
  induction p with
  | nil => intro q k _; rfl
  | cons n r ih =>
    intro q k h
    unfold SV.foundGo at h
    split at h
    · next h0 =>
      have h1 := ih q (k + 1) h
      show s.view c i (n :: (r ++ q)) = _
      cases hf : s.file n with
      | none =>
        have e : s.view c i (n :: (r ++ q)) = s.view c i (r ++ q) := by
          rw [SV.view, hf]
        rw [e]; exact h1
      | some v =>
        rw [hf] at h0
        have h0' : (v.entE (c : Int)).1 = 0 := h0
        rw [entE_nat] at h0'
        rw [view_head hf, if_pos h0']; exact h1
    · omega

theorem found_zero {s : SV} {c : Nat} {n : Int} {p : List Int} (h : s.foundGo (c : Int) (n :: p) 0 = 0) : ∃ v, s.file n = some v ∧ (v.t.getD c (0, 0)).1 ≠ 0 := by
  unfold SV.foundGo at h
  split at h
  · rcases SV.found_cases s (c : Int) p (0 + 1) with ⟨h1, _⟩ | ⟨j, _, _, _, h2, _⟩
    · rw [h1] at h; cases h
    · rw [h2] at h; omega
  · next h0 =>
    cases hf : s.file n with
    | none => rw [hf] at h0; exact absurd rfl h0
    | some v =>
      rw [hf] at h0
      have h0' : (v.entE (c : Int)).1 ≠ 0 := h0
      rw [entE_nat] at h0'
      exact ⟨v, rfl, h0'⟩
theorem found_pos {s : SV} {c : Nat} {n : Int} {p : List Int} (h : s.foundGo (c : Int) (n :: p) 0 = -1) : kindO (s.file n) (c : Int) = 0 := by
  unfold SV.foundGo at h
  split at h
  · next h0 => exact h0
  · cases h

/- A cluster that is not wanted: the same is seen. -/
theorem same_of_no {s : SV} {C : Nat} {j : JV} (h : JOk s C j) (hd : j.kind = 2 → 1 ≤ j.deep) {c i : Nat} (hw : j.wantB s (c : Int) = false) : s.view c i (tlist j) = s.view c i j.l := by
  unfold JV.wantB at hw
  have hsplit : j.l.take j.deep ++ j.l.drop j.deep = j.l := List.take_append_drop _ _
  rcases h.kind with e | e | e
  · rw [if_pos e] at hw; cases hw
  · rw [if_neg (by omega), if_pos e] at hw
    have hle : ¬ 0 < s.found j.above (c : Int) := of_decide_eq_false hw
    unfold tlist
    rw [if_neg (by omega), if_pos e]
    obtain ⟨n, r, v, hl, hf, _⟩ := h.root
    have hdp := hd e
    have hab : j.above = n :: r.take (j.deep - 1) := by
      unfold JV.above
      rw [hl]
      obtain ⟨k, hk⟩ : ∃ k, j.deep = k + 1 := ⟨j.deep - 1, by omega⟩
      rw [hk]
      rfl
    have hhd : j.l.headD 0 = n := by rw [hl]; rfl
    rw [hhd]
    unfold SV.found at hle
    rcases SV.found_cases s (c : Int) j.above 0 with ⟨h1, _⟩ | ⟨k, _, _, _, h2, _⟩
    · have hv := view_none (i := i) j.above (j.l.drop j.deep) 0 h1
      unfold JV.above at hv
      rw [hsplit] at hv
      rw [hab] at h1
      have h0 := found_pos h1
      rw [hf] at h0
      have h0' : (v.entE (c : Int)).1 = 0 := h0
      rw [entE_nat] at h0'
      rw [hv, view_head hf, if_pos h0']
    · have hk0 : s.foundGo (c : Int) j.above 0 = 0 := by rw [h2] at hle ⊢; omega
      rw [hab] at hk0
      obtain ⟨u, hu, hu0⟩ := found_zero hk0
      rw [hl, view_head hu, view_head hu, if_neg hu0, if_neg hu0]
  · rw [if_neg (by omega), if_neg (by omega)] at hw
    have hle : ¬ 0 ≤ s.found j.above (c : Int) := of_decide_eq_false hw
    unfold tlist
    rw [if_neg (by omega), if_neg (by omega)]
    have h1 : s.foundGo (c : Int) j.above 0 = -1 := by
      unfold SV.found at hle
      rcases SV.found_cases s (c : Int) j.above 0 with ⟨h1, _⟩ | ⟨k, _, _, _, h2, _⟩
      · exact h1
      · rw [h2] at hle; omega
    have hv := view_none (i := i) j.above (j.l.drop j.deep) 0 h1
    unfold JV.above at hv
    rw [hsplit] at hv
    exact hv.symm

theorem new_same {s : SV} {d : KDesk} {C : Nat} (h : JOk s C (newJ0 s d)) (hd : d.kind = 2 → 1 ≤ (newJ0 s d).deep) : Same s C (newJ s d) := by
  intro c hc hb i hi
  have hn := h.n
  have hw : (newJ0 s d).wantB s (c : Int) = false := by
    rw [← wantTo_bit s (newJ0 s d) (newJ0 s d).n (Nat.le_refl _) c (by omega)]
    exact hb
  exact same_of_no (j := newJ0 s d) h hd hw
end Go.Proofs.YtonhoahnieoebabGreatDoor

namespace Go.Proofs.YtonhoahnieoebabGreatDoor
open Go.RowKit

structure JGo (s : SV) (C m : Nat) (j : JV) : Prop where
  ok : JOk s C j
  sok : s.ok m
  nodup : j.l.Nodup
  tab : ∀ n v, s.file n = some v → GoodT v.h v.t
  mir : j.kind = 1 → j.file ∉ j.l ∧ ∃ v, s.file j.file = some v ∧ v.h.c = C
  str : j.kind = 2 → 1 ≤ j.deep
  com : j.kind = 3 → ∃ q, j.l.drop j.deep = j.file :: q

theorem mem_drop_take {l : List Int} (h : l.Nodup) {d : Nat} {x : Int} (h1 : x ∈ l.take d) (h2 : x ∈ l.drop d) : False := by
  rw [← List.take_append_drop d l, List.nodup_append] at h
  exact h.2.2 x h1 x h2 rfl

/- The list that it is to leave begins with the file that it moves into. -/
theorem JGo.form {s : SV} {C m : Nat} {j : JV} (h : JGo s C m j) : ∃ r v, tlist j = j.into :: r ∧ j.into ∉ r ∧ s.file j.into = some v ∧ v.t.length = C ∧ s.good (C : Int) (j.into :: r) := by
  have len : ∀ {n v}, s.file n = some v → v.h.c = C → v.t.length = C := fun hf hc => by
    have := (h.sok _ _ (SV.file_of hf).2.2).len
    omega
  unfold tlist JV.into
  rcases h.ok.kind with e | e | e
  · obtain ⟨h1, v, h2, h3⟩ := h.mir e
    refine ⟨[], v, by rw [if_pos e, if_neg (by omega)], by simp, by rw [if_neg (by omega)]; exact h2, len h2 h3, fun n hn => ?_⟩
    rw [if_neg (by omega), List.mem_singleton] at hn
    exact ⟨v, by rw [hn]; exact h2, h3⟩
  · obtain ⟨n, r, v, hl, hf, hc⟩ := h.ok.root
    have hhd : j.l.headD 0 = n := by rw [hl]; rfl
    have hd := h.str e
    rw [if_neg (by omega), if_pos e, if_pos e, hhd]
    refine ⟨j.l.drop j.deep, v, rfl, fun hm => ?_, hf, len hf hc, fun k hk => ?_⟩
    · refine mem_drop_take h.nodup ?_ hm
      obtain ⟨k, hk⟩ : ∃ k, j.deep = k + 1 := ⟨j.deep - 1, by omega⟩
      rw [hk, hl]
      exact List.mem_cons_self
    · rcases List.mem_cons.1 hk with e2 | e2
      · exact ⟨v, by rw [e2]; exact hf, hc⟩
      · exact h.ok.good k (List.mem_of_mem_drop e2)
  · obtain ⟨q, hq⟩ := h.com e
    rw [if_neg (by omega), if_neg (by omega), if_neg (by omega)]
    have hsub : ∀ k ∈ j.file :: q, k ∈ j.l := fun k hk => List.mem_of_mem_drop (by rw [hq]; exact hk)
    obtain ⟨v, h1, h2⟩ := h.ok.good j.file (hsub _ List.mem_cons_self)
    have hnd : (j.file :: q).Nodup := by
      have := h.nodup
      rw [← List.take_append_drop j.deep j.l, List.nodup_append] at this
      rw [← hq]; exact this.2.1
    exact ⟨q, v, hq, (List.nodup_cons.1 hnd).1, h1, len h1 h2, fun k hk => h.ok.good k (hsub k hk)⟩

/- What is seen through its list, behind a move of a cluster that it wants. -/
theorem JGo.move_view {s : SV} {C m : Nat} {j : JV} (h : JGo s C m j) (hm : m + 10 ≤ 1000000000) {c : Nat} (hc : c < C) (hw : j.wantB s (c : Int) = true) {c2 i : Nat} (hc2 : c2 < C) (hi : i < 4) : (j.moved s (c : Int)).1.view c2 i j.l = s.view c2 i j.l := by
  obtain ⟨r, v, _, _, hf, hl, _⟩ := h.form
  obtain ⟨_, r2⟩ := h.ok.read h.sok hc
  unfold JV.moved
  by_cases e : c = c2
  · subst e
    unfold JV.wantB at hw
    rcases h.ok.kind with k | k | k
    · have : j.into = j.file := by unfold JV.into; rw [if_neg (by omega)]
      rw [this]
      exact move_out (h.mir k).1 c i
    · rw [if_neg (by omega), if_pos k] at hw
      have hpos : 0 < s.found j.above (c : Int) := of_decide_eq_true hw
      obtain ⟨n, r', v', hl', hf', hc'⟩ := h.ok.root
      have hin : j.into = n := by unfold JV.into; rw [if_pos k, hl']; rfl
      have hd := h.str k
      have hab : j.above = n :: r'.take (j.deep - 1) := by
        unfold JV.above
        rw [hl']
        obtain ⟨k, hk⟩ : ∃ k, j.deep = k + 1 := ⟨j.deep - 1, by omega⟩
        rw [hk]
        rfl
      have h0 : (v'.t.getD c (0, 0)).1 = 0 := by
        unfold SV.found at hpos
        rw [hab] at hpos
        unfold SV.foundGo at hpos
        split at hpos
        · next h0 =>
          rw [hf'] at h0
          have h0' : (v'.entE (c : Int)).1 = 0 := h0
          rw [entE_nat] at h0'; exact h0'
        · exact absurd hpos (by decide)
      have hnd := h.nodup
      rw [hl'] at hnd
      have hg := h.ok.good
      rw [hl'] at hg
      have ht : Top s C m n r' v' := ⟨h.sok, hg, hf', (List.nodup_cons.1 hnd).1, h.tab _ _ hf'⟩
      rw [hin, hl']
      exact move_top ht hm hc h0 hi
    · rw [if_neg (by omega), if_neg (by omega)] at hw
      have hpos : 0 ≤ s.found j.above (c : Int) := of_decide_eq_true hw
      obtain ⟨q, hq⟩ := h.com k
      have hin : j.into = j.file := by unfold JV.into; rw [if_neg (by omega)]
      rw [hin]
      have hsplit : j.l.take j.deep ++ j.l.drop j.deep = j.l := List.take_append_drop _ _
      rw [← hsplit]
      have hsame : ∀ t, (s.move j.file (c : Int) t).1.view c i (j.l.take j.deep ++ j.l.drop j.deep) = s.view c i (j.l.take j.deep ++ j.l.drop j.deep) := fun t => by
        refine move_below (fun hx => mem_drop_take h.nodup hx (by rw [hq]; exact List.mem_cons_self)) ?_
        unfold SV.found at hpos
        rcases SV.found_cases s (c : Int) j.above 0 with ⟨h1, _⟩ | ⟨_, n, u, _, _, _, h4, h5, h6, _⟩
        · rw [h1] at hpos; omega
        · rw [entE_nat] at h6
          exact ⟨n, h4, u, h5, h6⟩
      exact hsame _
  · exact move_other h.ok.good h.sok hm hf (h.tab _ _ hf) (by omega) r2 e hc2 hi

/- And through the list that it is to leave, if it went well. -/
theorem JGo.move_same {s : SV} {C m : Nat} {j : JV} (h : JGo s C m j) (hm : m + 10 ≤ 1000000000) {c : Nat} (hc : c < C) (hF : (j.moved s (c : Int)).2 = 0) {c2 i : Nat} (hc2 : c2 < C) (hi : i < 4) :
    (j.moved s (c : Int)).1.view c2 i (tlist j) = if c = c2 then s.view c2 i j.l else s.view c2 i (tlist j) := by
  obtain ⟨r, v, e, hn, hf, hl, hg⟩ := h.form
  obtain ⟨_, r2⟩ := h.ok.read h.sok hc
  have hv := h.sok _ _ (SV.file_of hf).2.2
  rw [e]
  unfold JV.moved at hF ⊢
  by_cases ec : c = c2
  · subst ec
    rw [if_pos rfl]
    rw [move_mv hf] at hF ⊢
    obtain ⟨k1, k2⟩ := mv_yes hv (h.tab _ _ hf) hm (by omega) r2 hF hi
    show (s.upd j.into.toNat _).view c i (j.into :: r) = _
    rw [view_upd hf hn, if_neg k1, ← sh_ent _ _ _ hi, k2]
    exact read_view h.ok.good h.sok h.ok.ne hc hi
  · rw [if_neg ec]
    exact move_other hg h.sok hm hf (h.tab _ _ hf) (by omega) r2 ec hc2 hi

theorem step_view {s : SV} {C m : Nat} {j : JV} (h : JGo s C m j) (hm : m + 10 ≤ 1000000000) {c i : Nat} (hc : c < C) (hi : i < 4) : (stepS s j).view c i j.l = s.view c i j.l := by
  unfold stepS
  split
  · next hx =>
    obtain ⟨k, e, hk, _⟩ := h.ok.pick hx.2.1
    rw [e] at hx ⊢
    exact h.move_view hm hk hx.2.2.2 hc hi
  · rfl

theorem step_same {s : SV} {C m : Nat} {j : JV} (h : JGo s C m j) (hm : m + 10 ≤ 1000000000) (hs : Same s C j) (hg : (stepJ s j).stage < 4) : Same (stepS s j) C (stepJ s j) := by
  have hl := (stepJ_is s j).1
  have hk := (stepJ_is s j).2
  have ht : (stepJ s j).deep = j.deep ∧ tlist (stepJ s j) = tlist j := by
    have a : ∀ c, (j.went c).deep = j.deep ∧ tlist (j.went c) = tlist j := fun _ => ⟨rfl, rfl⟩
    have b : j.fell.deep = j.deep ∧ tlist j.fell = tlist j := ⟨rfl, rfl⟩
    unfold stepJ
    by_cases h1 : j.stage = 1 ∧ j.some = true ∧ S4.inB 4 j.lv = true
    · rw [if_pos h1]
      by_cases g : j.wantB s j.pick = true ∧ (j.moved s j.pick).2 ≠ 0
      · rw [if_pos g]; exact b
      · rw [if_neg g]; exact a _
    · rw [if_neg h1]; exact ⟨rfl, rfl⟩
  intro c hc hb i hi
  rw [ht.2, hl, step_view h hm hc hi]
  by_cases h1 : j.stage = 1 ∧ j.some = true ∧ S4.inB 4 j.lv = true
  · obtain ⟨k, e, hkC, _⟩ := h.ok.pick h1.2.1
    by_cases hw : j.wantB s (k : Int) = true
    · have eS : stepS s j = (j.moved s (k : Int)).1 := by
        unfold stepS
        rw [e, if_pos ⟨h1.1, h1.2.1, h1.2.2, hw⟩]
      by_cases hF : (j.moved s (k : Int)).2 = 0
      · have eJ : stepJ s j = j.went (k : Int) := by
          unfold stepJ
          rw [if_pos h1, e, if_neg (fun x => x.2 hF)]
        rw [eS, h.move_same hm hkC hF hc hi]
        split
        · rfl
        · next hne =>
          refine hs c hc ?_ i hi
          rw [eJ] at hb
          have hb' : (S4.putV j.n j.x (k : Int) false).testBit c = false := hb
          rw [S4.putV_bit, if_neg (fun x => hne (by have := x.2; omega))] at hb'
          exact hb'
      · have eJ : stepJ s j = j.fell := by
          unfold stepJ
          rw [if_pos h1, e, if_pos ⟨hw, hF⟩]
        rw [eJ] at hg
        exact absurd hg (by show ¬ (5 : Int) < 4; decide)
    · have eS : stepS s j = s := by
        unfold stepS
        rw [e, if_neg (fun x => hw x.2.2.2)]
      have eJ : stepJ s j = j.went (k : Int) := by
        unfold stepJ
        rw [if_pos h1, e, if_neg (fun x => hw x.1)]
      rw [eS]
      by_cases hne : k = c
      · subst hne
        exact same_of_no h.ok h.str (by simpa using hw)
      · refine hs c hc ?_ i hi
        rw [eJ] at hb
        have hb' : (S4.putV j.n j.x (k : Int) false).testBit c = false := hb
        rw [S4.putV_bit, if_neg (fun x => hne (by have := x.2; omega))] at hb'
        exact hb'
  · have eS : stepS s j = s := by
      unfold stepS
      rw [if_neg (fun x => h1 ⟨x.1, x.2.1, x.2.2.1⟩)]
    have eJ : stepJ s j = j := by
      unfold stepJ
      rw [if_neg h1]
    rw [eS]
    rw [eJ] at hb
    exact hs c hc hb i hi
end Go.Proofs.YtonhoahnieoebabGreatDoor
