/-
How the document's own image lies in memory; what its calls may turn; that it and the program's image stay while the other turns.
-/
import Derived.Test.YtncjnjlakhohgaaGreatQImgGets
import Derived.Test.YtncjnjlakhohgaaGreatQImgFree
import Derived.Test.YtncjnjlakhohgaaGreatQRefWrite2
namespace Go.Proofs.YtncjnjlakhohgaaGreat
open Go.RowKit Go.Maps
attribute [local go_sem ↓] Go.wp_at_zero Go.wp_at_succ

def KR (w : World) (k : Nat) : Prop := ∃ cur t, w.heap[k]? = some (.cells cur t (0, 0)) ∧ (t = 57 ∨ t = 9 ∨ t = 3 ∨ t = 72)
def SR (B : Nat) (w : World) (k : Nat) : Prop := B ≤ k ∧ KR w k
def KeptR (B : Nat) (w w' : World) : Prop := Kept (SR B w) w w'

theorem KR.of {w w' : World} {k : Nat} (e : w'.heap[k]? = w.heap[k]?) (h : KR w' k) : KR w k := by
  obtain ⟨cur, t, h1, h2⟩ := h
  exact ⟨cur, t, by rw [← e]; exact h1, h2⟩

theorem KeptR.trans {B : Nat} {a b c : World} (h : KeptR B a b) (k : KeptR B b c) : KeptR B a c := by
  refine ⟨k.os.trans h.os, k.tape.trans h.tape, k.output.trans h.output, Nat.le_trans h.size k.size, fun i hi hs => ?_⟩
  have e := h.block i hi hs
  rw [k.block i (Nat.lt_of_lt_of_le hi h.size) (fun s => hs ⟨s.1, s.2.of e⟩), e]

theorem KeptR.refl (B : Nat) (w : World) : KeptR B w w := Kept.refl _ _
theorem KeptR.of_below {B : Nat} {w w' : World} (h : Below w.heap.size w w') : KeptR B w w' := Below.kept h
theorem KeptR.below {B : Nat} {w w' : World} (h : KeptR B w w') (hB : B ≤ w.heap.size) : Below B w w' := Kept.below h hB fun _ hk => hk.1

theorem KeptR.box {B : Nat} {w w' : World} (h : KeptR B w w') {k : Nat} {cur : Array Value} {t : TypeId} (hb : w.heap[k]? = some (.cells cur t (0, 0))) (ht : ¬ (t = 57 ∨ t = 9 ∨ t = 3 ∨ t = 72)) : w'.heap[k]? = some (.cells cur t (0, 0)) := by
  rw [h.block k (lt_of_some hb) (fun s => ?_)]
  · exact hb
  · obtain ⟨c2, t2, e1, p⟩ := s.2
    rw [hb] at e1
    cases e1
    exact ht p

theorem IsRef.inR {B : Nat} {w : World} {q : Rh} {d : DV} (hd : IsRef B w q d) : ∀ k, q.fp k → SR B w k := by
  intro k hk
  obtain ⟨cur, t, e, p⟩ := hd.kinds k hk
  exact ⟨(hd.lt k hk).1, cur, t, e, by rcases p with p | p | p; exact .inl p; exact .inr (.inl p); exact .inr (.inr (.inl p))⟩

theorem IsRef.keptR {B : Nat} {w w' : World} {q : Rh} {d : DV} (hd : IsRef B w q d) (hk : Kept q.fp w w') : KeptR B w w' := hk.mono fun k _ hs => hd.inR k hs

/- The program's image stays. -/
theorem IsImg.keptR {B B' : Nat} {w w' : World} {x : Ih} {v : IV} (h : IsImg B w x v) (hk : KeptR B' w w') : IsImg B w' x v := by
  obtain ⟨_, cur, hh⟩ := h.tb
  obtain ⟨es, c, hm⟩ := ownsMap_is h.map
  refine h.keep ?_ ?_ ?_ fun k hf => ?_
  · rw [hk.box h.blk (by decide)]; exact h.blk.symm
  · refine hk.block _ (lt_of_some hm) fun s => ?_
    obtain ⟨c2, t2, e1, p⟩ := s.2
    rw [hm] at e1; cases e1
  · rw [hk.box hh (by decide)]; exact hh.symm
  · obtain ⟨c2, t, e1, p⟩ := h.dev.kinds k hf
    rw [hk.box e1 (by rcases p with rfl | rfl | rfl <;> decide)]; exact e1.symm

theorem IsDev.keptByR {B B' : Nat} {w w' : World} {h : Hd} {d : DV} (hd : IsDev B w h d) (hk : KeptR B' w w') : IsDev B w' h d :=
  hd.keep fun k hf => by
    obtain ⟨c2, t, e1, p⟩ := hd.kinds k hf
    rw [hk.box e1 (by rcases p with rfl | rfl | rfl <;> decide)]; exact e1.symm

theorem IsRef.keptByP {B B' tb : Nat} {w w' : World} {q : Rh} {d : DV} (hd : IsRef B w q d) (hk : KeptP B' tb w w') (ht : ∃ cur, w.heap[tb]? = some (.cells cur 74 (0, 0))) : IsRef B w' q d := by
  obtain ⟨ct, ht⟩ := ht
  refine hd.keep fun k hf => ?_
  obtain ⟨c2, t, e1, p⟩ := hd.kinds k hf
  have hne : k ≠ tb := fun e => by
    rw [e, ht] at e1
    cases e1
    rcases p with p | p | p <;> cases p
  rw [hk.box e1 (by rcases p with rfl | rfl | rfl <;> decide) hne]; exact e1.symm

structure Qh where
  p : Nat
  d : Rh
  vt : Value
  vh : Value

structure IsRim (B : Nat) (w : World) (q : Qh) (v : IV) : Prop where
  blk : w.heap[q.p]? = some (.cells #[.pointer (some ⟨q.d.p, 0, none⟩), .int .i64 v.h.c, .int .i64 v.h.p, .int .i64 v.h.b, q.vt, q.vh] 72 (0, 0))
  pB : B ≤ q.p
  dev : IsRef B w q.d v.d
  own : w.ownsRow B 74 2 q.vt v.t.length (entV v.t)
  held : w.ownsRow B 3 1 q.vh v.held.length (natV v.held)
  ne : ∀ k, q.vh.ownBlock = some k → q.d.v1.ownBlock ≠ some k

theorem IsRim.cells {B : Nat} {w : World} {q : Qh} {v : IV} (h : IsRim B w q v) :
    w.cell? ⟨q.p, 0, none⟩ = some (.pointer (some ⟨q.d.p, 0, none⟩)) ∧ w.cell? ⟨q.p, 1, none⟩ = some (.int .i64 v.h.c) ∧ w.cell? ⟨q.p, 2, none⟩ = some (.int .i64 v.h.p) ∧ w.cell? ⟨q.p, 3, none⟩ = some (.int .i64 v.h.b) ∧
    w.cell? ⟨q.p, 4, none⟩ = some q.vt ∧ w.cell? ⟨q.p, 5, none⟩ = some q.vh ∧ ∀ j, w.frozen? ⟨q.p, j, none⟩ = false := by
  have hb := h.blk
  refine ⟨?_, ?_, ?_, ?_, ?_, ?_, fun j => frozen_of_row w q.p j _ _ hb⟩ <;> rw [cell_of_row w q.p _ _ _ _ hb] <;> rfl

theorem IsRim.keep {B : Nat} {w w' : World} {q : Qh} {v : IV} (h : IsRim B w q v) (hp : w'.heap[q.p]? = w.heap[q.p]?) (ht : ∀ k, q.vt.ownBlock = some k → w'.heap[k]? = w.heap[k]?) (hh : ∀ k, q.vh.ownBlock = some k → w'.heap[k]? = w.heap[k]?) (hd : ∀ k, q.d.fp k → w'.heap[k]? = w.heap[k]?) : IsRim B w' q v :=
  ⟨by rw [hp]; exact h.blk, h.pB, h.dev.keep hd, ownsRow_keep h.own ht, ownsRow_keep h.held hh, h.ne⟩

theorem IsRim.below {B : Nat} {w w' : World} {q : Qh} {v : IV} (h : IsRim B w q v) (hb : Below w.heap.size w w') : IsRim B w' q v :=
  h.keep (hb.block _ (lt_of_some h.blk)) (fun k e => hb.block _ (h.own.lt k e).2) (fun k e => hb.block _ (h.held.lt k e).2) fun k hk => hb.block _ (h.dev.lt k hk).2

theorem IsRim.drew {B : Nat} {w : World} {q : Qh} {v : IV} (h : IsRim B w q v) : IsRim B w.drew q v := h.keep rfl (fun _ _ => rfl) (fun _ _ => rfl) fun _ _ => rfl

/- It stays while the program's image turns, whose table's row is another. -/
theorem IsRim.keptP {B B' tb : Nat} {w w' : World} {q : Qh} {v : IV} (h : IsRim B w q v) (hk : KeptP B' tb w w') (ht : ∃ cur, w.heap[tb]? = some (.cells cur 74 (0, 0))) (hne : ∀ k, q.vt.ownBlock = some k → k ≠ tb) : IsRim B w' q v := by
  obtain ⟨ct, htb⟩ := ht
  refine h.keep ?_ (fun k e => ?_) (fun k e => ?_) fun k hf => ?_
  · have n1 : q.p ≠ tb := fun e => by have := h.blk; rw [e, htb] at this; cases this
    rw [hk.box h.blk (by decide) n1]; exact h.blk.symm
  · obtain ⟨cur, hh⟩ := ownsRow_kind h.own k e
    rw [hk.box hh (by decide) (hne k e)]; exact hh.symm
  · obtain ⟨cur, hh⟩ := ownsRow_kind h.held k e
    have n1 : k ≠ tb := fun e => by rw [e, htb] at hh; cases hh
    rw [hk.box hh (by decide) n1]; exact hh.symm
  · obtain ⟨c2, t, e1, p⟩ := h.dev.kinds k hf
    have n1 : k ≠ tb := fun e => by
      rw [e, htb] at e1
      cases e1
      rcases p with p | p | p <;> cases p
    rw [hk.box e1 (by rcases p with rfl | rfl | rfl <;> decide) n1]; exact e1.symm

/- The device's write, whether it fails or not. -/
theorem rWrite_any {B n m : Nat} {q : Rh} {d : DV} (i : Nat) (s : ByteArray) (w : World) (hd : IsRef B w q d) (hf : d.fine n m) (hm : m < 1000000000) (hB : B ≤ w.heap.size) (hs : s.size = 16) (hi : i < n) :
    Calls Tryz.prog 36 #[.pointer (some ⟨q.p, 0, none⟩), .int .i64 (i : Int), .string s] w fun e w' =>
      ∃ q' : Rh, e = .returned (.int .i64 d.putF) ∧ q'.p = q.p ∧ IsRef B w' q' (d.put i s.data.toList) ∧ Kept q.fp w w' ∧ ∀ r, q'.v1.ownBlock = some r → q.v1.ownBlock = some r ∨ w.heap.size ≤ r := by
  have hl := hf.len
  have hw := hf.wr
  unfold DV.put DV.putF
  by_cases h0 : d.fail = 0
  · rw [if_pos h0, if_pos h0]
    refine (refWrite_io i s w hd hs (by omega) h0).mono ?_
    rintro e w' ⟨rfl, h1, h2⟩
    exact ⟨q, rfl, rfl, h1, h2, fun r hr => .inl hr⟩
  · rw [if_neg h0, if_neg h0]
    refine (refWrite_at i s w hd hB hs (by omega) h0 hf.ok.f1 hf.ok.f2 hf.ok.few (by omega)).mono ?_
    rintro e w' ⟨q', rfl, h1, h2, h3, h4⟩
    exact ⟨q', rfl, h1, h2, h3, h4⟩

/- The device has turned. -/
theorem IsRim.devd {B : Nat} {w w' : World} {q : Qh} {v : IV} (h : IsRim B w q v) {q' : Rh} {d' : DV} (hd : IsRef B w' q' d') (hp : q'.p = q.d.p) (hk : Kept q.d.fp w w') (hv : ∀ r, q'.v1.ownBlock = some r → q.d.v1.ownBlock = some r ∨ w.heap.size ≤ r) :
    IsRim B w' { q with d := q' } { v with d := d' } ∧ KeptR B w w' := by
  have n1 : ¬ q.d.fp q.p := fun e => by
    obtain ⟨cur, t, e1, p⟩ := h.dev.kinds _ e
    rw [h.blk] at e1
    cases e1
    rcases p with p | p | p <;> cases p
  have n2 : ∀ k, q.vt.ownBlock = some k → ¬ q.d.fp k := fun k hk e => by
    obtain ⟨cur, t, e1, p⟩ := h.dev.kinds _ e
    obtain ⟨c2, e2⟩ := ownsRow_kind h.own k hk
    rw [e2] at e1
    cases e1
    rcases p with p | p | p <;> cases p
  have n3 : ∀ k, q.vh.ownBlock = some k → ¬ q.d.fp k := fun k hk e => by
    obtain ⟨c2, e2⟩ := ownsRow_kind h.held k hk
    rcases e with e | e | e | e
    · subst e
      have := h.dev.blk
      rw [e2] at this; cases this
    · subst e
      obtain ⟨_, c3, e3, _⟩ := ownsRow_block h.dev.of
      rw [e2] at e3; cases e3
    · exact h.ne k hk e
    · obtain ⟨c3, e3⟩ := ownsRow_kind h.dev.o2 k e
      rw [e2] at e3; cases e3
  refine ⟨⟨?_, h.pB, hd, ownsRow_keep h.own fun k e => hk.block _ (h.own.lt k e).2 (n2 k e), ownsRow_keep h.held fun k e => hk.block _ (h.held.lt k e).2 (n3 k e), fun k e1 e2 => ?_⟩, h.dev.keptR hk⟩
  · show w'.heap[q.p]? = some (.cells #[.pointer (some ⟨q'.p, 0, none⟩), _, _, _, _, _] _ _)
    rw [hp, hk.block _ (lt_of_some h.blk) n1]; exact h.blk
  · rcases hv k e2 with h1 | h1
    · exact h.ne k e1 h1
    · have := (h.held.lt k e1).2; omega

/- A cell of the image's own block. -/
theorem IsRim.setP {B : Nat} {w : World} {q : Qh} {v : IV} (h : IsRim B w q v) (i : Nat) (u : Value) {q2 : Qh} {v2 : IV} (hq : q2.p = q.p) (hqd : q2.d = q.d) (hd : v2.d = v.d)
    (hc : (#[.pointer (some ⟨q.d.p, 0, none⟩), .int .i64 v.h.c, .int .i64 v.h.p, .int .i64 v.h.b, q.vt, q.vh] : Array Value).setIfInBounds i u = #[.pointer (some ⟨q.d.p, 0, none⟩), .int .i64 v2.h.c, .int .i64 v2.h.p, .int .i64 v2.h.b, q2.vt, q2.vh])
    (ht : w.ownsRow B 74 2 q2.vt v2.t.length (entV v2.t)) (hh : w.ownsRow B 3 1 q2.vh v2.held.length (natV v2.held)) (hne : ∀ k, q2.vh.ownBlock = some k → q.d.v1.ownBlock ≠ some k) :
    IsRim B (w.setCell ⟨q.p, i, none⟩ u) q2 v2 ∧ KeptR B w (w.setCell ⟨q.p, i, none⟩ u) := by
  have hb := h.blk
  have n1 : ∀ k, q.d.fp k → k ≠ q.p := fun k hk e => by
    obtain ⟨cur2, t, e1, p⟩ := h.dev.kinds _ hk
    rw [e, hb] at e1
    cases e1
    rcases p with p | p | p <;> cases p
  have n2 : ∀ k, q2.vt.ownBlock = some k → k ≠ q.p := fun k hk e => by
    obtain ⟨c2, e2⟩ := ownsRow_kind ht k hk
    rw [e, hb] at e2; cases e2
  have n3 : ∀ k, q2.vh.ownBlock = some k → k ≠ q.p := fun k hk e => by
    obtain ⟨c2, e2⟩ := ownsRow_kind hh k hk
    rw [e, hb] at e2; cases e2
  refine ⟨⟨?_, by rw [hq]; exact h.pB, ?_, ownsRow_keep ht fun k e => heap_setCell_other _ _ _ _ (n2 k e), ownsRow_keep hh fun k e => heap_setCell_other _ _ _ _ (n3 k e), ?_⟩, ?_⟩
  · rw [hq, hqd, heap_setCell_same w q.p i _ _ u hb, hc]
  · rw [hqd, hd]; exact h.dev.keep fun k hk => heap_setCell_other _ _ _ _ (n1 k hk)
  · rw [hqd]; exact hne
  · exact (Kept.refl (SR B w) w).setCell (p := ⟨q.p, i, none⟩) (.inl ⟨h.pB, _, _, hb, .inr (.inr (.inr rfl))⟩) _

theorem rim_shape {B : Nat} {w : World} {q : Qh} {v : IV} (h : IsRim B w q v) : (∃ a cap, q.vt = .slice a v.t.length cap) ∧ ∃ a cap, q.vh = .slice a v.held.length cap := ⟨ownsRow_shape h.own, ownsRow_shape h.held⟩

theorem ents_rim {B : Nat} {w : World} {v : IV} {q : Qh} {g cap : Nat} (h : IsRim B w q v) (hv : q.vt = .slice (some ⟨g, 0, none⟩) v.t.length cap) : Ents w (some ⟨g, 0, none⟩) v.t.length v.t := by
  have ho := h.own
  rw [hv] at ho
  exact ents_of_owns ho _ (by rw [List.take_of_length_le (by rw [entV_len]; exact Nat.le_refl _)]) (Nat.le_refl _) rfl
end Go.Proofs.YtncjnjlakhohgaaGreat
