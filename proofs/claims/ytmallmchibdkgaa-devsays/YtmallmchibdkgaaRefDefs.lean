/-
How the document's own device lies in memory: the same numbers, in lists of texts.
-/
import Derived.Test.YtmallmchibdkgaaDevOf
import Derived.Test.YtmallmchibdkgaaActs
import Derived.BigRegion
namespace Go.Proofs.Ytmallmchibdkgaa
open Go.RowKit
attribute [local go_sem ↓] Go.wp_at_zero Go.wp_at_succ

structure Rh where
  p : Nat
  bf : Nat
  cf : Nat
  v1 : Value
  v2 : Value

def flS (l : List (List UInt8)) : List Value := l.map fun s => .string (bytesOf s)
def atS (l : List (Nat × List UInt8)) : List Value := l.map fun x => .int .i64 (x.1 : Int)
def whS (l : List (Nat × List UInt8)) : List Value := l.map fun x => .string (bytesOf x.2)

def Rh.fp (q : Rh) (k : Nat) : Prop := k = q.p ∨ k = q.bf ∨ q.v1.ownBlock = some k ∨ q.v2.ownBlock = some k

structure IsRef (B : Nat) (w : World) (q : Rh) (d : DV) : Prop where
  pB : B ≤ q.p
  blk : w.heap[q.p]? = some (.cells #[.slice (some ⟨q.bf, 0, none⟩) d.fl.length q.cf, q.v1, q.v2, .int .i64 d.fail, .int .i64 (d.wr : Int)] 55 (0, 0))
  of : w.ownsRow B 9 1 (.slice (some ⟨q.bf, 0, none⟩) d.fl.length q.cf) d.fl.length (flS d.fl)
  o1 : w.ownsRow B 3 1 q.v1 d.pend.length (atS d.pend)
  o2 : w.ownsRow B 9 1 q.v2 d.pend.length (whS d.pend)
  ne : q.v2.ownBlock ≠ some q.bf

theorem info_str : (Try.prog.info? 9).map (fun i => (i.zero, i.size, i.bytes)) = some (some (.string ⟨#[]⟩), 1, 16) := by kernel_rfl
theorem info_int : (Try.prog.info? 3).map (fun i => (i.zero, i.size, i.bytes)) = some (some (.int .i64 0), 1, 8) := by kernel_rfl

theorem IsRef.keep {B : Nat} {w w' : World} {q : Rh} {d : DV} (hd : IsRef B w q d) (hk : ∀ k, q.fp k → w'.heap[k]? = w.heap[k]?) : IsRef B w' q d :=
  ⟨hd.pB, by rw [hk _ (.inl rfl)]; exact hd.blk, ownsRow_keep hd.of (fun k e => hk k (.inr (.inl (by simpa [Value.ownBlock] using e.symm)))), ownsRow_keep hd.o1 (fun k e => hk k (.inr (.inr (.inl e)))), ownsRow_keep hd.o2 (fun k e => hk k (.inr (.inr (.inr e)))), hd.ne⟩

theorem IsRef.lt {B : Nat} {w : World} {q : Rh} {d : DV} (hd : IsRef B w q d) : ∀ k, q.fp k → B ≤ k ∧ k < w.heap.size := by
  intro k hk
  rcases hk with rfl | rfl | hk | hk
  · exact ⟨hd.pB, lt_of_some hd.blk⟩
  · obtain ⟨hb, cur, hh, _⟩ := ownsRow_block hd.of; exact ⟨hb, lt_of_some hh⟩
  · exact hd.o1.lt k hk
  · exact hd.o2.lt k hk

/- What kind of cells a block of it holds. -/
theorem ownsRow_kind {w : World} {B e size n : Nat} {v : Value} {xs : List Value} (h : w.ownsRow B e size v n xs) (k : Nat) (hk : v.ownBlock = some k) : ∃ cur, w.heap[k]? = some (.cells cur e (0, 0)) := by
  rcases h.2 with ⟨q, _⟩ | ⟨g, cap, cur, q, _, hg, _⟩
  · rw [q] at hk; cases hk
  · rw [q] at hk
    have : g = k := by simpa [Value.ownBlock] using hk
    subst this
    exact ⟨cur, hg⟩

theorem IsRef.kinds {B : Nat} {w : World} {q : Rh} {d : DV} (hd : IsRef B w q d) (k : Nat) (hk : q.fp k) : ∃ cur t, w.heap[k]? = some (.cells cur t (0, 0)) ∧ (t = 55 ∨ t = 9 ∨ t = 3) := by
  rcases hk with rfl | rfl | hk | hk
  · exact ⟨_, _, hd.blk, .inl rfl⟩
  · obtain ⟨_, cur, hh, _⟩ := ownsRow_block hd.of; exact ⟨cur, _, hh, .inr (.inl rfl)⟩
  · obtain ⟨cur, hh⟩ := ownsRow_kind hd.o1 k hk; exact ⟨cur, _, hh, .inr (.inr rfl)⟩
  · obtain ⟨cur, hh⟩ := ownsRow_kind hd.o2 k hk; exact ⟨cur, _, hh, .inr (.inl rfl)⟩

theorem IsDev.kinds {B : Nat} {w : World} {h : Hd} {d : DV} (hd : IsDev B w h d) (k : Nat) (hk : h.fp k) : ∃ cur t, w.heap[k]? = some (.cells cur t (0, 0)) ∧ (t = 110 ∨ t = 105 ∨ t = 113) := by
  rcases hk with rfl | rfl | rfl | hk
  · exact ⟨_, _, hd.blk, .inl rfl⟩
  · obtain ⟨_, cur, hh, _⟩ := ownsRow_block hd.of; exact ⟨cur, _, hh, .inr (.inl rfl)⟩
  · obtain ⟨_, cur, hh, _⟩ := ownsRow_block hd.os; exact ⟨cur, _, hh, .inr (.inl rfl)⟩
  · obtain ⟨cur, hh⟩ := ownsRow_kind hd.op k hk; exact ⟨cur, _, hh, .inr (.inr rfl)⟩

/- The two never share a block. -/
theorem apart_kinds {B B' : Nat} {w : World} {h : Hd} {q : Rh} {d d' : DV} (hd : IsDev B w h d) (hr : IsRef B' w q d') : ∀ k, h.fp k → ¬ q.fp k := by
  intro k h1 h2
  obtain ⟨c1, t1, e1, p1⟩ := hd.kinds k h1
  obtain ⟨c2, t2, e2, p2⟩ := hr.kinds k h2
  rw [e1] at e2
  simp only [Option.some.injEq, Obj.cells.injEq] at e2
  obtain ⟨_, rfl, _⟩ := e2
  rcases p1 with rfl | rfl | rfl <;> rcases p2 with p2 | p2 | p2 <;> cases p2

theorem IsRef.cells {B : Nat} {w : World} {q : Rh} {d : DV} (hd : IsRef B w q d) :
    w.cell? ⟨q.p, 0, none⟩ = some (.slice (some ⟨q.bf, 0, none⟩) d.fl.length q.cf) ∧ w.cell? ⟨q.p, 1, none⟩ = some q.v1 ∧ w.cell? ⟨q.p, 2, none⟩ = some q.v2 ∧ w.cell? ⟨q.p, 3, none⟩ = some (.int .i64 d.fail) ∧ w.cell? ⟨q.p, 4, none⟩ = some (.int .i64 (d.wr : Int)) ∧ ∀ j, w.frozen? ⟨q.p, j, none⟩ = false := by
  have hb := hd.blk
  refine ⟨?_, ?_, ?_, ?_, ?_, fun j => frozen_of_row w q.p j _ _ hb⟩ <;> rw [cell_of_row w q.p _ _ _ _ hb] <;> rfl

theorem ownsRow_shape {w : World} {B e size n : Nat} {v : Value} {xs : List Value} (h : w.ownsRow B e size v n xs) : ∃ a cap, v = .slice a n cap := by
  rcases h.2 with ⟨h0, h1⟩ | ⟨g, cap, cur, hv, _⟩
  · exact ⟨none, 0, by rw [h0, h1]⟩
  · exact ⟨_, cap, hv⟩

/- One element of a row that is owned. -/
theorem ownsRow_cell {w : World} {B e n : Nat} {v : Value} {xs : List Value} (h : w.ownsRow B e 1 v n xs) (k : Nat) (hk : k < n) : ∃ g cap, v = .slice (some ⟨g, 0, none⟩) n cap ∧ w.cell? ⟨g, k, none⟩ = xs[k]? ∧ g < w.heap.size ∧ w.frozen? ⟨g, k, none⟩ = false := by
  obtain ⟨g, cap, hv, _, hg⟩ := h.form (by omega)
  subst hv
  exact ⟨g, cap, rfl, h.cellAt k (by omega), hg, h.frozenAt k⟩

theorem IsRef.apart {B : Nat} {w : World} {q : Rh} {d : DV} (hd : IsRef B w q d) : q.bf ≠ q.p ∧ q.v1.ownBlock ≠ some q.p ∧ q.v2.ownBlock ≠ some q.p ∧ q.v1.ownBlock ≠ some q.bf ∧ (∀ k, q.v1.ownBlock = some k → q.v2.ownBlock ≠ some k) := by
  obtain ⟨_, cf, hf2, _⟩ := ownsRow_block hd.of
  have hp := hd.blk
  refine ⟨fun e => ?_, fun e => ?_, fun e => ?_, fun e => ?_, fun k e1 e2 => ?_⟩
  · rw [← e, hf2] at hp; cases hp
  · obtain ⟨cur, hh⟩ := ownsRow_kind hd.o1 _ e; rw [hh] at hp; cases hp
  · obtain ⟨cur, hh⟩ := ownsRow_kind hd.o2 _ e; rw [hh] at hp; cases hp
  · obtain ⟨cur, hh⟩ := ownsRow_kind hd.o1 _ e; rw [hh] at hf2; cases hf2
  · obtain ⟨c1, h1⟩ := ownsRow_kind hd.o1 _ e1
    obtain ⟨c2, h2⟩ := ownsRow_kind hd.o2 _ e2
    rw [h1] at h2; cases h2
end Go.Proofs.Ytmallmchibdkgaa
