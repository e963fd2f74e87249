/-
How a device lies in memory (package dev): what is flushed, seen and pending, as lists of bytes; frames by sets of blocks.
-/
import Derived.Test.YtncjnjlakhohgaaRows
import Derived.WalkKit
import Derived.WalkSpells
import Derived.WalkLawsBesides
import Derived.Deep.MidRow
import Derived.Deep.AppendLies
import Derived.Laws.CopyOwn
import Derived.Deep.QuietTactic
import Derived.BigQuiet
namespace Go.Proofs.Ytncjnjlakhohgaa
open Go.RowKit

/- Of the blocks that were there those outside S are as they were. -/
structure Kept (S : Nat → Prop) (w w' : World) : Prop where
  os : w'.os = w.os
  tape : w'.tape = w.tape
  output : w'.output = w.output
  size : w.heap.size ≤ w'.heap.size
  block : ∀ k, k < w.heap.size → ¬ S k → w'.heap[k]? = w.heap[k]?

theorem Kept.refl (S : Nat → Prop) (w : World) : Kept S w w := ⟨rfl, rfl, rfl, Nat.le_refl _, fun _ _ _ => rfl⟩

theorem Kept.trans {S : Nat → Prop} {a b c : World} (h : Kept S a b) (k : Kept S b c) : Kept S a c :=
  ⟨k.os.trans h.os, k.tape.trans h.tape, k.output.trans h.output, Nat.le_trans h.size k.size, fun i hi hs => (k.block i (Nat.lt_of_lt_of_le hi h.size) hs).trans (h.block i hi hs)⟩

theorem Kept.mono {S T : Nat → Prop} {a b : World} (h : Kept S a b) (hs : ∀ k, k < a.heap.size → S k → T k) : Kept T a b :=
  ⟨h.os, h.tape, h.output, h.size, fun i hi ht => h.block i hi fun s => ht (hs i hi s)⟩

theorem Kept.drew {S : Nat → Prop} {a w : World} (h : Kept S a w) : Kept S a w.drew := ⟨h.os, h.tape, h.output, h.size, h.block⟩
theorem Kept.drewN {S : Nat → Prop} {a w : World} (h : Kept S a w) (n : Nat) : Kept S a (w.drewN n) := ⟨h.os, h.tape, h.output, h.size, h.block⟩

theorem Kept.alloc {S : Nat → Prop} {a w : World} (h : Kept S a w) (o : Obj) : Kept S a (w.alloc o) :=
  ⟨h.os, h.tape, h.output, by have := h.size; simp; omega, fun k hk hs => (Below.heap_alloc w o k (Nat.lt_of_lt_of_le hk h.size)).trans (h.block k hk hs)⟩

theorem Kept.setCell {S : Nat → Prop} {a w : World} (h : Kept S a w) {p : Addr} (hp : S p.block ∨ a.heap.size ≤ p.block) (u : Value) : Kept S a (w.setCell p u) :=
  ⟨h.os, h.tape, h.output, by simpa [World.setCell] using h.size, fun k hk hs => (heap_setCell_other w p k u (fun e => by rcases hp with hp | hp; exact hs (e ▸ hp); omega)).trans (h.block k hk hs)⟩

theorem Kept.grown {S : Nat → Prop} {a w w' : World} {row : Option Nat} (h : Kept S a w) (hg : w.grownBy w' row) (hr : ∀ k, row = some k → S k ∨ a.heap.size ≤ k) : Kept S a w' :=
  ⟨hg.os.trans h.os, hg.tape.trans h.tape, hg.output.trans h.output, Nat.le_trans h.size hg.size, fun k hk hs => (hg.block k (Nat.lt_of_lt_of_le hk h.size) (fun e => by rcases hr k e.symm with hp | hp; exact hs hp; omega)).trans (h.block k hk hs)⟩

theorem Kept.below {S : Nat → Prop} {a w : World} {B : Nat} (h : Kept S a w) (hB : B ≤ a.heap.size) (hs : ∀ k, S k → B ≤ k) : Below B a w :=
  ⟨h.os, h.tape, h.output, h.size, fun k hk => h.block k (Nat.lt_of_lt_of_le hk hB) fun s => by have := hs k s; omega⟩

theorem Below.kept {S : Nat → Prop} {a w : World} (h : Below a.heap.size a w) : Kept S a w := ⟨h.os, h.tape, h.output, h.size, fun k hk _ => h.block k hk⟩

/- Bytes, sectors and writes as cells. -/
def secV (s : List UInt8) : List Value := s.map fun b => .int .u8 (b.toNat : Int)
def secsV (l : List (List UInt8)) : List Value := (l.map secV).flatten
def wrV (x : Nat × List UInt8) : List Value := .int .i64 (x.1 : Int) :: secV x.2
def wrsV (l : List (Nat × List UInt8)) : List Value := (l.map wrV).flatten

structure DV where
  fl : List (List UInt8)
  seen : List (List UInt8)
  pend : List (Nat × List UInt8)
  wr : Nat
  fail : Int

structure DV.ok (d : DV) : Prop where
  n1 : 1 ≤ d.fl.length
  n2 : d.fl.length ≤ 200
  same : d.seen.length = d.fl.length
  l1 : ∀ s ∈ d.fl, s.length = 16
  l2 : ∀ s ∈ d.seen, s.length = 16
  l3 : ∀ x ∈ d.pend, x.1 < d.fl.length ∧ x.2.length = 16
  few : d.pend.length ≤ d.wr
  few2 : d.wr ≤ 1000000000
  f1 : -1 ≤ d.fail
  f2 : d.fail ≤ 9223372036854775807

structure Hd where
  p : Nat
  bf : Nat
  cf : Nat
  bs : Nat
  cs : Nat
  v2 : Value

def Hd.fp (h : Hd) (k : Nat) : Prop := k = h.p ∨ k = h.bf ∨ k = h.bs ∨ h.v2.ownBlock = some k

structure IsDev (B : Nat) (w : World) (h : Hd) (d : DV) : Prop where
  ok : d.ok
  pB : B ≤ h.p
  blk : w.heap[h.p]? = some (.cells #[.slice (some ⟨h.bf, 0, none⟩) d.fl.length h.cf, .slice (some ⟨h.bs, 0, none⟩) d.fl.length h.cs, h.v2, .int .i64 (d.wr : Int), .int .i64 d.fail] 120 (0, 0))
  of : w.ownsRow B 115 16 (.slice (some ⟨h.bf, 0, none⟩) d.fl.length h.cf) d.fl.length (secsV d.fl)
  os : w.ownsRow B 115 16 (.slice (some ⟨h.bs, 0, none⟩) d.fl.length h.cs) d.fl.length (secsV d.seen)
  op : w.ownsRow B 123 17 h.v2 d.pend.length (wrsV d.pend)
  ne : h.bf ≠ h.bs
  pn : d.pend = [] → h.v2 = .slice none 0 0

theorem ownsRow_block {w : World} {B e size g n cap : Nat} {xs : List Value} (h : w.ownsRow B e size (.slice (some ⟨g, 0, none⟩) n cap) n xs) :
    B ≤ g ∧ ∃ cur, w.heap[g]? = some (.cells cur e (0, 0)) ∧ n ≤ cap ∧ cap ≤ maxLen ∧ cur.size = cap * size ∧ cur.toList.take (n * size) = xs := by
  rcases h.2 with ⟨h0, _⟩ | ⟨g', cap', cur, hv, hb, hh, h1, h2, h3, h4⟩
  · cases h0
  · cases hv
    exact ⟨hb, cur, hh, h1, h2, h3, h4⟩

theorem ownsRow_keep {w w' : World} {B e size n : Nat} {v : Value} {xs : List Value} (h : w.ownsRow B e size v n xs) (hk : ∀ k, v.ownBlock = some k → w'.heap[k]? = w.heap[k]?) : w'.ownsRow B e size v n xs := by
  obtain ⟨h1, h2⟩ := h
  refine ⟨h1, ?_⟩
  rcases h2 with h2 | ⟨g, cap, cur, hv, hb, hh, r⟩
  · exact .inl h2
  · exact .inr ⟨g, cap, cur, hv, hb, by rw [hk g (by rw [hv]; rfl)]; exact hh, r⟩

theorem ownsRow_base {w : World} {B B' e size n : Nat} {v : Value} {xs : List Value} (h : w.ownsRow B' e size v n xs) (hB : B ≤ B') : w.ownsRow B e size v n xs := by
  refine ⟨h.1, ?_⟩
  rcases h.2 with h0 | ⟨g2, cap2, cur2, hv, hb, r⟩
  · exact .inl h0
  · exact .inr ⟨g2, cap2, cur2, hv, by omega, r⟩

theorem lt_of_some {w : World} {k : Nat} {o : Obj} (h : w.heap[k]? = some o) : k < w.heap.size := by
  rcases Nat.lt_or_ge k w.heap.size with h' | h'
  · exact h'
  · rw [Array.getElem?_eq_none h'] at h; cases h

theorem IsDev.keep {B : Nat} {w w' : World} {h : Hd} {d : DV} (hd : IsDev B w h d) (hk : ∀ k, h.fp k → w'.heap[k]? = w.heap[k]?) : IsDev B w' h d :=
  ⟨hd.ok, hd.pB, by rw [hk _ (.inl rfl)]; exact hd.blk, ownsRow_keep hd.of (fun k e => hk k (.inr (.inl (by simpa [Value.ownBlock] using e.symm)))), ownsRow_keep hd.os (fun k e => hk k (.inr (.inr (.inl (by simpa [Value.ownBlock] using e.symm))))), ownsRow_keep hd.op (fun k e => hk k (.inr (.inr (.inr e)))), hd.ne, hd.pn⟩

theorem IsDev.lt {B : Nat} {w : World} {h : Hd} {d : DV} (hd : IsDev B w h d) : ∀ k, h.fp k → B ≤ k ∧ k < w.heap.size := by
  intro k hk
  rcases hk with rfl | rfl | rfl | hk
  · exact ⟨hd.pB, lt_of_some hd.blk⟩
  · obtain ⟨hb, cur, hh, _⟩ := ownsRow_block hd.of; exact ⟨hb, lt_of_some hh⟩
  · obtain ⟨hb, cur, hh, _⟩ := ownsRow_block hd.os; exact ⟨hb, lt_of_some hh⟩
  · exact hd.op.lt k hk

theorem IsDev.kept {B : Nat} {w w' : World} {h : Hd} {d : DV} {S : Nat → Prop} (hd : IsDev B w h d) (hk : Kept S w w') (hs : ∀ k, h.fp k → ¬ S k) : IsDev B w' h d :=
  hd.keep fun k hf => hk.block k (hd.lt k hf).2 (hs k hf)

/- The five cells of a device's own block. -/
theorem IsDev.cells {B : Nat} {w : World} {h : Hd} {d : DV} (hd : IsDev B w h d) :
    w.cell? ⟨h.p, 0, none⟩ = some (.slice (some ⟨h.bf, 0, none⟩) d.fl.length h.cf) ∧ w.cell? ⟨h.p, 1, none⟩ = some (.slice (some ⟨h.bs, 0, none⟩) d.fl.length h.cs) ∧
    w.cell? ⟨h.p, 2, none⟩ = some h.v2 ∧ w.cell? ⟨h.p, 3, none⟩ = some (.int .i64 (d.wr : Int)) ∧ w.cell? ⟨h.p, 4, none⟩ = some (.int .i64 d.fail) ∧ ∀ j, w.frozen? ⟨h.p, j, none⟩ = false := by
  have hb := hd.blk
  refine ⟨?_, ?_, ?_, ?_, ?_, fun j => frozen_of_row w h.p j _ _ hb⟩ <;> rw [cell_of_row w h.p _ _ _ _ hb] <;> rfl

/- The shape of the pending ones' slice. -/
theorem IsDev.v2 {B : Nat} {w : World} {h : Hd} {d : DV} (hd : IsDev B w h d) : ∃ a cap, h.v2 = .slice a d.pend.length cap := by
  rcases hd.op.2 with ⟨h0, h1⟩ | ⟨g, cap, cur, hv, _⟩
  · exact ⟨none, 0, by rw [h0, h1]⟩
  · exact ⟨_, cap, hv⟩

/- The blocks of a device are apart. -/
theorem IsDev.apart {B : Nat} {w : World} {h : Hd} {d : DV} (hd : IsDev B w h d) : h.bf ≠ h.p ∧ h.bs ≠ h.p ∧ h.v2.ownBlock ≠ some h.p ∧ h.v2.ownBlock ≠ some h.bf ∧ h.v2.ownBlock ≠ some h.bs := by
  obtain ⟨_, cf, hf2, _⟩ := ownsRow_block hd.of
  obtain ⟨_, cs, hs2, _⟩ := ownsRow_block hd.os
  have hp := hd.blk
  refine ⟨fun e => ?_, fun e => ?_, fun e => ?_, fun e => ?_, fun e => ?_⟩
  · rw [← e, hf2] at hp; cases hp
  · rw [← e, hs2] at hp; cases hp
  all_goals
    rcases hd.op.2 with ⟨h0, _⟩ | ⟨g, cap, cur, hv, _, hh, _⟩
    · rw [h0] at e; cases e
    · rw [hv] at e
      simp only [Value.ownBlock, Option.some.injEq] at e
      rw [e] at hh
      first | (rw [hh] at hp; cases hp) | (rw [hh] at hf2; cases hf2) | (rw [hh] at hs2; cases hs2)
end Go.Proofs.Ytncjnjlakhohgaa
