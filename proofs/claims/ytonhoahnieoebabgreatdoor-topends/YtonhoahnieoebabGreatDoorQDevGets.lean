/-
How a device lies in memory (package dev): what is flushed, seen and pending, as lists of bytes; frames by sets of blocks.
What the small calls on a device give: its numbers, whether it has a sector, the write that is to fail.
-/
import Derived.Test.YtonhoahnieoebabGreatDoorRows
import Derived.WalkKit
import Derived.WalkSpells
import Derived.WalkLawsBesides
import Derived.Deep.MidRow
import Derived.Deep.AppendLies
import Derived.Laws.CopyOwn
import Derived.Deep.QuietTactic
import Derived.BigQuiet
namespace Go.Proofs.YtonhoahnieoebabGreatDoor
open Go.RowKit

/- Of the blocks that were there those outside S are as they were. -/
structure Kept (S : Nat → Prop) (w w' : World) : Prop where
  os : w'.os = w.os
  tape : w'.tape = w.tape
  output : w'.output = w.output
  size : w.heap.size ≤ w'.heap.size
  block : ∀ k, k < w.heap.size → ¬ S k → w'.heap[k]? = w.heap[k]?

theorem Kept.refl (S : Nat → Prop) (w : World) : Kept S w w := ⟨rfl, rfl, rfl, Nat.le_refl _, fun _ _ _ => rfl⟩

theorem Kept.trans {S : Nat → Prop} {a b c : World} (h : Kept S a b) (k : Kept S b c) : Kept S a c :=
  ⟨k.os.trans h.os, k.tape.trans h.tape, k.output.trans h.output, Nat.le_trans h.size k.size, fun i hi hs => (k.block i (Nat.lt_of_lt_of_le hi h.size) hs).trans (h.block i hi hs)⟩

theorem Kept.mono {S T : Nat → Prop} {a b : World} (h : Kept S a b) (hs : ∀ k, k < a.heap.size → S k → T k) : Kept T a b :=
  ⟨h.os, h.tape, h.output, h.size, fun i hi ht => h.block i hi fun s => ht (hs i hi s)⟩

theorem Kept.drew {S : Nat → Prop} {a w : World} (h : Kept S a w) : Kept S a w.drew := ⟨h.os, h.tape, h.output, h.size, h.block⟩
theorem Kept.alloc {S : Nat → Prop} {a w : World} (h : Kept S a w) (o : Obj) : Kept S a (w.alloc o) :=
  ⟨h.os, h.tape, h.output, by have := h.size; simp; omega, fun k hk hs => (Below.heap_alloc w o k (Nat.lt_of_lt_of_le hk h.size)).trans (h.block k hk hs)⟩

theorem Kept.setCell {S : Nat → Prop} {a w : World} (h : Kept S a w) {p : Addr} (hp : S p.block ∨ a.heap.size ≤ p.block) (u : Value) : Kept S a (w.setCell p u) :=
  ⟨h.os, h.tape, h.output, by simpa [World.setCell] using h.size, fun k hk hs => (heap_setCell_other w p k u (fun e => by rcases hp with hp | hp; exact hs (e ▸ hp); omega)).trans (h.block k hk hs)⟩

theorem Kept.grown {S : Nat → Prop} {a w w' : World} {row : Option Nat} (h : Kept S a w) (hg : w.grownBy w' row) (hr : ∀ k, row = some k → S k ∨ a.heap.size ≤ k) : Kept S a w' :=
  ⟨hg.os.trans h.os, hg.tape.trans h.tape, hg.output.trans h.output, Nat.le_trans h.size hg.size, fun k hk hs => (hg.block k (Nat.lt_of_lt_of_le hk h.size) (fun e => by rcases hr k e.symm with hp | hp; exact hs hp; omega)).trans (h.block k hk hs)⟩

theorem Kept.below {S : Nat → Prop} {a w : World} {B : Nat} (h : Kept S a w) (hB : B ≤ a.heap.size) (hs : ∀ k, S k → B ≤ k) : Below B a w :=
  ⟨h.os, h.tape, h.output, h.size, fun k hk => h.block k (Nat.lt_of_lt_of_le hk hB) fun s => by have := hs k s; omega⟩

theorem Below.kept {S : Nat → Prop} {a w : World} (h : Below a.heap.size a w) : Kept S a w := ⟨h.os, h.tape, h.output, h.size, fun k hk _ => h.block k hk⟩

/- Bytes, sectors and writes as cells. -/
def secV (s : List UInt8) : List Value := s.map fun b => .int .u8 (b.toNat : Int)
def secsV (l : List (List UInt8)) : List Value := (l.map secV).flatten
def wrV (x : Nat × List UInt8) : List Value := .int .i64 (x.1 : Int) :: secV x.2
def wrsV (l : List (Nat × List UInt8)) : List Value := (l.map wrV).flatten

structure DV where
  fl : List (List UInt8)
  seen : List (List UInt8)
  pend : List (Nat × List UInt8)
  wr : Nat
  fail : Int

structure DV.ok (d : DV) : Prop where
  n1 : 1 ≤ d.fl.length
  n2 : d.fl.length ≤ 200
  same : d.seen.length = d.fl.length
  l1 : ∀ s ∈ d.fl, s.length = 16
  l2 : ∀ s ∈ d.seen, s.length = 16
  l3 : ∀ x ∈ d.pend, x.1 < d.fl.length ∧ x.2.length = 16
  few : d.pend.length ≤ d.wr
  few2 : d.wr ≤ 1000000000
  f1 : -1 ≤ d.fail
  f2 : d.fail ≤ 9223372036854775807

structure Hd where
  p : Nat
  bf : Nat
  cf : Nat
  bs : Nat
  cs : Nat
  v2 : Value

def Hd.fp (h : Hd) (k : Nat) : Prop := k = h.p ∨ k = h.bf ∨ k = h.bs ∨ h.v2.ownBlock = some k

structure IsDev (B : Nat) (w : World) (h : Hd) (d : DV) : Prop where
  ok : d.ok
  pB : B ≤ h.p
  blk : w.heap[h.p]? = some (.cells #[.slice (some ⟨h.bf, 0, none⟩) d.fl.length h.cf, .slice (some ⟨h.bs, 0, none⟩) d.fl.length h.cs, h.v2, .int .i64 (d.wr : Int), .int .i64 d.fail] 264 (0, 0))
  of : w.ownsRow B 261 16 (.slice (some ⟨h.bf, 0, none⟩) d.fl.length h.cf) d.fl.length (secsV d.fl)
  os : w.ownsRow B 261 16 (.slice (some ⟨h.bs, 0, none⟩) d.fl.length h.cs) d.fl.length (secsV d.seen)
  op : w.ownsRow B 266 17 h.v2 d.pend.length (wrsV d.pend)
  ne : h.bf ≠ h.bs
  pn : d.pend = [] → h.v2 = .slice none 0 0

theorem ownsRow_block {w : World} {B e size g n cap : Nat} {xs : List Value} (h : w.ownsRow B e size (.slice (some ⟨g, 0, none⟩) n cap) n xs) :
    B ≤ g ∧ ∃ cur, w.heap[g]? = some (.cells cur e (0, 0)) ∧ n ≤ cap ∧ cap ≤ maxLen ∧ cur.size = cap * size ∧ cur.toList.take (n * size) = xs := by
  rcases h.2 with ⟨h0, _⟩ | ⟨g', cap', cur, hv, hb, hh, h1, h2, h3, h4⟩
  · cases h0
  · cases hv
    exact ⟨hb, cur, hh, h1, h2, h3, h4⟩

theorem ownsRow_keep {w w' : World} {B e size n : Nat} {v : Value} {xs : List Value} (h : w.ownsRow B e size v n xs) (hk : ∀ k, v.ownBlock = some k → w'.heap[k]? = w.heap[k]?) : w'.ownsRow B e size v n xs := by
  obtain ⟨h1, h2⟩ := h
  refine ⟨h1, ?_⟩
  rcases h2 with h2 | ⟨g, cap, cur, hv, hb, hh, r⟩
  · exact .inl h2
  · exact .inr ⟨g, cap, cur, hv, hb, by rw [hk g (by rw [hv]; rfl)]; exact hh, r⟩

theorem ownsRow_base {w : World} {B B' e size n : Nat} {v : Value} {xs : List Value} (h : w.ownsRow B' e size v n xs) (hB : B ≤ B') : w.ownsRow B e size v n xs := by
  refine ⟨h.1, ?_⟩
  rcases h.2 with h0 | ⟨g2, cap2, cur2, hv, hb, r⟩
  · exact .inl h0
  · exact .inr ⟨g2, cap2, cur2, hv, by omega, r⟩

theorem lt_of_some {w : World} {k : Nat} {o : Obj} (h : w.heap[k]? = some o) : k < w.heap.size := by
  rcases Nat.lt_or_ge k w.heap.size with h' | h'
  · exact h'
  · rw [Array.getElem?_eq_none h'] at h; cases h

theorem IsDev.keep {B : Nat} {w w' : World} {h : Hd} {d : DV} (hd : IsDev B w h d) (hk : ∀ k, h.fp k → w'.heap[k]? = w.heap[k]?) : IsDev B w' h d :=
  ⟨hd.ok, hd.pB, by rw [hk _ (.inl rfl)]; exact hd.blk, ownsRow_keep hd.of (fun k e => hk k (.inr (.inl (by simpa [Value.ownBlock] using e.symm)))), ownsRow_keep hd.os (fun k e => hk k (.inr (.inr (.inl (by simpa [Value.ownBlock] using e.symm))))), ownsRow_keep hd.op (fun k e => hk k (.inr (.inr (.inr e)))), hd.ne, hd.pn⟩

theorem IsDev.lt {B : Nat} {w : World} {h : Hd} {d : DV} (hd : IsDev B w h d) : ∀ k, h.fp k → B ≤ k ∧ k < w.heap.size := by
  intro k hk
  rcases hk with rfl | rfl | rfl | hk
  · exact ⟨hd.pB, lt_of_some hd.blk⟩
  · obtain ⟨hb, cur, hh, _⟩ := ownsRow_block hd.of; exact ⟨hb, lt_of_some hh⟩
  · obtain ⟨hb, cur, hh, _⟩ := ownsRow_block hd.os; exact ⟨hb, lt_of_some hh⟩
  · exact hd.op.lt k hk

/- The five cells of a device's own block. -/
theorem IsDev.cells {B : Nat} {w : World} {h : Hd} {d : DV} (hd : IsDev B w h d) :
    w.cell? ⟨h.p, 0, none⟩ = some (.slice (some ⟨h.bf, 0, none⟩) d.fl.length h.cf) ∧ w.cell? ⟨h.p, 1, none⟩ = some (.slice (some ⟨h.bs, 0, none⟩) d.fl.length h.cs) ∧
    w.cell? ⟨h.p, 2, none⟩ = some h.v2 ∧ w.cell? ⟨h.p, 3, none⟩ = some (.int .i64 (d.wr : Int)) ∧ w.cell? ⟨h.p, 4, none⟩ = some (.int .i64 d.fail) ∧ ∀ j, w.frozen? ⟨h.p, j, none⟩ = false := by
  have hb := hd.blk
  refine ⟨?_, ?_, ?_, ?_, ?_, fun j => frozen_of_row w h.p j _ _ hb⟩ <;> rw [cell_of_row w h.p _ _ _ _ hb] <;> rfl

/- The blocks of a device are apart. -/
theorem IsDev.apart {B : Nat} {w : World} {h : Hd} {d : DV} (hd : IsDev B w h d) : h.bf ≠ h.p ∧ h.bs ≠ h.p ∧ h.v2.ownBlock ≠ some h.p ∧ h.v2.ownBlock ≠ some h.bf ∧ h.v2.ownBlock ≠ some h.bs := by
  obtain ⟨_, cf, hf2, _⟩ := ownsRow_block hd.of
  obtain ⟨_, cs, hs2, _⟩ := ownsRow_block hd.os
  have hp := hd.blk
  refine ⟨fun e => ?_, fun e => ?_, fun e => ?_, fun e => ?_, fun e => ?_⟩
  · rw [← e, hf2] at hp; cases hp
  · rw [← e, hs2] at hp; cases hp
  all_goals
    rcases hd.op.2 with ⟨h0, _⟩ | ⟨g, cap, cur, hv, _, hh, _⟩
    · rw [h0] at e; cases e
    · rw [hv] at e
      simp only [Value.ownBlock, Option.some.injEq] at e
      rw [e] at hh
      first | (rw [hh] at hp; cases hp) | (rw [hh] at hf2; cases hf2) | (rw [hh] at hs2; cases hs2)
end Go.Proofs.YtonhoahnieoebabGreatDoor

namespace Go.Proofs.YtonhoahnieoebabGreatDoor
open Go.RowKit

theorem ret_b {a b : Bool} (h : a = b) : Ending.returned (.bool a) = .returned (.bool b) := by rw [h]
theorem ret_i {a b : Int} (h : a = b) : Ending.returned (.int .i64 a) = .returned (.int .i64 b) := by rw [h]

set_option maxRecDepth 100000 in
set_option maxHeartbeats 400000 in
theorem size_any {B : Nat} {h : Hd} {d : DV} (w : World) (hd : IsDev B w h d) :
    Calls Tryz.prog 153 #[.pointer (some ⟨h.p, 0, none⟩)] w fun e w' => e = .returned (.int .i64 (d.fl.length : Int)) ∧ w' = w := by
  obtain ⟨c0, c1, c2, c3, c4, fz⟩ := hd.cells
  clear hd
  go_enter Tryz.func153, Tryz.ntmps153
  go_wp2
  go_ret
  exact ⟨rfl, rfl⟩

def DV.has (d : DV) (at_ : Int) : Bool := decide (0 ≤ at_ ∧ at_ < d.fl.length)

set_option maxRecDepth 100000 in
set_option maxHeartbeats 400000 in
theorem has_any {B : Nat} {h : Hd} {d : DV} (at_ : Int) (w : World) (hd : IsDev B w h d) :
    Calls Tryz.prog 231 #[.pointer (some ⟨h.p, 0, none⟩), .int .i64 at_] w fun e w' => e = .returned (.bool (d.has at_)) ∧ w' = w := by
  obtain ⟨c0, c1, c2, c3, c4, fz⟩ := hd.cells
  clear hd
  by_cases h0 : 0 ≤ at_
  · have g0 : decide (0 ≤ at_) = true := by simpa using h0
    have HF : Hid (d.has at_ = decide (at_ < (d.fl.length : Int))) := by unfold Hid DV.has; simp [h0]
    go_enter Tryz.func231, Tryz.ntmps231
    go_wp2
    go_ret
    exact ⟨ret_b HF.out.symm, rfl⟩
  · have g0 : decide (0 ≤ at_) = false := by simpa using h0
    have HF : Hid (d.has at_ = false) := by unfold Hid DV.has; simp [h0]
    go_enter Tryz.func231, Tryz.ntmps231
    go_wp2
    go_ret
    exact ⟨ret_b HF.out.symm, rfl⟩

/- A cell of the device's own block is set. -/
theorem IsDev.setP {B : Nat} {w : World} {h : Hd} {d d' : DV} (hd : IsDev B w h d) (v2 : Value) (i : Nat) (u : Value) (hok : d'.ok) (hf : d'.fl = d.fl) (hs : d'.seen = d.seen)
    (hc : (#[.slice (some ⟨h.bf, 0, none⟩) d.fl.length h.cf, .slice (some ⟨h.bs, 0, none⟩) d.fl.length h.cs, h.v2, .int .i64 (d.wr : Int), .int .i64 d.fail] : Array Value).setIfInBounds i u = #[.slice (some ⟨h.bf, 0, none⟩) d.fl.length h.cf, .slice (some ⟨h.bs, 0, none⟩) d.fl.length h.cs, v2, .int .i64 (d'.wr : Int), .int .i64 d'.fail])
    (hp : w.ownsRow B 266 17 v2 d'.pend.length (wrsV d'.pend)) (hpn : d'.pend = [] → v2 = .slice none 0 0) : IsDev B (w.setCell ⟨h.p, i, none⟩ u) { h with v2 := v2 } d' := by
  obtain ⟨_, cf, hf2, _⟩ := ownsRow_block hd.of
  obtain ⟨_, cs, hs2, _⟩ := ownsRow_block hd.os
  have npf : h.bf ≠ h.p := fun e => by
    have h1 := hd.blk
    rw [← e, hf2] at h1
    cases h1
  have nps : h.bs ≠ h.p := fun e => by
    have h1 := hd.blk
    rw [← e, hs2] at h1
    cases h1
  have npp : ∀ k, v2.ownBlock = some k → k ≠ h.p := fun k hk e => by
    have h1 := hd.blk
    rcases hp.2 with ⟨h0, _⟩ | ⟨g, cap, cur, hv, _, hh, _⟩
    · rw [h0] at hk; cases hk
    · rw [hv] at hk
      have : g = k := by simpa [Value.ownBlock] using hk
      rw [← e, ← this, hh] at h1
      cases h1
  refine ⟨hok, hd.pB, ?_, ?_, ?_, ownsRow_keep hp (fun k e => heap_setCell_other _ _ _ _ (npp k e)), hd.ne, hpn⟩
  · rw [hf]
    show _ = some (Obj.cells #[.slice (some ⟨h.bf, 0, none⟩) d.fl.length h.cf, .slice (some ⟨h.bs, 0, none⟩) d.fl.length h.cs, v2, .int .i64 (d'.wr : Int), .int .i64 d'.fail] 264 (0, 0))
    rw [heap_setCell_same w h.p i _ _ u hd.blk, hc]
  · rw [hf]; exact ownsRow_keep hd.of (fun k e => heap_setCell_other _ _ _ _ (by
      have : h.bf = k := by simpa [Value.ownBlock] using e
      rw [← this]; exact npf))
  · rw [hf, hs]; exact ownsRow_keep hd.os (fun k e => heap_setCell_other _ _ _ _ (by
      have : h.bs = k := by simpa [Value.ownBlock] using e
      rw [← this]; exact nps))

def DV.failing (d : DV) (n : Int) : DV := { d with fail := n }

theorem DV.ok.failing {d : DV} (h : d.ok) {n : Int} (h1 : -1 ≤ n) (h2 : n ≤ 9223372036854775807) : (d.failing n).ok :=
  ⟨h.n1, h.n2, h.same, h.l1, h.l2, h.l3, h.few, h.few2, h1, h2⟩

theorem IsDev.failing {B : Nat} {w : World} {h : Hd} {d : DV} (hd : IsDev B w h d) {n : Int} (h1 : -1 ≤ n) (h2 : n ≤ 9223372036854775807) : IsDev B (w.setCell ⟨h.p, 4, none⟩ (.int .i64 n)) h (d.failing n) :=
  hd.setP h.v2 4 (.int .i64 n) (hd.ok.failing h1 h2) rfl rfl rfl hd.op hd.pn

set_option maxRecDepth 100000 in
set_option maxHeartbeats 400000 in
theorem fail_no {B : Nat} {h : Hd} {d : DV} (n : Int) (w : World) (_hd : IsDev B w h d) (hn : n < 0) :
    Calls Tryz.prog 222 #[.pointer (some ⟨h.p, 0, none⟩), .int .i64 n] w fun e w' => e = .returned (.iface 127 (.int .i64 1)) ∧ w' = w := by
  go_enter Tryz.func222, Tryz.ntmps222
  go_wp2
  go_ret
  exact ⟨rfl, rfl⟩

set_option maxRecDepth 100000 in
set_option maxHeartbeats 400000 in
theorem fail_yes {B : Nat} {h : Hd} {d : DV} (n : Int) (w : World) (hd : IsDev B w h d) (hn : 0 ≤ n) (hm : n ≤ 9223372036854775807) :
    Calls Tryz.prog 222 #[.pointer (some ⟨h.p, 0, none⟩), .int .i64 n] w fun e w' => e = .returned .nilIface ∧ IsDev B w' h (d.failing n) ∧ Kept h.fp w w' := by
  obtain ⟨c0, c1, c2, c3, c4, fz⟩ := hd.cells
  have HD : Hid (IsDev B w h d) := hd
  clear hd
  go_enter Tryz.func222, Tryz.ntmps222
  go_wp2
  go_ret
  exact ⟨rfl, HD.out.failing (by omega) hm, (Kept.refl _ _).setCell (.inl (.inl rfl)) _⟩

set_option maxRecDepth 100000 in
set_option maxHeartbeats 400000 in
theorem fails_never {B : Nat} {h : Hd} {d : DV} (w : World) (hd : IsDev B w h d) (hn : d.fail = -1) :
    Calls Tryz.prog 259 #[.pointer (some ⟨h.p, 0, none⟩)] w fun e w' => e = .returned (.bool false) ∧ w' = w := by
  obtain ⟨c0, c1, c2, c3, c4, fz⟩ := hd.cells
  rw [hn] at c4
  clear hd hn
  go_enter Tryz.func259, Tryz.ntmps259
  go_wp2
  go_ret
  exact ⟨rfl, rfl⟩

set_option maxRecDepth 100000 in
set_option maxHeartbeats 400000 in
theorem fails_some {B : Nat} {h : Hd} {d : DV} (w : World) (hd : IsDev B w h d) (hn : 0 ≤ d.fail) :
    Calls Tryz.prog 259 #[.pointer (some ⟨h.p, 0, none⟩)] w fun e w' => e = .returned (.bool (decide (d.fail = 0))) ∧ IsDev B w' h (d.failing (d.fail - 1)) ∧ Kept h.fp w w' := by
  obtain ⟨c0, c1, c2, c3, c4, fz⟩ := hd.cells
  have HD : Hid (IsDev B w h (d)) := hd
  have hm := hd.ok.f2
  have g1 : (d.fail == -1) = false := beq_eq_false_iff_ne.2 (by omega)
  have HE : Hid ((d.fail - 1 == -1) = decide (d.fail = 0)) := by
    unfold Hid
    rw [Bool.eq_iff_iff, beq_iff_eq, decide_eq_true_eq]; omega
  clear hd
  go_enter Tryz.func259, Tryz.ntmps259
  go_wp2
  go_ret
  exact ⟨ret_b HE.out, HD.out.failing (by omega) (by omega), (Kept.refl _ _).setCell (.inl (.inl rfl)) _⟩
end Go.Proofs.YtonhoahnieoebabGreatDoor
