/-
What a part that is put or wiped leaves: the list stays good; a range that is gone over; what is got of it.
Acts that came in: how a list of them lies in memory, how it is read, and whether it is few and short (LightActs). (For the texts of stage 4, which reach no device.)
-/
import Derived.Test.YtjegaljdindfaabGreatDoorQChainDefs
import Derived.Test.YtjegaljdindfaabGreatDoorRows
import Derived.WalkKit
import Derived.WalkSpells
import Derived.WalkLawsBesides
import Derived.Deep.MidRow
import Derived.Deep.QuietTactic
import Derived.BigQuiet
import Derived.ProofKit
import Derived.OpenShut
import Derived.ShutString
import Derived.Deep.Grids
import Derived.Deep.AppendLies
import Derived.Laws.CopyOwn
import Derived.Deep.RegionHeld3
import Derived.Deep.DrawnRows
import Derived.Deep.AppendSrc
import Derived.Deep.WholeRow
import Derived.Deep.CutBlock
import Derived.Deep.CutRange
import Derived.Deep.RegionLaw
import Derived.BigRegion
namespace Go.Proofs.YtjegaljdindfaabGreatDoor
open Go.RowKit

theorem SV.good.upd {s : SV} {C : Int} {l : List Int} (hg : s.good C l) {n : Int} {v u : IV} (hf : s.file n = some v) (hu : u.h = v.h) : (s.upd n.toNat u).good C l := fun k hk => by
  obtain ⟨v', h1, h2⟩ := hg k hk
  rw [SV.file_upd hf]
  by_cases e : k = n
  · rw [if_pos e]
    rw [e, hf] at h1
    cases h1
    exact ⟨u, rfl, by rw [hu]; exact h2⟩
  · rw [if_neg e]; exact ⟨v', h1, h2⟩

theorem SV.good.lay {s : SV} {C : Int} {l : List Int} (hg : s.good C l) (l' : List Int) (c f : Nat) (t : ByteArray) : (s.lay l' c f t).1.good C l := by
  unfold SV.lay
  split
  · exact hg
  · split
    · exact hg
    · next v hf =>
      split
      · exact hg.upd hf (IV.write_h _ _ _ _)
      · exact hg.upd hf (IV.fill_h _ _ _)

theorem SV.good.putPt {s : SV} {C : Int} {l : List Int} (hg : s.good C l) (l' : List Int) (t : ByteArray) (p : Pt) : (SV.putPt l' t s p).1.good C l := hg.lay _ _ _ _

theorem SV.good.wipePt {s : SV} {C : Int} {l : List Int} (hg : s.good C l) (l' : List Int) (p : Pt) : (SV.wipePt l' s p).1.good C l := by
  unfold SV.wipePt
  split
  · exact hg
  · split
    · exact hg
    · next v hf =>
      split
      · exact hg.upd hf (IV.clear_h _ _)
      · split
        · exact hg
        · exact hg.lay _ _ _ _

theorem SV.good.goPts {op : SV → Pt → SV × Int} {C : Int} {l : List Int} (hop : ∀ (s : SV) p, s.good C l → (op s p).1.good C l) : ∀ (P : List Pt) (s : SV), s.good C l → (goPts op s P).1.good C l := by
  intro P
  induction P with
  | nil => intro s h; exact h
  | cons p r ih =>
    intro s h
    show (if (op s p).2 = 0 then Go.Proofs.YtjegaljdindfaabGreatDoor.goPts op (op s p).1 r else op s p).1.good C l
    split
    · exact ih _ (hop s p h)
    · exact hop s p h

theorem SV.good.put {s : SV} {C : Int} {l : List Int} (hg : s.good C l) (l' : List Int) (fr : Int) (t : ByteArray) : (s.put l' fr t).1.good C l := by
  unfold SV.put
  split
  · split
    · exact SV.good.goPts (fun s p h => h.putPt l' t p) _ _ hg
    · exact hg
  · exact hg

theorem SV.good.wipe {s : SV} {C : Int} {l : List Int} (hg : s.good C l) (l' : List Int) (fr n : Int) : (s.wipe l' fr n).1.good C l := by
  unfold SV.wipe
  split
  · exact SV.good.goPts (fun s p h => h.wipePt l' p) _ _ hg
  · exact hg

theorem SV.good.move {s : SV} {C : Int} {l : List Int} (hg : s.good C l) (n c : Int) (t : ByteArray) : (s.move n c t).1.good C l := by
  unfold SV.move
  split
  · exact hg
  · next v hf =>
    split
    · exact hg.upd hf (IV.clear_h _ _)
    · split
      · exact hg.upd hf (IV.write_h _ _ _ _)
      · exact hg.upd hf (IV.fill_h _ _ _)

theorem goPts_cons {op : SV → Pt → SV × Int} {s : SV} {p : Pt} {r : List Pt} : goPts op s (p :: r) = if (op s p).2 = 0 then goPts op (op s p).1 r else op s p := rfl

theorem drop_pt {P : List Pt} {i : Nat} (h : i < P.length) : P.drop i = P[i] :: P.drop (i + 1) := List.drop_eq_getElem_cons h

/- A range of one part after the other is the range. -/
theorem extract_join (t : ByteArray) (a b c : Nat) (h1 : a ≤ b) (h2 : b ≤ c) : t.extract a b ++ t.extract b c = t.extract a c := by
  apply ByteArray.ext
  rw [ByteArray.data_append, ByteArray.data_extract, ByteArray.data_extract, ByteArray.data_extract]
  apply Array.ext'
  rw [Array.toList_append, Array.toList_extract, Array.toList_extract, Array.toList_extract, List.extract_eq_take_drop, List.extract_eq_take_drop, List.extract_eq_take_drop]
  rw [show c - a = (b - a) + (c - b) by omega, List.take_add, List.drop_drop, show a + (b - a) = b by omega]

theorem secB_snoc (t : ByteArray) (f n : Nat) : secB t f n ++ secB t (f + n) 1 = secB t f (n + 1) := by
  unfold secB
  rw [extract_join t _ _ _ (by omega) (by omega)]; rfl

theorem secB_none (t : ByteArray) (f : Nat) : secB t f 0 = bytesOf [] := by
  unfold secB
  apply ByteArray.ext
  rw [ByteArray.data_extract]
  apply Array.ext'
  rw [Array.toList_extract, List.extract_eq_take_drop, show (f + 0) * 16 - f * 16 = 0 by omega]
  rfl

theorem append_none (t : ByteArray) : t ++ bytesOf [] = t := by
  apply ByteArray.ext
  rw [ByteArray.data_append]
  apply Array.ext'
  simp [bytesOf]

theorem append_same (a b c : ByteArray) : a ++ b ++ c = a ++ (b ++ c) := by
  apply ByteArray.ext
  rw [ByteArray.data_append, ByteArray.data_append, ByteArray.data_append, ByteArray.data_append]
  exact Array.append_assoc

/- A part more is got. -/
theorem SV.getTo_part {s : SV} {C : Nat} {l : List Int} {fr n : Nat} {p : Pt} (hp : p.fits fr n C) : ∀ j, j ≤ p.n → s.getTo l fr (p.a + j) = s.getTo l fr p.a ++ secB (s.read l (p.c : Int)).1 p.f j := by
  intro j
  have hat := hp.at_
  have h4 := hp.n4
  induction j with
  | zero => intro _; rw [secB_none, append_none]; rfl
  | succ j ih =>
    intro hj
    show s.getTo l fr (p.a + j) ++ secB (s.read l (((fr + (p.a + j)) / 4 : Nat) : Int)).1 ((fr + (p.a + j)) % 4) 1 = _
    have e1 : (fr + (p.a + j)) / 4 = p.c := by omega
    have e2 : (fr + (p.a + j)) % 4 = p.f + j := by omega
    rw [ih (by omega), e1, e2, append_same, secB_snoc]

theorem SV.getTo_size {s : SV} {C : Nat} {l : List Int} {m fr : Nat} (hg : s.good (C : Int) l) (hok : s.ok m) (h0 : l ≠ []) : ∀ k, fr + k ≤ 4 * C → (s.getTo l fr k).size = k * 16 := by
  intro k
  induction k with
  | zero => intro _; rfl
  | succ k ih =>
    intro hk
    show (s.getTo l fr k ++ secB _ _ 1).size = _
    obtain ⟨_, r2⟩ := SV.read_yes hg hok h0 (c := (((fr + k) / 4 : Nat) : Int)) ⟨by omega, by omega⟩
    rw [ByteArray.size_append, ih (by omega), secB_size (by omega)]; omega

/- How a list of parts goes on. -/
theorem ptsFrom_at (fr n : Nat) : ∀ (k a : Nat), n - a ≤ k → ∀ i (h : i < (ptsFrom fr n a).length), a ≤ (ptsFrom fr n a)[i].a ∧ (∀ j (hj : j < (ptsFrom fr n a).length), j = i + 1 → (ptsFrom fr n a)[j].a = (ptsFrom fr n a)[i].a + (ptsFrom fr n a)[i].n) ∧ (i + 1 = (ptsFrom fr n a).length → (ptsFrom fr n a)[i].a + (ptsFrom fr n a)[i].n = n) ∧ (i = 0 → (ptsFrom fr n a)[i].a = a) := by
  intro k
  induction k with
  | zero => intro a h i hi; have := ptsFrom_len fr n 0 a h; omega
  | succ k ih =>
    intro a h i hi
    by_cases ha : a < n
    · have h1 := mkPt_n (fr := fr) ha
      have hc := ptsFrom_cons (fr := fr) ha
      have ih2 := ih (a + (mkPt fr n a).n) (by omega)
      generalize ptsFrom fr n a = P at hi hc ⊢
      subst hc
      cases i with
      | zero =>
        refine ⟨Nat.le_refl _, fun j hj e => ?_, fun e => ?_, fun _ => rfl⟩
        · subst e
          have hj' : 0 < (ptsFrom fr n (a + (mkPt fr n a).n)).length := by simpa using hj
          exact (ih2 0 hj').2.2.2 rfl
        · show a + (mkPt fr n a).n = n
          simp only [List.length_cons] at e
          by_cases hx : a + (mkPt fr n a).n < n
          · rw [ptsFrom_cons hx] at e; simp at e
          · omega
      | succ i =>
        have hi' : i < (ptsFrom fr n (a + (mkPt fr n a).n)).length := by simpa using hi
        obtain ⟨q1, q2, q3, q4⟩ := ih2 i hi'
        refine ⟨by show a ≤ (ptsFrom fr n (a + (mkPt fr n a).n))[i].a; omega, fun j hj e => ?_, fun e => ?_, fun e => by cases e⟩
        · subst e
          have hj' : i + 1 < (ptsFrom fr n (a + (mkPt fr n a).n)).length := by simpa using hj
          exact q2 (i + 1) hj' rfl
        · exact q3 (by simpa using e)
    · have := ptsFrom_nil (fr := fr) ha
      rw [this] at hi; cases hi
end Go.Proofs.YtjegaljdindfaabGreatDoor

namespace Go.Proofs.YtjegaljdindfaabGreatDoor.S4
open Go.RowKit Go.ChangeShapes Go.WideShapes

/- Of the blocks that were there those outside S are as they were. -/
structure Kept (S : Nat → Prop) (w w' : World) : Prop where
  os : w'.os = w.os
  tape : w'.tape = w.tape
  output : w'.output = w.output
  size : w.heap.size ≤ w'.heap.size
  block : ∀ k, k < w.heap.size → ¬ S k → w'.heap[k]? = w.heap[k]?

theorem Kept.refl (S : Nat → Prop) (w : World) : Kept S w w := ⟨rfl, rfl, rfl, Nat.le_refl _, fun _ _ _ => rfl⟩

theorem Kept.trans {S : Nat → Prop} {a b c : World} (h : Kept S a b) (k : Kept S b c) : Kept S a c :=
  ⟨k.os.trans h.os, k.tape.trans h.tape, k.output.trans h.output, Nat.le_trans h.size k.size, fun i hi hs => (k.block i (Nat.lt_of_lt_of_le hi h.size) hs).trans (h.block i hi hs)⟩

theorem Kept.mono {S T : Nat → Prop} {a b : World} (h : Kept S a b) (hs : ∀ k, k < a.heap.size → S k → T k) : Kept T a b :=
  ⟨h.os, h.tape, h.output, h.size, fun i hi ht => h.block i hi fun s => ht (hs i hi s)⟩

theorem Kept.drew {S : Nat → Prop} {a w : World} (h : Kept S a w) : Kept S a w.drew := ⟨h.os, h.tape, h.output, h.size, h.block⟩
theorem Kept.drewN {S : Nat → Prop} {a w : World} (h : Kept S a w) (n : Nat) : Kept S a (w.drewN n) := ⟨h.os, h.tape, h.output, h.size, h.block⟩

theorem Kept.alloc {S : Nat → Prop} {a w : World} (h : Kept S a w) (o : Obj) : Kept S a (w.alloc o) :=
  ⟨h.os, h.tape, h.output, by have := h.size; simp; omega, fun k hk hs => (Below.heap_alloc w o k (Nat.lt_of_lt_of_le hk h.size)).trans (h.block k hk hs)⟩

theorem Kept.setCell {S : Nat → Prop} {a w : World} (h : Kept S a w) {p : Addr} (hp : S p.block ∨ a.heap.size ≤ p.block) (u : Value) : Kept S a (w.setCell p u) :=
  ⟨h.os, h.tape, h.output, by simpa [World.setCell] using h.size, fun k hk hs => (heap_setCell_other w p k u (fun e => by rcases hp with hp | hp; exact hs (e ▸ hp); omega)).trans (h.block k hk hs)⟩

theorem Kept.grown {S : Nat → Prop} {a w w' : World} {row : Option Nat} (h : Kept S a w) (hg : w.grownBy w' row) (hr : ∀ k, row = some k → S k ∨ a.heap.size ≤ k) : Kept S a w' :=
  ⟨hg.os.trans h.os, hg.tape.trans h.tape, hg.output.trans h.output, Nat.le_trans h.size hg.size, fun k hk hs => (hg.block k (Nat.lt_of_lt_of_le hk h.size) (fun e => by rcases hr k e.symm with hp | hp; exact hs hp; omega)).trans (h.block k hk hs)⟩

theorem Kept.below {S : Nat → Prop} {a w : World} {B : Nat} (h : Kept S a w) (hB : B ≤ a.heap.size) (hs : ∀ k, S k → B ≤ k) : Below B a w :=
  ⟨h.os, h.tape, h.output, h.size, fun k hk => h.block k (Nat.lt_of_lt_of_le hk hB) fun s => by have := hs k s; omega⟩

theorem Below.kept {S : Nat → Prop} {a w : World} (h : Below a.heap.size a w) : Kept S a w := ⟨h.os, h.tape, h.output, h.size, fun k hk _ => h.block k hk⟩

theorem toHid {p : Prop} (h : p) : Hid p := h

def Bools (w : World) (ka : Option Addr) (kl : Nat) (ks : List Bool) : Prop :=
  ks.length = kl ∧ ∀ j, j < kl → ∃ b off, ka = some ⟨b, off, none⟩ ∧ w.cell? ⟨b, off + j, none⟩ = some (.bool (ks.getD j false))

theorem Bools.below {w w' : World} {la : Option Addr} {len : Nat} {ls : List Bool} (h : Bools w la len ls) (hb : Below w.heap.size w w') : Bools w' la len ls := by
  refine ⟨h.1, fun k hk => ?_⟩
  obtain ⟨b, off, e, hc⟩ := h.2 k hk
  exact ⟨b, off, e, by rw [hb.cell (World.block_lt_of_cell? w _ hc)]; exact hc⟩

theorem lt_of_some {w : World} {k : Nat} {o : Obj} (h : w.heap[k]? = some o) : k < w.heap.size := by
  rcases Nat.lt_or_ge k w.heap.size with h' | h'
  · exact h'
  · rw [Array.getElem?_eq_none h'] at h; cases h

structure ActV where
  kind : ByteArray
  a : Int
  b : Int
  c : Int
  d : Int
  s : ByteArray
  ka : Option Addr
  kl : Nat
  kc : Nat
  ks : List Bool

def ActV.none_ : ActV := ⟨⟨#[]⟩, 0, 0, 0, 0, ⟨#[]⟩, none, 0, 0, []⟩

def ActV.cells (x : ActV) : List Value := [.string x.kind, .int .i64 x.a, .int .i64 x.b, .int .i64 x.c, .int .i64 x.d, .string x.s, .slice x.ka x.kl x.kc]

structure ActOk (w : World) (x : ActV) : Prop where
  k1 : x.kind.size ≤ maxLen
  s1 : x.s.size ≤ maxLen
  a1 : -9223372036854775808 ≤ x.a ∧ x.a ≤ 9223372036854775807
  kl1 : x.kl ≤ maxLen
  keep : Bools w x.ka x.kl x.ks
  kn : x.ka = none → x.kc = 0

def Acts (w : World) (la : Option Addr) (len : Nat) (xs : List ActV) : Prop :=
  xs.length = len ∧ ∀ k, k < len → ∃ b off, la = some ⟨b, off, none⟩ ∧ w.rangeAt b (off + k * 7) (xs.getD k ActV.none_).cells ∧ ActOk w (xs.getD k ActV.none_)

theorem rangeAt_below {w w' : World} {b o : Nat} {cs : List Value} (h : w.rangeAt b o cs) (hb : Below w.heap.size w w') : w'.rangeAt b o cs := fun j v hv => by
  have := h j v hv
  rw [hb.cell (World.block_lt_of_cell? w _ this)]; exact this

theorem Acts.below {w w' : World} {la : Option Addr} {len : Nat} {xs : List ActV} (h : Acts w la len xs) (hb : Below w.heap.size w w') : Acts w' la len xs := by
  refine ⟨h.1, fun k hk => ?_⟩
  obtain ⟨b, off, e, hr, ho⟩ := h.2 k hk
  exact ⟨b, off, e, rangeAt_below hr hb, ho.k1, ho.s1, ho.a1, ho.kl1, ho.keep.below hb, ho.kn⟩

section
variable {H : Type} {enc : TypeId × Value → H}

theorem open_boolsB {w : World} {fuel : Nat} {v : Value} {x : DataW H × List MemPlace} (h : DataW.trod enc Tryz.prog w 0 (fun _ => true) true fuel 41 [v] = some x) :
    ∃ ka kl kc ks, v = .slice ka kl kc ∧ kl ≤ maxLen ∧ Bools w ka kl ks ∧ (ka = none → kc = 0) := by
  rcases Go.Deep.open_bools Tryz.underlying41 Tryz.underlying4 (by kernel_rfl) h with ⟨hcs, _⟩ | ⟨a, len, cap, Bf, hcs, _, hl, hm, _, hcell⟩
  · have : v = .slice none 0 0 := by simpa using hcs
    exact ⟨none, 0, 0, [], this, by unfold maxLen; omega, ⟨rfl, fun j hj => by omega⟩, fun _ => rfl⟩
  · have : v = .slice (some a) len cap := by simpa using hcs
    refine ⟨some a, len, cap, (List.range len).map Bf, this, by omega, ⟨by simp, fun j hj => ?_⟩, fun e => by cases e⟩
    obtain ⟨b, off, spot⟩ := a
    have h0 := hcell 0 (by omega)
    have hspot : spot = none := by simpa [Addr.add] using World.cell?_spot h0
    subst hspot
    refine ⟨b, off, rfl, ?_⟩
    rw [← Go.WideShapes.add_plain, hcell j (by omega)]
    simp [List.getD, hj]

set_option maxRecDepth 100000 in
theorem open_act {w : World} {fuel : Nat} {cs : List Value} {x : DataW H × List MemPlace} (h : DataW.trod enc Tryz.prog w 0 (fun _ => true) true fuel 43 cs = some x) :
    ∃ y : ActV, cs = y.cells ∧ ActOk w y := by
  obtain ⟨xs, n, _, _, hl, hlen, hf⟩ := DataW.trod_struct Tryz.underlying43 h
  have h7 : cs.length = 7 := by rw [hl]; kernel_rfl
  have c9 : Tryz.prog.cellsOf 9 = 1 := by kernel_rfl
  have c3 : Tryz.prog.cellsOf 3 = 1 := by kernel_rfl
  have c45 : Tryz.prog.cellsOf 41 = 1 := by kernel_rfl
  match cs, h7, xs, hlen with
  | [v0, v1, v2, v3, v4, v5, v6], _, [y0, y1, y2, y3, y4, y5, y6], _ =>
    have f0 : DataW.trod enc Tryz.prog w 0 (fun _ => true) true n 9 [v0] = some y0 := by simpa [c9] using hf 0 _ rfl
    have f1 : DataW.trod enc Tryz.prog w 0 (fun _ => true) true n 3 [v1] = some y1 := by simpa [c3] using hf 1 _ rfl
    have f2 : DataW.trod enc Tryz.prog w 0 (fun _ => true) true n 3 [v2] = some y2 := by simpa [c3] using hf 2 _ rfl
    have f3 : DataW.trod enc Tryz.prog w 0 (fun _ => true) true n 3 [v3] = some y3 := by simpa [c3] using hf 3 _ rfl
    have f4 : DataW.trod enc Tryz.prog w 0 (fun _ => true) true n 3 [v4] = some y4 := by simpa [c3] using hf 4 _ rfl
    have f5 : DataW.trod enc Tryz.prog w 0 (fun _ => true) true n 9 [v5] = some y5 := by simpa [c9] using hf 5 _ rfl
    have f6 : DataW.trod enc Tryz.prog w 0 (fun _ => true) true n 41 [v6] = some y6 := by simpa [c45] using hf 6 _ rfl
    obtain ⟨s0, e0, _, m0⟩ := DataW.trod_string Tryz.underlying9 f0
    obtain ⟨a1, e1, _, w1⟩ := DataW.trod_int Tryz.underlying3 f1
    obtain ⟨a2, e2, _, _⟩ := DataW.trod_int Tryz.underlying3 f2
    obtain ⟨a3, e3, _, _⟩ := DataW.trod_int Tryz.underlying3 f3
    obtain ⟨a4, e4, _, _⟩ := DataW.trod_int Tryz.underlying3 f4
    obtain ⟨s5, e5, _, m5⟩ := DataW.trod_string Tryz.underlying9 f5
    obtain ⟨ka, kl, kc, ks, e6, m6, hk, hkn⟩ := open_boolsB f6
    simp only [List.cons.injEq, and_true] at e0 e1 e2 e3 e4 e5
    subst e0 e1 e2 e3 e4 e5 e6
    have b1 := bounds_i64 w1
    exact ⟨⟨s0, a1, a2, a3, a4, s5, ka, kl, kc, ks⟩, rfl, m0, m5, ⟨b1.1, b1.2⟩, m6, hk, hkn⟩

theorem open_acts {w : World} {la : Option Addr} {len cap fuel : Nat} {x : DataW H × List MemPlace} (h : DataW.trod enc Tryz.prog w 0 (fun _ => true) true fuel 23 [.slice la len cap] = some x) :
    ∃ xs, Acts w la len xs ∧ len ≤ maxLen := by
  rcases Go.Deep.open_slice Tryz.underlying23 h with ⟨hcs, _⟩ | ⟨a, len', cap', m, n, D, Pl, hcs, _, hl, hm, hmm, _, hx⟩
  · simp at hcs
    obtain ⟨rfl, rfl, rfl⟩ := hcs
    exact ⟨[], ⟨rfl, fun k hk => by omega⟩, by unfold maxLen; omega⟩
  · simp at hcs
    obtain ⟨rfl, rfl, rfl⟩ := hcs
    have c47 : Tryz.prog.cellsOf 43 = 7 := by kernel_rfl
    simp only [if_true] at hmm
    subst hmm
    have : ∀ i, i < len → ∃ y : ActV, (∀ j, j < 7 → w.cell? (a.add (i * 7 + j)) = y.cells[j]?) ∧ ActOk w y := fun i hi => by
      obtain ⟨cs', h1, h2⟩ := hx i (by omega)
      obtain ⟨y, rfl, hok⟩ := open_act h2
      obtain ⟨_, _, hc⟩ := World.cells?_some h1
      rw [c47] at hc
      exact ⟨y, fun j hj => by rw [← Go.Deep.add_add]; exact hc j hj, hok⟩
    refine ⟨(List.range len).attach.map fun i => Classical.choose (this i.1 (List.mem_range.1 i.2)), ⟨by simp, fun k hk => ?_⟩, by omega⟩
    have hk' := this k hk
    have e : ((List.range len).attach.map fun i => Classical.choose (this i.1 (List.mem_range.1 i.2))).getD k ActV.none_ = Classical.choose (this k hk) := by
      simp [List.getD, hk]
    rw [e]
    obtain ⟨hc, hok⟩ := Classical.choose_spec (this k hk)
    obtain ⟨b, off, spot⟩ := a
    have hc0 := (Classical.choose_spec (this 0 (by omega))).1 0 (by omega)
    have hspot : spot = none := by
      have h0 : w.cell? ((⟨b, off, spot⟩ : Addr).add (0 * 7 + 0)) = some (.string (Classical.choose (this 0 (by omega))).kind) := hc0.trans rfl
      simpa [Addr.add] using World.cell?_spot h0
    subst hspot
    refine ⟨b, off, rfl, fun j v hv => ?_, hok⟩
    have hj : j < 7 := by
      rcases Nat.lt_or_ge j 7 with q | q
      · exact q
      · rw [List.getElem?_eq_none (by exact q)] at hv; cases hv
    have := hc j hj
    rw [Go.WideShapes.add_plain, hv] at this
    rw [show off + k * 7 + j = off + (k * 7 + j) by omega]; exact this
end

def lightB (xs : List ActV) (most : Nat) : Bool := decide (xs.length ≤ most ∧ ∀ k, k < xs.length → (xs.getD k ActV.none_).s.size ≤ 700 ∧ (xs.getD k ActV.none_).kl ≤ 300)

theorem ret_lb {a b : Bool} (h : a = b) : Ending.returned (.bool a) = .returned (.bool b) := by rw [h]

set_option maxRecDepth 100000 in
set_option maxHeartbeats 400000 in
theorem light_any (la : Option Addr) (len cap most : Nat) (xs : List ActV) (w : World) (hT : Acts w la len xs) (_hn : len ≤ maxLen) (hm : most ≤ 100) :
    Calls Tryz.prog 7 #[.slice la len cap, .int .i64 (most : Int)] w fun e w' => e = .returned (.bool (lightB xs most)) ∧ w' = w := by
  obtain ⟨hlen, hT⟩ := hT
  by_cases h20 : most < len
  · have HF : Hid (lightB xs most = false) := by unfold Hid lightB; simp; omega
    clear hT
    go_enter Tryz.func7, Tryz.ntmps7
    go_wp2
    go_ret
    exact ⟨ret_lb HF.out.symm, rfl⟩
  · have HT : Hid (∀ k, k < len → ∃ b off, la = some ⟨b, off, none⟩ ∧ w.rangeAt b (off + k * 7) (xs.getD k ActV.none_).cells ∧ ActOk w (xs.getD k ActV.none_)) := hT
    have HL : Hid (xs.length = len) := hlen
    clear hT hlen
    go_enter Tryz.func7, Tryz.ntmps7
    go_wp2
    go_loop [5] (fun i => ∃ k : Nat, k ≤ len ∧ i = .int .i64 k ∧ ∀ j, j < k → (xs.getD j ActV.none_).s.size ≤ 700 ∧ (xs.getD j ActV.none_).kl ≤ 300) (fun i => len - (intOf i).toNat)
    case atStart => exact ⟨0, Nat.zero_le _, rfl, fun j hj => by omega⟩
    case round =>
      obtain ⟨k, hk, rfl, hall⟩ := hrel
      by_cases hlt : k < len
      · obtain ⟨b, off, rfl, hr, hok⟩ := HT.out k hlt
        have c5 : w.cell? ⟨b, off + k * 7 + 5, none⟩ = some (.string (xs.getD k ActV.none_).s) := hr 5 _ rfl
        have c6 : w.cell? ⟨b, off + k * 7 + 6, none⟩ = some (.slice (xs.getD k ActV.none_).ka (xs.getD k ActV.none_).kl (xs.getD k ActV.none_).kc) := hr 6 _ rfl
        have hs1 := hok.s1
        have hk1 := hok.kl1
        unfold maxLen at hs1 hk1
        have HA : Hid ((xs.getD k ActV.none_).s.size ≤ 700 → (xs.getD k ActV.none_).kl ≤ 300 → ∀ j, j < k + 1 → (xs.getD j ActV.none_).s.size ≤ 700 ∧ (xs.getD j ActV.none_).kl ≤ 300) := by
          intro h1 h2 j hj
          by_cases e : j = k
          · rw [e]; exact ⟨h1, h2⟩
          · exact hall j (by omega)
        have HF : Hid ((700 < (xs.getD k ActV.none_).s.size ∨ 300 < (xs.getD k ActV.none_).kl) → lightB xs most = false) := by
          intro h
          unfold lightB
          simp only [decide_eq_false_iff_not]
          rintro ⟨_, q⟩
          have := q k (by rw [HL.out]; exact hlt)
          omega
        clear hall hr hok
        generalize xs.getD k ActV.none_ = x at c5 c6 hs1 hk1 HA HF
        by_cases h7 : 700 < x.s.size
        · have g7 : decide (700 < (x.s.size : Int)) = true := by simp; omega
          go_wp2
          go_ret
          exact ⟨ret_lb (HF.out (.inl h7)).symm, rfl⟩
        · have g7 : decide (700 < (x.s.size : Int)) = false := by simp; omega
          by_cases h3 : 300 < x.kl
          · have g3 : decide (300 < (x.kl : Int)) = true := by simp; omega
            go_wp2
            go_ret
            exact ⟨ret_lb (HF.out (.inr h3)).symm, rfl⟩
          · have g3 : decide (300 < (x.kl : Int)) = false := by simp; omega
            go_wp2
            go_round
            case rel => exact ⟨k + 1, by omega, by go_num, HA.out (by omega) (by omega)⟩
            case measure => simp [intOf]; omega
      · have HF : Hid (lightB xs most = true) := by
          unfold Hid lightB
          simp only [decide_eq_true_eq]
          exact ⟨by rw [HL.out]; omega, fun j hj => hall j (by have := HL.out; omega)⟩
        clear hall
        go_wp2
        go_ret
        exact ⟨ret_lb HF.out.symm, rfl⟩

/- New cells. -/
theorem there_new (w : World) (c : Array Value) (t : TypeId) (n : Nat) (h : c.size = n) : (w.alloc (.cells c t)).there w.heap.size 0 n := by
  intro j hj
  rw [Nat.zero_add, cell_of_row _ _ _ _ _ _ (heap_alloc_new w _), frozen_of_row _ _ _ _ _ (heap_alloc_new w _)]
  exact ⟨by simp; omega, rfl⟩

set_option maxRecDepth 100000 in
theorem setCells_setRow (w : World) (g o : Nat) (vs : List Value) (cur : Array Value) (t : TypeId) (hg : w.heap[g]? = some (.cells cur t (0, 0))) (hfit : o + vs.length ≤ cur.size) (h1 : ∀ v ∈ vs, v.oneCell' = true) :
    w.setCells g o vs = w.setRow g (cur.toList.take o ++ vs ++ cur.toList.drop (o + vs.length)).toArray := by
  have a := run_storeCells_at (P := Tryz.prog) g o t vs 0 cur w hg (by omega) h1
  have b := run_storeCells_cells (P := Tryz.prog) g o vs 0 w (fun j hj => by rw [Nat.add_zero, cell_of_row _ _ _ _ _ _ hg]; simp; omega) (fun j _ => frozen_of_row _ _ _ _ _ hg) h1
  rw [a] at b
  simp only [Nat.add_zero] at b
  injection b with _ b
  exact b.symm

set_option maxRecDepth 100000 in
theorem setCells_new (w : World) (c : Array Value) (t : TypeId) (vs : List Value) (h : c.size = vs.length) (h1 : ∀ v ∈ vs, v.oneCell' = true) : (w.alloc (.cells c t)).setCells w.heap.size 0 vs = w.alloc (.cells vs.toArray t) := by
  rw [setCells_setRow _ _ _ _ c t (heap_alloc_new w _) (by omega) h1, World.setRow_alloc_new]
  congr 3
  simp [← h]

theorem wpList_store_new {P : Program} {ops : Array Oper} {rest : List Oper} {op : Oper} {a : Act} {w : World} {Q : Exit → Act → World → Prop} (hgd : op.guard = none) (ty t : TypeId) (x y : Operand) (ho : op.op = .store ty x y)
    (c cells : Array Value) (hx : a.eval x = .pointer (some ⟨w.heap.size, 0, none⟩)) (hy : a.eval y = .agg cells)
    (hc : c.size = cells.size) (hi : (P.info? ty).map (·.size) = some cells.size) (h1 : ∀ v ∈ cells.toList, v.oneCell' = true)
    (h : wpList P ops Q rest (a.put op.dst undef) (w.alloc (.cells cells t))) : wpList P ops Q (op :: rest) a (w.alloc (.cells c t)) := by
  refine wpList_store_mid hgd ty x y ho w.heap.size 0 cells hx hy (there_new w c t _ hc) hi (by have := all_oneCell_toArray h1; simpa using this) ?_
  rw [setCells_new w c t cells.toList (by simpa using hc) h1]
  simpa using h

theorem size_act : (Tryz.prog.info? 43).map (·.size) = some 7 := by kernel_rfl
theorem act_one (x : ActV) : ∀ v ∈ x.cells.toArray.toList, v.oneCell' = true := by
  intro v hv
  simp only [ActV.cells, List.mem_cons, List.not_mem_nil, or_false] at hv
  rcases hv with rfl | rfl | rfl | rfl | rfl | rfl | rfl <;> rfl

/- An act in a block of its own. -/
structure Box (W : World) (N : Nat) (x : ActV) : Prop where
  blk : W.heap[N]? = some (.cells x.cells.toArray 43 (0, 0))

theorem Box.cells {W : World} {N : Nat} {x : ActV} (h : Box W N x) : W.cell? ⟨N, 0, none⟩ = some (.string x.kind) ∧ W.cell? ⟨N, 1, none⟩ = some (.int .i64 x.a) ∧ W.cell? ⟨N, 2, none⟩ = some (.int .i64 x.b) ∧ W.cell? ⟨N, 6, none⟩ = some (.slice x.ka x.kl x.kc) := by
  have h' := h.blk
  refine ⟨?_, ?_, ?_, ?_⟩ <;> simp [World.cell?, h', ActV.cells]

theorem Box.kept {W W' : World} {N : Nat} {x : ActV} {S : Nat → Prop} (h : Box W N x) (hk : Kept S W W') (hs : ¬ S N) : Box W' N x := ⟨(hk.block N (lt_of_some h.blk) hs).trans h.blk⟩
end Go.Proofs.YtjegaljdindfaabGreatDoor.S4
