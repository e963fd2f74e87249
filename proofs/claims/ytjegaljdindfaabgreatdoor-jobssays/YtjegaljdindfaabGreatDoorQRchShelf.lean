/-
How a shelf lies in memory: its own block of five pointers, its images, none of which shares a block with another; what an act on one of them leaves of the others.
The program's shelf in memory.
The shelf of the document's answer in memory.
-/
import Derived.Test.YtjegaljdindfaabGreatDoorQChainDefs
import Derived.Test.YtjegaljdindfaabGreatDoorQRimFill
namespace Go.Proofs.YtjegaljdindfaabGreatDoor
open Go.RowKit Go.Maps

/- No block is guarded; all but some are. -/
def Gd.no : Gd := ⟨fun _ => False, 0, fun _ h => h.elim⟩
def Gd.but (w : World) (S : Nat → Prop) : Gd := ⟨fun k => k < w.heap.size ∧ ¬ S k, w.heap.size, fun _ h => h.1⟩

/- From one world to the next: what lies outside S is as it was; S' is of S and of new blocks. -/
structure Moved (S : Nat → Prop) (w : World) (S' : Nat → Prop) (w' : World) : Prop where
  kept : Kept S w w'
  new : ∀ k, S' k → S k ∨ w.heap.size ≤ k

theorem Moved.trans {S S1 S2 : Nat → Prop} {w w1 w2 : World} (a : Moved S w S1 w1) (b : Moved S1 w1 S2 w2) : Moved S w S2 w2 :=
  ⟨⟨b.kept.os.trans a.kept.os, b.kept.tape.trans a.kept.tape, b.kept.output.trans a.kept.output, Nat.le_trans a.kept.size b.kept.size, fun k hk hs => by
    rw [b.kept.block k (Nat.lt_of_lt_of_le hk a.kept.size) (fun h1 => by rcases a.new k h1 with h | h; exact hs h; omega), a.kept.block k hk hs]⟩, fun k hk => by
    rcases b.new k hk with h | h
    · exact a.new k h
    · exact .inr (Nat.le_trans a.kept.size h)⟩
theorem Moved.of_below {S : Nat → Prop} {w w' : World} (h : Below w.heap.size w w') : Moved S w S w' := ⟨Below.kept h, fun _ h => .inl h⟩
theorem Moved.refl (S : Nat → Prop) (w : World) : Moved S w S w := ⟨Kept.refl _ _, fun _ h => .inl h⟩
theorem Moved.size {S S' : Nat → Prop} {w w' : World} (h : Moved S w S' w') : w.heap.size ≤ w'.heap.size := h.kept.size
theorem Moved.block {S S' : Nat → Prop} {w w' : World} (h : Moved S w S' w') {k : Nat} (hk : k < w.heap.size) (hs : ¬ S k) : w'.heap[k]? = w.heap[k]? := h.kept.block k hk hs
theorem Moved.cell {S S' : Nat → Prop} {w w' : World} (h : Moved S w S' w') {p : Addr} (hk : p.block < w.heap.size) (hs : ¬ S p.block) : w'.cell? p = w.cell? p := World.cell?_of_block (h.block hk hs)
/- What was outside, and there, stays outside. -/
theorem Moved.out {S S' : Nat → Prop} {w w' : World} (h : Moved S w S' w') {k : Nat} (hk : k < w.heap.size) (hs : ¬ S k) : ¬ S' k := fun e => by
  rcases h.new k e with h1 | h1
  · exact hs h1
  · omega
theorem Moved.below {S S' : Nat → Prop} {w w' : World} {B : Nat} (h : Moved S w S' w') (hB : B ≤ w.heap.size) (hs : ∀ k, S k → B ≤ k) : Below B w w' := h.kept.below hB hs

theorem IsImg.but {B : Gd} {w : World} {x : Ih} {v : IV} (h : IsImg B w x v) : IsImg (Gd.but w x.fp) w x v := h.re fun _ hk hg => hg.2 hk
theorem IsRim.but {B : Gd} {w : World} {q : Qh} {v : IV} (h : IsRim B w q v) : IsRim (Gd.but w q.fp) w q v := h.re fun _ hk hg => hg.2 hk

theorem but_moved {S S' : Nat → Prop} {w w' : World} {T : Nat → Prop} (hk : Kept T w w') (ht : ∀ k, T k → ¬ (Gd.but w S).g k) (hn : ∀ k, S' k → ¬ (Gd.but w S).g k) : Moved S w S' w' :=
  ⟨hk.mono fun k hl hs => Classical.byContradiction fun hx => ht k hs ⟨hl, hx⟩, fun k h => by
    rcases Nat.lt_or_ge k w.heap.size with hl | hl
    · exact .inl (Classical.byContradiction fun hx => hn k h ⟨hl, hx⟩)
    · exact .inr hl⟩

theorem Did.exact {w w' : World} {x : Ih} {V : IV} {f : Int} {e : Ending} (hd : Did (Gd.but w x.fp) w x V f e w') :
    ∃ x' : Ih, e = .returned (erV f) ∧ x'.p = x.p ∧ x'.h.p = x.h.p ∧ IsImg Gd.no w' x' V ∧ Moved x.fp w x'.fp w' := by
  obtain ⟨y, h1, h2, h3, h4⟩ := hd
  exact ⟨{ x with h := y }, h1, rfl, h2, h3.re fun _ _ h => h, but_moved h4 (fun _ h => h.1) h3.out⟩

theorem DidR.exact {w w' : World} {q : Qh} {V : IV} {f : Int} {e : Ending} (hd : DidR (Gd.but w q.fp) w q V f e w') :
    ∃ q' : Qh, e = .returned (.int .i64 f) ∧ q'.p = q.p ∧ q'.d.p = q.d.p ∧ IsRim Gd.no w' q' V ∧ Moved q.fp w q'.fp w' := by
  obtain ⟨q', h1, h2⟩ := hd
  exact ⟨q', h1, h2.p, h2.dp, h2.rim.re fun _ _ h => h, but_moved h2.kept (fun _ h => h.1) h2.rim.out⟩

/- Numbers of a list. -/
def Nums (w : World) (a : Option Addr) (l : List Int) : Prop := ∀ k, k < l.length → ∃ g o, a = some ⟨g, o, none⟩ ∧ w.cell? ⟨g, o + k, none⟩ = some (.int .i64 (l.getD k 0))

theorem Nums.keep {w w' : World} {a : Option Addr} {l : List Int} (h : Nums w a l) (hk : ∀ g o, a = some ⟨g, o, none⟩ → w'.heap[g]? = w.heap[g]?) : Nums w' a l := fun k hl => by
  obtain ⟨g, o, h1, h2⟩ := h k hl
  exact ⟨g, o, h1, by rw [World.cell?_of_block (hk g o h1)]; exact h2⟩
theorem Nums.lt {w : World} {a : Option Addr} {l : List Int} (h : Nums w a l) (h0 : l ≠ []) {g o : Nat} (e : a = some ⟨g, o, none⟩) : g < w.heap.size := by
  cases l with
  | nil => exact absurd rfl h0
  | cons n r =>
    obtain ⟨g', o', h1, h2⟩ := h 0 (by simp)
    rw [e] at h1
    cases h1
    exact World.block_lt_of_cell? _ _ h2
theorem Nums.nil (w : World) (a : Option Addr) : Nums w a [] := fun _ h => by cases h
theorem Nums.below {w w' : World} {a : Option Addr} {l : List Int} (h : Nums w a l) (hb : Below w.heap.size w w') : Nums w' a l := by
  by_cases h0 : l = []
  · rw [h0]; exact Nums.nil _ _
  · exact h.keep fun g o e => hb.block g (h.lt h0 e)
/- The list's block is none of these. -/
def Apart (a : Option Addr) (S : Nat → Prop) : Prop := ∀ g o, a = some ⟨g, o, none⟩ → ¬ S g
theorem Nums.moved {S S' : Nat → Prop} {w w' : World} {a : Option Addr} {l : List Int} (h : Nums w a l) (hm : Moved S w S' w') (ha : Apart a S) : Nums w' a l := by
  by_cases h0 : l = []
  · rw [h0]; exact Nums.nil _ _
  · exact h.keep fun g o e => hm.block (h.lt h0 e) (ha g o e)
theorem Apart.moved {S S' : Nat → Prop} {w w' : World} {a : Option Addr} {l : List Int} (ha : Apart a S) (h : Nums w a l) (h0 : l ≠ []) (hm : Moved S w S' w') : Apart a S' := fun g o e => hm.out (h.lt h0 e) (ha g o e)
theorem Nums.at {w : World} {a : Option Addr} {l : List Int} (h : Nums w a l) {k : Nat} (hk : k < l.length) : ∃ g o, a = some ⟨g, o, none⟩ ∧ w.cell? ⟨g, o + k, none⟩ = some (.int .i64 (l.getD k 0)) := h k hk
end Go.Proofs.YtjegaljdindfaabGreatDoor

namespace Go.Proofs.YtjegaljdindfaabGreatDoor
open Go.RowKit Go.Maps

def ptrO (x : Ih) : Option IV → Value
  | none => .pointer none
  | some _ => .pointer (some ⟨x.p, 0, none⟩)
def fpS (xs : Nat → Ih) (s : SV) (k : Nat) : Prop := ∃ i, i < 5 ∧ s i ≠ none ∧ (xs i).fp k
def updX (xs : Nat → Ih) (i : Nat) (x : Ih) : Nat → Ih := fun j => if j = i then x else xs j

structure IsShelf (w : World) (sp : Nat) (xs : Nat → Ih) (s : SV) (m : Nat) : Prop where
  blk : w.heap[sp]? = some (.cells #[ptrO (xs 0) (s 0), ptrO (xs 1) (s 1), ptrO (xs 2) (s 2), ptrO (xs 3) (s 3), ptrO (xs 4) (s 4)] 68 (0, 0))
  img : ∀ i v, i < 5 → s i = some v → IsImg Gd.no w (xs i) v
  ok : s.ok m
  apart : ∀ i j, i < 5 → j < 5 → i ≠ j → s i ≠ none → s j ≠ none → ∀ k, (xs i).fp k → ¬ (xs j).fp k

theorem IsShelf.more {w : World} {sp m m' : Nat} {xs : Nat → Ih} {s : SV} (h : IsShelf w sp xs s m) (hm : m ≤ m') : IsShelf w sp xs s m' := ⟨h.blk, h.img, h.ok.more hm, h.apart⟩

theorem IsShelf.fpLt {w : World} {sp m : Nat} {xs : Nat → Ih} {s : SV} (h : IsShelf w sp xs s m) {k : Nat} (hk : fpS xs s k) : k < w.heap.size := by
  obtain ⟨i, hi, hs, hf⟩ := hk
  cases hv : s i with
  | none => exact absurd hv hs
  | some v => exact (h.img i v hi hv).fpLt k hf

theorem IsImg.notShelf {B : Gd} {w : World} {x : Ih} {v : IV} (h : IsImg B w x v) {k : Nat} {cur : Array Value} {t : TypeId} (hb : w.heap[k]? = some (.cells cur t (0, 0))) (ht : ¬ (t = 194 ∨ t = 191 ∨ t = 220 ∨ t = 152 ∨ t = 142)) : ¬ x.fp k := by
  rintro (rfl | rfl | rfl | hk)
  · have := h.blk
    rw [hb] at this
    cases this
    exact ht (.inr (.inr (.inr (.inl rfl))))
  · obtain ⟨es, c, e2⟩ := ownsMap_is h.map
    rw [hb] at e2; cases e2
  · obtain ⟨_, cur2, e2⟩ := h.tb
    rw [hb] at e2
    cases e2
    exact ht (.inr (.inr (.inr (.inr rfl))))
  · obtain ⟨cur2, t2, e1, p⟩ := h.dev.kinds k hk
    rw [hb] at e1
    cases e1
    rcases p with p | p | p
    · exact ht (.inl p)
    · exact ht (.inr (.inl p))
    · exact ht (.inr (.inr (.inl p)))

theorem IsShelf.notFp {w : World} {sp m : Nat} {xs : Nat → Ih} {s : SV} (h : IsShelf w sp xs s m) {k : Nat} {cur : Array Value} {t : TypeId} (hb : w.heap[k]? = some (.cells cur t (0, 0))) (ht : ¬ (t = 194 ∨ t = 191 ∨ t = 220 ∨ t = 152 ∨ t = 142)) : ¬ fpS xs s k := by
  rintro ⟨i, hi, hs, hf⟩
  cases hv : s i with
  | none => exact absurd hv hs
  | some v => exact (h.img i v hi hv).notShelf hb ht hf

theorem IsShelf.notSp {w : World} {sp m : Nat} {xs : Nat → Ih} {s : SV} (h : IsShelf w sp xs s m) : ¬ fpS xs s sp := h.notFp h.blk (by decide)

theorem IsShelf.keep {w w' : World} {sp m : Nat} {xs : Nat → Ih} {s : SV} (h : IsShelf w sp xs s m) (hp : w'.heap[sp]? = w.heap[sp]?) (hk : ∀ k, fpS xs s k → w'.heap[k]? = w.heap[k]?) : IsShelf w' sp xs s m :=
  ⟨by rw [hp]; exact h.blk, fun i v hi hv => (h.img i v hi hv).keepAll fun k hf => hk k ⟨i, hi, (by rw [hv]; intro e; cases e), hf⟩, h.ok, h.apart⟩

theorem IsShelf.below {w w' : World} {sp m : Nat} {xs : Nat → Ih} {s : SV} (h : IsShelf w sp xs s m) (hb : Below w.heap.size w w') : IsShelf w' sp xs s m :=
  h.keep (hb.block _ (lt_of_some h.blk)) fun _ hk => hb.block _ (h.fpLt hk)

/- While other blocks turn. -/
theorem IsShelf.beside {S S' : Nat → Prop} {w w' : World} {sp m : Nat} {xs : Nat → Ih} {s : SV} (h : IsShelf w sp xs s m) (hm : Moved S w S' w') (hp : ¬ S sp) (hs : ∀ k, fpS xs s k → ¬ S k) : IsShelf w' sp xs s m :=
  h.keep (hm.block (lt_of_some h.blk) hp) fun k hk => hm.block (h.fpLt hk) (hs k hk)

theorem IsShelf.cell {w : World} {sp m : Nat} {xs : Nat → Ih} {s : SV} (h : IsShelf w sp xs s m) {i : Nat} (hi : i < 5) : w.cell? ⟨sp, i, none⟩ = some (ptrO (xs i) (s i)) := by
  rw [cell_of_row w sp _ _ _ _ h.blk]
  match i, hi with
  | 0, _ => rfl
  | 1, _ => rfl
  | 2, _ => rfl
  | 3, _ => rfl
  | 4, _ => rfl

theorem IsShelf.cellF {w : World} {sp m : Nat} {xs : Nat → Ih} {s : SV} (h : IsShelf w sp xs s m) {n : Int} {v : IV} (hf : s.file n = some v) : w.cell? ⟨sp, n.toNat, none⟩ = some (.pointer (some ⟨(xs n.toNat).p, 0, none⟩)) := by
  obtain ⟨h0, h1, h2⟩ := SV.file_of hf
  rw [h.cell (by omega), h2]; rfl

theorem IsShelf.imgF {w : World} {sp m : Nat} {xs : Nat → Ih} {s : SV} (h : IsShelf w sp xs s m) {n : Int} {v : IV} (hf : s.file n = some v) : IsImg Gd.no w (xs n.toNat) v ∧ v.ok m := by
  obtain ⟨h0, h1, h2⟩ := SV.file_of hf
  exact ⟨h.img _ v (by omega) h2, h.ok _ v h2⟩

/- An act on one file. -/
theorem IsShelf.acted {w w' : World} {sp m m' : Nat} {xs : Nat → Ih} {s : SV} (h : IsShelf w sp xs s m) {n : Int} {v V : IV} (hf : s.file n = some v) {x' : Ih} (hm : m ≤ m') (hV : V.ok m') (hx : x'.p = (xs n.toNat).p) (hI : IsImg Gd.no w' x' V) (hM : Moved (xs n.toNat).fp w x'.fp w') :
    IsShelf w' sp (updX xs n.toNat x') (s.upd n.toNat V) m' ∧ Moved (fpS xs s) w (fpS (updX xs n.toNat x') (s.upd n.toNat V)) w' := by
  obtain ⟨h0, h1, h2⟩ := SV.file_of hf
  have hn : n.toNat < 5 := by omega
  have hne : s n.toNat ≠ none := by rw [h2]; intro e; cases e
  generalize n.toNat = i at hx hM h2 hn hne ⊢
  have hin : ∀ k, (xs i).fp k → fpS xs s k := fun k hk => ⟨i, hn, hne, hk⟩
  have hsp : ¬ (xs i).fp sp := fun e => h.notSp (hin _ e)
  have hU : ∀ j, s.upd i V j ≠ none → s j ≠ none := fun j hj => by
    unfold SV.upd at hj
    split at hj
    · next e => rw [e]; exact hne
    · exact hj
  have ho : ∀ j, j < 5 → j ≠ i → s j ≠ none → ∀ k, (xs j).fp k → k < w.heap.size ∧ ¬ (xs i).fp k := fun j hj hji hs k hk => ⟨h.fpLt ⟨j, hj, hs, hk⟩, h.apart j i hj hn hji hs hne k hk⟩
  refine ⟨⟨?_, ?_, h.ok.upd hm hV, ?_⟩, ⟨hM.kept.mono fun k _ hk => hin k hk, ?_⟩⟩
  · rw [hM.block (lt_of_some h.blk) hsp, h.blk]
    have hp : ∀ j, ptrO (updX xs i x' j) (s.upd i V j) = ptrO (xs j) (s j) := fun j => by
      unfold updX SV.upd
      by_cases e : j = i
      · rw [if_pos e, if_pos e, e, h2]; show Value.pointer (some ⟨x'.p, 0, none⟩) = _; rw [hx]; rfl
      · rw [if_neg e, if_neg e]
    rw [hp, hp, hp, hp, hp]
  · intro j u hj hu
    unfold SV.upd at hu
    unfold updX
    by_cases e : j = i
    · rw [if_pos e] at hu ⊢
      cases hu
      exact hI
    · rw [if_neg e] at hu ⊢
      exact (h.img j u hj hu).keepAll fun k hk => by
        obtain ⟨l1, l2⟩ := ho j hj e (by rw [hu]; intro e; cases e) k hk
        exact hM.block l1 l2
  · intro a b ha hb hab hsa hsb k hk
    have hsa' := hU a hsa
    have hsb' := hU b hsb
    unfold updX at hk ⊢
    by_cases ea : a = i
    · have eb : b ≠ i := fun e => hab (by rw [ea, e])
      rw [if_pos ea] at hk
      rw [if_neg eb]
      intro hk2
      obtain ⟨l1, l2⟩ := ho b hb eb hsb' k hk2
      exact hM.out l1 l2 hk
    · rw [if_neg ea] at hk
      by_cases eb : b = i
      · rw [if_pos eb]
        obtain ⟨l1, l2⟩ := ho a ha ea hsa' k hk
        exact hM.out l1 l2
      · rw [if_neg eb]; exact h.apart a b ha hb hab hsa' hsb' k hk
  · rintro k ⟨j, hj, hs, hk⟩
    unfold updX at hk
    by_cases e : j = i
    · rw [if_pos e] at hk
      rcases hM.new k hk with h3 | h3
      · exact .inl (hin k h3)
      · exact .inr h3
    · rw [if_neg e] at hk
      exact .inl ⟨j, hj, hU j hs, hk⟩

/- What an act leaves. -/
def SDid (w : World) (sp : Nat) (xs : Nat → Ih) (s : SV) (m : Nat) (R : SV × Int) (e : Ending) (w' : World) : Prop :=
  ∃ xs' : Nat → Ih, e = .returned (erV R.2) ∧ IsShelf w' sp xs' R.1 m ∧ Moved (fpS xs s) w (fpS xs' R.1) w'

theorem SDid.of {w : World} {sp m m' : Nat} {xs : Nat → Ih} {s : SV} (h : IsShelf w sp xs s m) {n : Int} {v V : IV} (hf : s.file n = some v) (hm : m ≤ m') (hV : V.ok m') {f : Int} {e : Ending} {w' : World}
    (hd : Did (Gd.but w (xs n.toNat).fp) w (xs n.toNat) V f e w') : SDid w sp xs s m' (s.upd n.toNat V, f) e w' := by
  obtain ⟨x', h1, h2, _, h4, h5⟩ := hd.exact
  obtain ⟨h6, h7⟩ := h.acted hf hm hV h2 h4 h5
  exact ⟨_, h1, h6, h7⟩

theorem SDid.from {w w1 w' : World} {sp m : Nat} {xs : Nat → Ih} {s : SV} {R : SV × Int} {e : Ending} (h : SDid w1 sp xs s m R e w') (hb : Below w.heap.size w w1) : SDid w sp xs s m R e w' := by
  obtain ⟨xs', h1, h2, h3⟩ := h
  exact ⟨xs', h1, h2, (Moved.of_below hb).trans h3⟩

theorem SDid.same {w w' : World} {sp m : Nat} {xs : Nat → Ih} {s : SV} {f : Int} (h : IsShelf w sp xs s m) (hb : Below w.heap.size w w') : SDid w sp xs s m (s, f) (.returned (erV f)) w' := ⟨xs, rfl, h.below hb, Moved.of_below hb⟩
end Go.Proofs.YtjegaljdindfaabGreatDoor

namespace Go.Proofs.YtjegaljdindfaabGreatDoor
open Go.RowKit Go.Maps

def retN (f : Int) : Value := .int .i64 f
def ptrQ (x : Qh) : Option IV → Value
  | none => .pointer none
  | some _ => .pointer (some ⟨x.p, 0, none⟩)
def fpQ (xs : Nat → Qh) (s : SV) (k : Nat) : Prop := ∃ i, i < 5 ∧ s i ≠ none ∧ (xs i).fp k
def updQ (xs : Nat → Qh) (i : Nat) (x : Qh) : Nat → Qh := fun j => if j = i then x else xs j

structure IsRshelf (w : World) (sp : Nat) (xs : Nat → Qh) (s : SV) (m : Nat) : Prop where
  blk : w.heap[sp]? = some (.cells #[ptrQ (xs 0) (s 0), ptrQ (xs 1) (s 1), ptrQ (xs 2) (s 2), ptrQ (xs 3) (s 3), ptrQ (xs 4) (s 4)] 71 (0, 0))
  img : ∀ i v, i < 5 → s i = some v → IsRim Gd.no w (xs i) v
  ok : s.ok m
  apart : ∀ i j, i < 5 → j < 5 → i ≠ j → s i ≠ none → s j ≠ none → ∀ k, (xs i).fp k → ¬ (xs j).fp k

theorem IsRshelf.more {w : World} {sp m m' : Nat} {xs : Nat → Qh} {s : SV} (h : IsRshelf w sp xs s m) (hm : m ≤ m') : IsRshelf w sp xs s m' := ⟨h.blk, h.img, h.ok.more hm, h.apart⟩

theorem IsRshelf.fpLt {w : World} {sp m : Nat} {xs : Nat → Qh} {s : SV} (h : IsRshelf w sp xs s m) {k : Nat} (hk : fpQ xs s k) : k < w.heap.size := by
  obtain ⟨i, hi, hs, hf⟩ := hk
  cases hv : s i with
  | none => exact absurd hv hs
  | some v => exact (h.img i v hi hv).fpLt k hf

theorem IsRim.notShelf {B : Gd} {w : World} {x : Qh} {v : IV} (h : IsRim B w x v) {k : Nat} {cur : Array Value} {t : TypeId} (hb : w.heap[k]? = some (.cells cur t (0, 0))) (ht : ¬ (t = 140 ∨ t = 9 ∨ t = 3 ∨ t = 90 ∨ t = 142)) : ¬ x.fp k := by
  rintro (rfl | hk | hk | hk)
  · have := h.blk
    rw [hb] at this
    cases this
    exact ht (.inr (.inr (.inr (.inl rfl))))
  · obtain ⟨cur2, e2⟩ := ownsRow_kind h.own k hk
    rw [hb] at e2
    cases e2
    exact ht (.inr (.inr (.inr (.inr rfl))))
  · obtain ⟨cur2, e2⟩ := ownsRow_kind h.held k hk
    rw [hb] at e2
    cases e2
    exact ht (.inr (.inr (.inl rfl)))
  · obtain ⟨cur2, t2, e1, p⟩ := h.dev.kinds k hk
    rw [hb] at e1
    cases e1
    rcases p with p | p | p
    · exact ht (.inl p)
    · exact ht (.inr (.inl p))
    · exact ht (.inr (.inr (.inl p)))

theorem IsRshelf.notFp {w : World} {sp m : Nat} {xs : Nat → Qh} {s : SV} (h : IsRshelf w sp xs s m) {k : Nat} {cur : Array Value} {t : TypeId} (hb : w.heap[k]? = some (.cells cur t (0, 0))) (ht : ¬ (t = 140 ∨ t = 9 ∨ t = 3 ∨ t = 90 ∨ t = 142)) : ¬ fpQ xs s k := by
  rintro ⟨i, hi, hs, hf⟩
  cases hv : s i with
  | none => exact absurd hv hs
  | some v => exact (h.img i v hi hv).notShelf hb ht hf

theorem IsRshelf.notSp {w : World} {sp m : Nat} {xs : Nat → Qh} {s : SV} (h : IsRshelf w sp xs s m) : ¬ fpQ xs s sp := h.notFp h.blk (by decide)

theorem IsRshelf.keep {w w' : World} {sp m : Nat} {xs : Nat → Qh} {s : SV} (h : IsRshelf w sp xs s m) (hp : w'.heap[sp]? = w.heap[sp]?) (hk : ∀ k, fpQ xs s k → w'.heap[k]? = w.heap[k]?) : IsRshelf w' sp xs s m :=
  ⟨by rw [hp]; exact h.blk, fun i v hi hv => (h.img i v hi hv).keepAll fun k hf => hk k ⟨i, hi, (by rw [hv]; intro e; cases e), hf⟩, h.ok, h.apart⟩

theorem IsRshelf.below {w w' : World} {sp m : Nat} {xs : Nat → Qh} {s : SV} (h : IsRshelf w sp xs s m) (hb : Below w.heap.size w w') : IsRshelf w' sp xs s m :=
  h.keep (hb.block _ (lt_of_some h.blk)) fun _ hk => hb.block _ (h.fpLt hk)

/- While other blocks turn. -/
theorem IsRshelf.beside {S S' : Nat → Prop} {w w' : World} {sp m : Nat} {xs : Nat → Qh} {s : SV} (h : IsRshelf w sp xs s m) (hm : Moved S w S' w') (hp : ¬ S sp) (hs : ∀ k, fpQ xs s k → ¬ S k) : IsRshelf w' sp xs s m :=
  h.keep (hm.block (lt_of_some h.blk) hp) fun k hk => hm.block (h.fpLt hk) (hs k hk)

theorem IsRshelf.cell {w : World} {sp m : Nat} {xs : Nat → Qh} {s : SV} (h : IsRshelf w sp xs s m) {i : Nat} (hi : i < 5) : w.cell? ⟨sp, i, none⟩ = some (ptrQ (xs i) (s i)) := by
  rw [cell_of_row w sp _ _ _ _ h.blk]
  match i, hi with
  | 0, _ => rfl
  | 1, _ => rfl
  | 2, _ => rfl
  | 3, _ => rfl
  | 4, _ => rfl

theorem IsRshelf.cellF {w : World} {sp m : Nat} {xs : Nat → Qh} {s : SV} (h : IsRshelf w sp xs s m) {n : Int} {v : IV} (hf : s.file n = some v) : w.cell? ⟨sp, n.toNat, none⟩ = some (.pointer (some ⟨(xs n.toNat).p, 0, none⟩)) := by
  obtain ⟨h0, h1, h2⟩ := SV.file_of hf
  rw [h.cell (by omega), h2]; rfl

theorem IsRshelf.imgF {w : World} {sp m : Nat} {xs : Nat → Qh} {s : SV} (h : IsRshelf w sp xs s m) {n : Int} {v : IV} (hf : s.file n = some v) : IsRim Gd.no w (xs n.toNat) v ∧ v.ok m := by
  obtain ⟨h0, h1, h2⟩ := SV.file_of hf
  exact ⟨h.img _ v (by omega) h2, h.ok _ v h2⟩

/- An act on one file. -/
theorem IsRshelf.acted {w w' : World} {sp m m' : Nat} {xs : Nat → Qh} {s : SV} (h : IsRshelf w sp xs s m) {n : Int} {v V : IV} (hf : s.file n = some v) {x' : Qh} (hm : m ≤ m') (hV : V.ok m') (hx : x'.p = (xs n.toNat).p) (hI : IsRim Gd.no w' x' V) (hM : Moved (xs n.toNat).fp w x'.fp w') :
    IsRshelf w' sp (updQ xs n.toNat x') (s.upd n.toNat V) m' ∧ Moved (fpQ xs s) w (fpQ (updQ xs n.toNat x') (s.upd n.toNat V)) w' := by
  obtain ⟨h0, h1, h2⟩ := SV.file_of hf
  have hn : n.toNat < 5 := by omega
  have hne : s n.toNat ≠ none := by rw [h2]; intro e; cases e
  generalize n.toNat = i at hx hM h2 hn hne ⊢
  have hin : ∀ k, (xs i).fp k → fpQ xs s k := fun k hk => ⟨i, hn, hne, hk⟩
  have hsp : ¬ (xs i).fp sp := fun e => h.notSp (hin _ e)
  have hU : ∀ j, s.upd i V j ≠ none → s j ≠ none := fun j hj => by
    unfold SV.upd at hj
    split at hj
    · next e => rw [e]; exact hne
    · exact hj
  have ho : ∀ j, j < 5 → j ≠ i → s j ≠ none → ∀ k, (xs j).fp k → k < w.heap.size ∧ ¬ (xs i).fp k := fun j hj hji hs k hk => ⟨h.fpLt ⟨j, hj, hs, hk⟩, h.apart j i hj hn hji hs hne k hk⟩
  refine ⟨⟨?_, ?_, h.ok.upd hm hV, ?_⟩, ⟨hM.kept.mono fun k _ hk => hin k hk, ?_⟩⟩
  · rw [hM.block (lt_of_some h.blk) hsp, h.blk]
    have hp : ∀ j, ptrQ (updQ xs i x' j) (s.upd i V j) = ptrQ (xs j) (s j) := fun j => by
      unfold updQ SV.upd
      by_cases e : j = i
      · rw [if_pos e, if_pos e, e, h2]; show Value.pointer (some ⟨x'.p, 0, none⟩) = _; rw [hx]; rfl
      · rw [if_neg e, if_neg e]
    rw [hp, hp, hp, hp, hp]
  · intro j u hj hu
    unfold SV.upd at hu
    unfold updQ
    by_cases e : j = i
    · rw [if_pos e] at hu ⊢
      cases hu
      exact hI
    · rw [if_neg e] at hu ⊢
      exact (h.img j u hj hu).keepAll fun k hk => by
        obtain ⟨l1, l2⟩ := ho j hj e (by rw [hu]; intro e; cases e) k hk
        exact hM.block l1 l2
  · intro a b ha hb hab hsa hsb k hk
    have hsa' := hU a hsa
    have hsb' := hU b hsb
    unfold updQ at hk ⊢
    by_cases ea : a = i
    · have eb : b ≠ i := fun e => hab (by rw [ea, e])
      rw [if_pos ea] at hk
      rw [if_neg eb]
      intro hk2
      obtain ⟨l1, l2⟩ := ho b hb eb hsb' k hk2
      exact hM.out l1 l2 hk
    · rw [if_neg ea] at hk
      by_cases eb : b = i
      · rw [if_pos eb]
        obtain ⟨l1, l2⟩ := ho a ha ea hsa' k hk
        exact hM.out l1 l2
      · rw [if_neg eb]; exact h.apart a b ha hb hab hsa' hsb' k hk
  · rintro k ⟨j, hj, hs, hk⟩
    unfold updQ at hk
    by_cases e : j = i
    · rw [if_pos e] at hk
      rcases hM.new k hk with h3 | h3
      · exact .inl (hin k h3)
      · exact .inr h3
    · rw [if_neg e] at hk
      exact .inl ⟨j, hj, hU j hs, hk⟩

/- What an act leaves. -/
def RDid (w : World) (sp : Nat) (xs : Nat → Qh) (s : SV) (m : Nat) (R : SV × Int) (e : Ending) (w' : World) : Prop :=
  ∃ xs' : Nat → Qh, e = .returned (retN R.2) ∧ IsRshelf w' sp xs' R.1 m ∧ Moved (fpQ xs s) w (fpQ xs' R.1) w'

theorem RDid.of {w : World} {sp m m' : Nat} {xs : Nat → Qh} {s : SV} (h : IsRshelf w sp xs s m) {n : Int} {v V : IV} (hf : s.file n = some v) (hm : m ≤ m') (hV : V.ok m') {f : Int} {e : Ending} {w' : World}
    (hd : DidR (Gd.but w (xs n.toNat).fp) w (xs n.toNat) V f e w') : RDid w sp xs s m' (s.upd n.toNat V, f) e w' := by
  obtain ⟨x', h1, h2, _, h4, h5⟩ := hd.exact
  obtain ⟨h6, h7⟩ := h.acted hf hm hV h2 h4 h5
  exact ⟨_, h1, h6, h7⟩

theorem RDid.from {w w1 w' : World} {sp m : Nat} {xs : Nat → Qh} {s : SV} {R : SV × Int} {e : Ending} (h : RDid w1 sp xs s m R e w') (hb : Below w.heap.size w w1) : RDid w sp xs s m R e w' := by
  obtain ⟨xs', h1, h2, h3⟩ := h
  exact ⟨xs', h1, h2, (Moved.of_below hb).trans h3⟩

theorem RDid.same {w w' : World} {sp m : Nat} {xs : Nat → Qh} {s : SV} {f : Int} (h : IsRshelf w sp xs s m) (hb : Below w.heap.size w w') : RDid w sp xs s m (s, f) (.returned (retN f)) w' := ⟨xs, rfl, h.below hb, Moved.of_below hb⟩
end Go.Proofs.YtjegaljdindfaabGreatDoor
