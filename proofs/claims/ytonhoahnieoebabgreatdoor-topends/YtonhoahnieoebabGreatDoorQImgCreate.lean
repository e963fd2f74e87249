/-
A new job as plain data (H1): its faults, and what it is at first.
How the document's own image lies in memory; what its calls may turn; that it and the program's image stay while the other turns.
How a shelf lies in memory: its own block of five pointers, its images, none of which shares a block with another; what an act on one of them leaves of the others.
The program's shelf in memory: five cells of a yard's block.
A table that was read whole: as many entries as clusters, each of which may be, no place twice; what image stands on a device (D1).
An image that is made of a table, and one that is opened.
Open: the image that stands on a device, or that there is none.
Create: the rows of a table that is all Absent, a flush, the head, a flush.
-/
import Derived.Test.YtonhoahnieoebabGreatDoorQJobDefs
import Derived.Test.YtonhoahnieoebabGreatDoorQShapeEnt
import Derived.Test.YtonhoahnieoebabGreatDoorQImgGets
import Derived.Test.YtonhoahnieoebabGreatDoorQImgActs
import Derived.Deep.RegionHeld3
import Derived.Test.YtonhoahnieoebabGreatDoorQImgWrite
import Derived.BigRegion
import Derived.Test.YtonhoahnieoebabGreatDoorQActs4
import Derived.Test.YtonhoahnieoebabGreatDoorQImgDefs
import Derived.Test.YtonhoahnieoebabGreatDoorQImgKind
namespace Go.Proofs.YtonhoahnieoebabGreatDoor
open Go.RowKit

structure KDesk where
  root : Int
  kind : Int
  file : Int
  rate : Int
  burst : Int

/- A mirror's fault. -/
def targetF (s : SV) (l : List Int) (f : Int) : Int := match s.file f with
  | none => 4
  | some v => if l.contains f = true ∨ v.h.b ≠ -1 ∨ v.h.c ≠ s.clusters l then 2 else 0

/- A fault of the kind and the file, over a list that was walked. -/
def chkJ (s : SV) (l : List Int) (d : KDesk) : Int :=
  if d.kind = 1 then targetF s l d.file
  else if d.kind = 2 ∨ d.kind = 3 then (if d.kind = 2 ∧ d.file = -1 ∨ (l.drop 1).contains d.file = true then 0 else 4)
  else 1

def newF (s : SV) (d : KDesk) : Int :=
  if (s.walk d.root).2 ≠ 0 then (s.walk d.root).2
  else if (s.walk d.root).1 = [] then 4
  else if (S4.inB d.rate 1000 && S4.inB d.burst 1000) = false then 1
  else chkJ s (s.walk d.root).1 d

def deepJ (l : List Int) (d : KDesk) : Nat := if d.kind = 1 then 0 else if Lib.idxOf l d.file = -1 then l.length else (Lib.idxOf l d.file).toNat

/- At first, with nothing left yet. -/
def newJ0 (s : SV) (d : KDesk) : JV := ⟨d.root, d.kind, d.file, d.rate, d.burst, (s.walk d.root).1, deepJ (s.walk d.root).1 d, (s.clusters (s.walk d.root).1).toNat, 0, -1, 2, d.burst⟩
/- What is left of the first so many clusters. -/
def wantTo (s : SV) (j : JV) : Nat → Nat
  | 0 => 0
  | k + 1 => S4.putV j.n (wantTo s j k) (k : Int) (j.wantB s (k : Int))
def newJ (s : SV) (d : KDesk) : JV := (newJ0 s d).put (wantTo s (newJ0 s d) (newJ0 s d).n)

theorem wantTo_ok (s : SV) (j : JV) (hn : j.n ≤ 64) : ∀ k, S4.SetOk j.n (wantTo s j k) := by
  intro k
  induction k with
  | zero => exact S4.set_start _ hn
  | succ k ih => exact S4.putV_ok ih _ _

theorem idx_cases (l : List Int) (f : Int) (h : l.Nodup) : (Lib.idxOf l f = -1 ∧ f ∉ l) ∨ ∃ k : Nat, Lib.idxOf l f = (k : Int) ∧ k < l.length ∧ l.getD k 0 = f := by
  by_cases hm : f ∈ l
  · right
    obtain ⟨k, hk, e⟩ := List.getElem_of_mem hm
    have hd : l.getD k 0 = f := by rw [List.getD_eq_getElem?_getD, List.getElem?_eq_getElem hk]; exact e
    have h1 := Lib.idxOf_hit l l.length k f hk (Nat.le_refl _) hd (fun j hj e2 => by
      have hj2 : j < l.length := by omega
      rw [List.getD_eq_getElem?_getD, List.getElem?_eq_getElem hj2] at e2
      have e3 : l[j] = l[k] := by rw [e]; exact e2
      exact List.pairwise_iff_getElem.1 h j k hj2 hk hj e3)
    rw [List.take_length] at h1
    exact ⟨k, h1, hk, hd⟩
  · left
    refine ⟨?_, hm⟩
    have h1 := Lib.idxOf_miss l l.length f (fun j hj e => hm (by
      rw [List.getD_eq_getElem?_getD, List.getElem?_eq_getElem hj] at e
      have e' : l[j] = f := e
      rw [← e']; exact List.getElem_mem hj))
    rw [List.take_length] at h1
    exact h1

/- What holds of a list that was walked well, and of a job over it that may be. -/
structure NewOk (s : SV) (d : KDesk) (m : Nat) : Prop where
  ok : s.ok m
  w0 : (s.walk d.root).2 = 0
  ne : (s.walk d.root).1 ≠ []
  rt : S4.inB d.rate 1000 = true
  bu : S4.inB d.burst 1000 = true
  ck : chkJ s (s.walk d.root).1 d = 0

theorem newF_ok {s : SV} {d : KDesk} {m : Nat} (hok : s.ok m) (h : newF s d = 0) : NewOk s d m := by
  unfold newF at h
  split at h
  · next h0 => exact absurd h h0
  · next h0 =>
    split at h
    · cases h
    · next h1 =>
      split at h
      · cases h
      · next h2 =>
        have h2' : (S4.inB d.rate 1000 && S4.inB d.burst 1000) = true := by simpa using h2
        rw [Bool.and_eq_true] at h2'
        exact ⟨hok, Classical.byContradiction h0, h1, h2'.1, h2'.2, h⟩

theorem chkJ_kind {s : SV} {l : List Int} {d : KDesk} (h : chkJ s l d = 0) : d.kind = 1 ∨ d.kind = 2 ∨ d.kind = 3 := by
  unfold chkJ at h
  split at h
  · next e => exact .inl e
  · split at h
    · next e => exact .inr e
    · cases h

theorem NewOk.jok {s : SV} {d : KDesk} {m : Nat} (h : NewOk s d m) : ∃ C : Nat, JOk s C (newJ0 s d) ∧ s.clusters (s.walk d.root).1 = (C : Int) ∧ 1 ≤ C := by
  obtain ⟨hg, hl5, _, _⟩ := s.walk_good d.root
  have hnd := Linked.nodup _ _ (SV.walk_linked h.w0)
  have hcl := hg.clusters h.ne
  obtain ⟨n, r, hl⟩ : ∃ n r, (s.walk d.root).1 = n :: r := by
    cases hx : (s.walk d.root).1 with
    | nil => exact absurd hx h.ne
    | cons n r => exact ⟨n, r, rfl⟩
  obtain ⟨v, hv, hvc⟩ := hg n (by rw [hl]; exact List.mem_cons_self)
  have hh := (h.ok _ _ (SV.file_of hv).2.2).h
  have hb := HV.of_ok hh
  have hkd := chkJ_kind h.ck
  have hr := h.rt
  have hbu := h.bu
  unfold S4.inB at hr hbu
  simp at hr hbu
  refine ⟨(s.clusters (s.walk d.root).1).toNat, ⟨?_, h.ne, hl5, rfl, by omega, S4.set_start _ (by show (s.clusters (s.walk d.root).1).toNat ≤ 64; omega), hkd, ?_, ?_, ?_, .inr (.inl rfl), ⟨by show (-1 : Int) ≤ -1; omega, by show (-1 : Int) < 64; omega⟩, ⟨hr.1, hr.2⟩, ⟨hbu.1, Int.le_refl _, hbu.2⟩⟩, by omega, by omega⟩
  · show s.good (((s.clusters (s.walk d.root).1).toNat : Nat) : Int) (s.walk d.root).1
    rw [show (((s.clusters (s.walk d.root).1).toNat : Nat) : Int) = s.rootC d.root by omega]
    exact hg
  · intro hk2
    have hk2' : d.kind ≠ 2 := hk2
    show ∃ v, s.file d.file = some v
    have hck := h.ck
    unfold chkJ at hck
    by_cases h1 : d.kind = 1
    · rw [if_pos h1] at hck
      unfold targetF at hck
      cases hf : s.file d.file with
      | none => rw [hf] at hck; cases hck
      | some u => exact ⟨u, rfl⟩
    · have h3 : d.kind = 3 := by omega
      rw [if_neg h1, if_pos (.inr h3)] at hck
      split at hck
      · next e =>
        rcases e with e | e
        · exact absurd e.1 hk2'
        · have hm : d.file ∈ (s.walk d.root).1.drop 1 := by simpa using e
          obtain ⟨u, hu, _⟩ := hg d.file (List.mem_of_mem_drop hm)
          exact ⟨u, hu⟩
      · cases hck
  · show deepJ (s.walk d.root).1 d ≤ (s.walk d.root).1.length
    unfold deepJ
    split
    · exact Nat.zero_le _
    · rcases idx_cases _ d.file hnd with ⟨e, _⟩ | ⟨k, e, hk, _⟩
      · rw [if_pos e]; exact Nat.le_refl _
      · rw [e, if_neg (by omega)]; omega
  · intro hk1
    have hk1' : d.kind ≠ 1 := hk1
    show (Lib.idxOf (s.walk d.root).1 d.file = ((deepJ (s.walk d.root).1 d : Nat) : Int) ∧ deepJ (s.walk d.root).1 d < (s.walk d.root).1.length) ∨ (Lib.idxOf (s.walk d.root).1 d.file = -1 ∧ deepJ (s.walk d.root).1 d = (s.walk d.root).1.length)
    unfold deepJ
    rw [if_neg hk1']
    rcases idx_cases _ d.file hnd with ⟨e, _⟩ | ⟨k, e, hk, _⟩
    · rw [if_pos e]; exact .inr ⟨e, rfl⟩
    · rw [e, if_neg (by omega)]; exact .inl ⟨by omega, by omega⟩

theorem JOk.newX {s : SV} {C : Nat} {j : JV} (h : JOk s C j) (k : Nat) : JOk s C (j.put (wantTo s j k)) := { h with set := wantTo_ok s j (by have := h.n; have := h.c40; omega) k }

/- A file that is in the list behind the root: its place is above 0. -/
theorem drop_contains {l : List Int} {f : Int} (h : l.Nodup) : (l.drop 1).contains f = true ↔ 1 ≤ Lib.idxOf l f := by
  have hc : (l.drop 1).contains f = true ↔ f ∈ l.drop 1 := by simp
  rw [hc]
  constructor
  · intro hm
    rcases idx_cases l f h with ⟨_, hn⟩ | ⟨k, e, hk, hd⟩
    · exact absurd (List.mem_of_mem_drop hm) hn
    · rw [e]
      cases k with
      | zero =>
        exfalso
        cases l with
        | nil => cases hm
        | cons x r =>
          have hx : x = f := hd
          rw [List.nodup_cons] at h
          exact h.1 (by rw [hx]; exact hm)
      | succ k => omega
  · intro h1
    rcases idx_cases l f h with ⟨e, _⟩ | ⟨k, e, hk, hd⟩
    · omega
    · rw [e] at h1
      cases l with
      | nil => simp at hk
      | cons x r =>
        cases k with
        | zero => omega
        | succ k =>
          have hk' : k < r.length := by simpa using hk
          have hd' : r.getD k 0 = f := hd
          rw [List.getD_eq_getElem?_getD, List.getElem?_eq_getElem hk'] at hd'
          have e' : r[k] = f := hd'
          show f ∈ r
          rw [← e']; exact List.getElem_mem hk'
end Go.Proofs.YtonhoahnieoebabGreatDoor

namespace Go.Proofs.YtonhoahnieoebabGreatDoor
open Go.RowKit Go.Maps
attribute [local go_sem ↓] Go.wp_at_zero Go.wp_at_succ

structure Qh where
  p : Nat
  d : Rh
  vt : Value
  vh : Value

/- The blocks of the document's own image. -/
def Qh.fp (q : Qh) (k : Nat) : Prop := k = q.p ∨ q.vt.ownBlock = some k ∨ q.vh.ownBlock = some k ∨ q.d.fp k

end Go.Proofs.YtonhoahnieoebabGreatDoor

namespace Go.Proofs.YtonhoahnieoebabGreatDoor
open Go.RowKit Go.Maps

/- No block is guarded; all but some are. -/
def Gd.no : Gd := ⟨fun _ => False, 0, fun _ h => h.elim⟩
def Gd.but (w : World) (S : Nat → Prop) : Gd := ⟨fun k => k < w.heap.size ∧ ¬ S k, w.heap.size, fun _ h => h.1⟩

/- From one world to the next: what lies outside S is as it was; S' is of S and of new blocks. -/
structure Moved (S : Nat → Prop) (w : World) (S' : Nat → Prop) (w' : World) : Prop where
  kept : Kept S w w'
  new : ∀ k, S' k → S k ∨ w.heap.size ≤ k

theorem Moved.trans {S S1 S2 : Nat → Prop} {w w1 w2 : World} (a : Moved S w S1 w1) (b : Moved S1 w1 S2 w2) : Moved S w S2 w2 :=
  ⟨⟨b.kept.os.trans a.kept.os, b.kept.tape.trans a.kept.tape, b.kept.output.trans a.kept.output, Nat.le_trans a.kept.size b.kept.size, fun k hk hs => by
    rw [b.kept.block k (Nat.lt_of_lt_of_le hk a.kept.size) (fun h1 => by rcases a.new k h1 with h | h; exact hs h; omega), a.kept.block k hk hs]⟩, fun k hk => by
    rcases b.new k hk with h | h
    · exact a.new k h
    · exact .inr (Nat.le_trans a.kept.size h)⟩
theorem Moved.of_below {S : Nat → Prop} {w w' : World} (h : Below w.heap.size w w') : Moved S w S w' := ⟨Below.kept h, fun _ h => .inl h⟩
theorem Moved.refl (S : Nat → Prop) (w : World) : Moved S w S w := ⟨Kept.refl _ _, fun _ h => .inl h⟩
theorem Moved.size {S S' : Nat → Prop} {w w' : World} (h : Moved S w S' w') : w.heap.size ≤ w'.heap.size := h.kept.size
theorem Moved.block {S S' : Nat → Prop} {w w' : World} (h : Moved S w S' w') {k : Nat} (hk : k < w.heap.size) (hs : ¬ S k) : w'.heap[k]? = w.heap[k]? := h.kept.block k hk hs
theorem Moved.cell {S S' : Nat → Prop} {w w' : World} (h : Moved S w S' w') {p : Addr} (hk : p.block < w.heap.size) (hs : ¬ S p.block) : w'.cell? p = w.cell? p := World.cell?_of_block (h.block hk hs)
/- What was outside, and there, stays outside. -/
theorem Moved.out {S S' : Nat → Prop} {w w' : World} (h : Moved S w S' w') {k : Nat} (hk : k < w.heap.size) (hs : ¬ S k) : ¬ S' k := fun e => by
  rcases h.new k e with h1 | h1
  · exact hs h1
  · omega
theorem Moved.below {S S' : Nat → Prop} {w w' : World} {B : Nat} (h : Moved S w S' w') (hB : B ≤ w.heap.size) (hs : ∀ k, S k → B ≤ k) : Below B w w' := h.kept.below hB hs

theorem IsImg.but {B : Gd} {w : World} {x : Ih} {v : IV} (h : IsImg B w x v) : IsImg (Gd.but w x.fp) w x v := h.re fun _ hk hg => hg.2 hk
theorem but_moved {S S' : Nat → Prop} {w w' : World} {T : Nat → Prop} (hk : Kept T w w') (ht : ∀ k, T k → ¬ (Gd.but w S).g k) (hn : ∀ k, S' k → ¬ (Gd.but w S).g k) : Moved S w S' w' :=
  ⟨hk.mono fun k hl hs => Classical.byContradiction fun hx => ht k hs ⟨hl, hx⟩, fun k h => by
    rcases Nat.lt_or_ge k w.heap.size with hl | hl
    · exact .inl (Classical.byContradiction fun hx => hn k h ⟨hl, hx⟩)
    · exact .inr hl⟩

theorem Did.exact {w w' : World} {x : Ih} {V : IV} {f : Int} {e : Ending} (hd : Did (Gd.but w x.fp) w x V f e w') :
    ∃ x' : Ih, e = .returned (erV f) ∧ x'.p = x.p ∧ x'.h.p = x.h.p ∧ IsImg Gd.no w' x' V ∧ Moved x.fp w x'.fp w' := by
  obtain ⟨y, h1, h2, h3, h4⟩ := hd
  exact ⟨{ x with h := y }, h1, rfl, h2, h3.re fun _ _ h => h, but_moved h4 (fun _ h => h.1) h3.out⟩

/- Numbers of a list. -/
def Nums (w : World) (a : Option Addr) (l : List Int) : Prop := ∀ k, k < l.length → ∃ g o, a = some ⟨g, o, none⟩ ∧ w.cell? ⟨g, o + k, none⟩ = some (.int .i64 (l.getD k 0))

theorem Nums.keep {w w' : World} {a : Option Addr} {l : List Int} (h : Nums w a l) (hk : ∀ g o, a = some ⟨g, o, none⟩ → w'.heap[g]? = w.heap[g]?) : Nums w' a l := fun k hl => by
  obtain ⟨g, o, h1, h2⟩ := h k hl
  exact ⟨g, o, h1, by rw [World.cell?_of_block (hk g o h1)]; exact h2⟩
theorem Nums.lt {w : World} {a : Option Addr} {l : List Int} (h : Nums w a l) (h0 : l ≠ []) {g o : Nat} (e : a = some ⟨g, o, none⟩) : g < w.heap.size := by
  cases l with
  | nil => exact absurd rfl h0
  | cons n r =>
    obtain ⟨g', o', h1, h2⟩ := h 0 (by simp)
    rw [e] at h1
    cases h1
    exact World.block_lt_of_cell? _ _ h2
theorem Nums.nil (w : World) (a : Option Addr) : Nums w a [] := fun _ h => by cases h
theorem Nums.below {w w' : World} {a : Option Addr} {l : List Int} (h : Nums w a l) (hb : Below w.heap.size w w') : Nums w' a l := by
  by_cases h0 : l = []
  · rw [h0]; exact Nums.nil _ _
  · exact h.keep fun g o e => hb.block g (h.lt h0 e)
/- The list's block is none of these. -/
def Apart (a : Option Addr) (S : Nat → Prop) : Prop := ∀ g o, a = some ⟨g, o, none⟩ → ¬ S g
theorem Nums.moved {S S' : Nat → Prop} {w w' : World} {a : Option Addr} {l : List Int} (h : Nums w a l) (hm : Moved S w S' w') (ha : Apart a S) : Nums w' a l := by
  by_cases h0 : l = []
  · rw [h0]; exact Nums.nil _ _
  · exact h.keep fun g o e => hm.block (h.lt h0 e) (ha g o e)
theorem Apart.moved {S S' : Nat → Prop} {w w' : World} {a : Option Addr} {l : List Int} (ha : Apart a S) (h : Nums w a l) (h0 : l ≠ []) (hm : Moved S w S' w') : Apart a S' := fun g o e => hm.out (h.lt h0 e) (ha g o e)
end Go.Proofs.YtonhoahnieoebabGreatDoor

namespace Go.Proofs.YtonhoahnieoebabGreatDoor
open Go.RowKit Go.Maps

def ptrO (x : Ih) : Option IV → Value
  | none => .pointer none
  | some _ => .pointer (some ⟨x.p, 0, none⟩)
def fpS (xs : Nat → Ih) (s : SV) (k : Nat) : Prop := ∃ i, i < 5 ∧ s i ≠ none ∧ (xs i).fp k
def updX (xs : Nat → Ih) (i : Nat) (x : Ih) : Nat → Ih := fun j => if j = i then x else xs j

structure IsShelf (w : World) (sp : Nat) (xs : Nat → Ih) (s : SV) (m : Nat) : Prop where
  is_ : ∃ cur, w.heap[sp]? = some (.cells cur 168 (0, 0)) ∧ (∀ i, i < 5 → cur[6 + i]? = some (ptrO (xs i) (s i))) ∧ ∀ i, i < 5 → s i ≠ none → cur[i]? = some (.pointer (some ⟨(xs i).h.p, 0, none⟩))
  img : ∀ i v, i < 5 → s i = some v → IsImg Gd.no w (xs i) v
  ok : s.ok m
  apart : ∀ i j, i < 5 → j < 5 → i ≠ j → s i ≠ none → s j ≠ none → ∀ k, (xs i).fp k → ¬ (xs j).fp k

theorem IsShelf.is {w : World} {sp m : Nat} {xs : Nat → Ih} {s : SV} (h : IsShelf w sp xs s m) : ∃ cur, w.heap[sp]? = some (.cells cur 168 (0, 0)) := by
  obtain ⟨c, h1, _, _⟩ := h.is_
  exact ⟨c, h1⟩
theorem IsShelf.lt {w : World} {sp m : Nat} {xs : Nat → Ih} {s : SV} (h : IsShelf w sp xs s m) : sp < w.heap.size := by
  obtain ⟨c, h1⟩ := h.is
  exact lt_of_some h1

theorem IsShelf.more {w : World} {sp m m' : Nat} {xs : Nat → Ih} {s : SV} (h : IsShelf w sp xs s m) (hm : m ≤ m') : IsShelf w sp xs s m' := ⟨h.is_, h.img, h.ok.more hm, h.apart⟩

theorem IsShelf.fpLt {w : World} {sp m : Nat} {xs : Nat → Ih} {s : SV} (h : IsShelf w sp xs s m) {k : Nat} (hk : fpS xs s k) : k < w.heap.size := by
  obtain ⟨i, hi, hs, hf⟩ := hk
  cases hv : s i with
  | none => exact absurd hv hs
  | some v => exact (h.img i v hi hv).fpLt k hf

theorem IsImg.notShelf {B : Gd} {w : World} {x : Ih} {v : IV} (h : IsImg B w x v) {k : Nat} {cur : Array Value} {t : TypeId} (hb : w.heap[k]? = some (.cells cur t (0, 0))) (ht : ¬ (t = 264 ∨ t = 261 ∨ t = 266 ∨ t = 220 ∨ t = 211)) : ¬ x.fp k := by
  rintro (rfl | rfl | rfl | hk)
  · have := h.blk
    rw [hb] at this
    cases this
    exact ht (.inr (.inr (.inr (.inl rfl))))
  · obtain ⟨es, c, e2⟩ := ownsMap_is h.map
    rw [hb] at e2; cases e2
  · obtain ⟨_, cur2, e2⟩ := h.tb
    rw [hb] at e2
    cases e2
    exact ht (.inr (.inr (.inr (.inr rfl))))
  · obtain ⟨cur2, t2, e1, p⟩ := h.dev.kinds k hk
    rw [hb] at e1
    cases e1
    rcases p with p | p | p
    · exact ht (.inl p)
    · exact ht (.inr (.inl p))
    · exact ht (.inr (.inr (.inl p)))

theorem IsShelf.notFp {w : World} {sp m : Nat} {xs : Nat → Ih} {s : SV} (h : IsShelf w sp xs s m) {k : Nat} {cur : Array Value} {t : TypeId} (hb : w.heap[k]? = some (.cells cur t (0, 0))) (ht : ¬ (t = 264 ∨ t = 261 ∨ t = 266 ∨ t = 220 ∨ t = 211)) : ¬ fpS xs s k := by
  rintro ⟨i, hi, hs, hf⟩
  cases hv : s i with
  | none => exact absurd hv hs
  | some v => exact (h.img i v hi hv).notShelf hb ht hf

theorem IsShelf.notSp {w : World} {sp m : Nat} {xs : Nat → Ih} {s : SV} (h : IsShelf w sp xs s m) : ¬ fpS xs s sp := by
  obtain ⟨c, h1⟩ := h.is
  exact h.notFp h1 (by decide)

theorem IsShelf.keep {w w' : World} {sp m : Nat} {xs : Nat → Ih} {s : SV} (h : IsShelf w sp xs s m) (hp : w'.heap[sp]? = w.heap[sp]?) (hk : ∀ k, fpS xs s k → w'.heap[k]? = w.heap[k]?) : IsShelf w' sp xs s m :=
  ⟨by rw [hp]; exact h.is_, fun i v hi hv => (h.img i v hi hv).keepAll fun k hf => hk k ⟨i, hi, (by rw [hv]; intro e; cases e), hf⟩, h.ok, h.apart⟩

theorem IsShelf.below {w w' : World} {sp m : Nat} {xs : Nat → Ih} {s : SV} (h : IsShelf w sp xs s m) (hb : Below w.heap.size w w') : IsShelf w' sp xs s m :=
  h.keep (hb.block _ h.lt) fun _ hk => hb.block _ (h.fpLt hk)

/- While other blocks turn. -/
theorem IsShelf.beside {S S' : Nat → Prop} {w w' : World} {sp m : Nat} {xs : Nat → Ih} {s : SV} (h : IsShelf w sp xs s m) (hm : Moved S w S' w') (hp : ¬ S sp) (hs : ∀ k, fpS xs s k → ¬ S k) : IsShelf w' sp xs s m :=
  h.keep (hm.block h.lt hp) fun k hk => hm.block (h.fpLt hk) (hs k hk)

theorem IsShelf.cell {w : World} {sp m : Nat} {xs : Nat → Ih} {s : SV} (h : IsShelf w sp xs s m) {i : Nat} (hi : i < 5) : w.cell? ⟨sp, 6 + i, none⟩ = some (ptrO (xs i) (s i)) := by
  obtain ⟨c, h1, h2, _⟩ := h.is_
  rw [cell_of_row w sp _ _ _ _ h1]
  exact h2 i hi
theorem IsShelf.cellF {w : World} {sp m : Nat} {xs : Nat → Ih} {s : SV} (h : IsShelf w sp xs s m) {n : Int} {v : IV} (hf : s.file n = some v) : w.cell? ⟨sp, 6 + n.toNat, none⟩ = some (.pointer (some ⟨(xs n.toNat).p, 0, none⟩)) := by
  obtain ⟨h0, h1, h2⟩ := SV.file_of hf
  rw [h.cell (by omega), h2]; rfl

theorem IsShelf.imgF {w : World} {sp m : Nat} {xs : Nat → Ih} {s : SV} (h : IsShelf w sp xs s m) {n : Int} {v : IV} (hf : s.file n = some v) : IsImg Gd.no w (xs n.toNat) v ∧ v.ok m := by
  obtain ⟨h0, h1, h2⟩ := SV.file_of hf
  exact ⟨h.img _ v (by omega) h2, h.ok _ v h2⟩

/- An act on one file. -/
theorem IsShelf.acted {w w' : World} {sp m m' : Nat} {xs : Nat → Ih} {s : SV} (h : IsShelf w sp xs s m) {n : Int} {v V : IV} (hf : s.file n = some v) {x' : Ih} (hm : m ≤ m') (hV : V.ok m') (hx : x'.p = (xs n.toNat).p) (hy : x'.h.p = (xs n.toNat).h.p) (hI : IsImg Gd.no w' x' V) (hM : Moved (xs n.toNat).fp w x'.fp w') :
    IsShelf w' sp (updX xs n.toNat x') (s.upd n.toNat V) m' ∧ Moved (fpS xs s) w (fpS (updX xs n.toNat x') (s.upd n.toNat V)) w' := by
  obtain ⟨h0, h1, h2⟩ := SV.file_of hf
  have hn : n.toNat < 5 := by omega
  have hne : s n.toNat ≠ none := by rw [h2]; intro e; cases e
  generalize n.toNat = i at hx hy hM h2 hn hne ⊢
  have hin : ∀ k, (xs i).fp k → fpS xs s k := fun k hk => ⟨i, hn, hne, hk⟩
  have hsp : ¬ (xs i).fp sp := fun e => h.notSp (hin _ e)
  have hU : ∀ j, s.upd i V j ≠ none → s j ≠ none := fun j hj => by
    unfold SV.upd at hj
    split at hj
    · next e => rw [e]; exact hne
    · exact hj
  have ho : ∀ j, j < 5 → j ≠ i → s j ≠ none → ∀ k, (xs j).fp k → k < w.heap.size ∧ ¬ (xs i).fp k := fun j hj hji hs k hk => ⟨h.fpLt ⟨j, hj, hs, hk⟩, h.apart j i hj hn hji hs hne k hk⟩
  refine ⟨⟨?_, ?_, h.ok.upd hm hV, ?_⟩, ⟨hM.kept.mono fun k _ hk => hin k hk, ?_⟩⟩
  · obtain ⟨c, h8, h9, h10⟩ := h.is_
    refine ⟨c, (hM.block h.lt hsp).trans h8, fun j hj => ?_, fun j hj hs => ?_⟩
    rotate_left
    · rw [h10 j hj (hU j hs)]
      unfold updX
      by_cases e : j = i
      · rw [if_pos e, hy, e]
      · rw [if_neg e]
    have hp : ∀ j, ptrO (updX xs i x' j) (s.upd i V j) = ptrO (xs j) (s j) := fun j => by
      unfold updX SV.upd
      by_cases e : j = i
      · rw [if_pos e, if_pos e, e, h2]; show Value.pointer (some ⟨x'.p, 0, none⟩) = _; rw [hx]; rfl
      · rw [if_neg e, if_neg e]
    rw [hp]; exact h9 j hj
  · intro j u hj hu
    unfold SV.upd at hu
    unfold updX
    by_cases e : j = i
    · rw [if_pos e] at hu ⊢
      cases hu
      exact hI
    · rw [if_neg e] at hu ⊢
      exact (h.img j u hj hu).keepAll fun k hk => by
        obtain ⟨l1, l2⟩ := ho j hj e (by rw [hu]; intro e; cases e) k hk
        exact hM.block l1 l2
  · intro a b ha hb hab hsa hsb k hk
    have hsa' := hU a hsa
    have hsb' := hU b hsb
    unfold updX at hk ⊢
    by_cases ea : a = i
    · have eb : b ≠ i := fun e => hab (by rw [ea, e])
      rw [if_pos ea] at hk
      rw [if_neg eb]
      intro hk2
      obtain ⟨l1, l2⟩ := ho b hb eb hsb' k hk2
      exact hM.out l1 l2 hk
    · rw [if_neg ea] at hk
      by_cases eb : b = i
      · rw [if_pos eb]
        obtain ⟨l1, l2⟩ := ho a ha ea hsa' k hk
        exact hM.out l1 l2
      · rw [if_neg eb]; exact h.apart a b ha hb hab hsa' hsb' k hk
  · rintro k ⟨j, hj, hs, hk⟩
    unfold updX at hk
    by_cases e : j = i
    · rw [if_pos e] at hk
      rcases hM.new k hk with h3 | h3
      · exact .inl (hin k h3)
      · exact .inr h3
    · rw [if_neg e] at hk
      exact .inl ⟨j, hj, hU j hs, hk⟩

/- What an act leaves. -/
def SDid (w : World) (sp : Nat) (xs : Nat → Ih) (s : SV) (m : Nat) (R : SV × Int) (e : Ending) (w' : World) : Prop :=
  ∃ xs' : Nat → Ih, e = .returned (erV R.2) ∧ IsShelf w' sp xs' R.1 m ∧ Moved (fpS xs s) w (fpS xs' R.1) w'

theorem SDid.of {w : World} {sp m m' : Nat} {xs : Nat → Ih} {s : SV} (h : IsShelf w sp xs s m) {n : Int} {v V : IV} (hf : s.file n = some v) (hm : m ≤ m') (hV : V.ok m') {f : Int} {e : Ending} {w' : World}
    (hd : Did (Gd.but w (xs n.toNat).fp) w (xs n.toNat) V f e w') : SDid w sp xs s m' (s.upd n.toNat V, f) e w' := by
  obtain ⟨x', h1, h2, h3, h4, h5⟩ := hd.exact
  obtain ⟨h6, h7⟩ := h.acted hf hm hV h2 h3 h4 h5
  exact ⟨_, h1, h6, h7⟩

theorem SDid.from {w w1 w' : World} {sp m : Nat} {xs : Nat → Ih} {s : SV} {R : SV × Int} {e : Ending} (h : SDid w1 sp xs s m R e w') (hb : Below w.heap.size w w1) : SDid w sp xs s m R e w' := by
  obtain ⟨xs', h1, h2, h3⟩ := h
  exact ⟨xs', h1, h2, (Moved.of_below hb).trans h3⟩

theorem SDid.same {w w' : World} {sp m : Nat} {xs : Nat → Ih} {s : SV} {f : Int} (h : IsShelf w sp xs s m) (hb : Below w.heap.size w w') : SDid w sp xs s m (s, f) (.returned (erV f)) w' := ⟨xs, rfl, h.below hb, Moved.of_below hb⟩
end Go.Proofs.YtonhoahnieoebabGreatDoor

namespace Go.Proofs.YtonhoahnieoebabGreatDoor
open Go.RowKit

structure GoodT (h : HV) (a : List (Int × Int)) : Prop where
  ents : ∀ e ∈ a, entB e.1 e.2 h.p = true
  once : ∀ i j, i < j → j < a.length → (a.getD j (0, 0)).1 = 2 → a.getD i (0, 0) ≠ a.getD j (0, 0)

theorem getD_mem {l : List (Int × Int)} {i : Nat} (h : i < l.length) : l.getD i (0, 0) ∈ l := by
  rw [List.getD_eq_getElem?_getD, List.getElem?_eq_getElem h]; exact List.getElem_mem _

/- What image stands on a device. -/
def openH (d : DV) : HV := headOf (bytesOf (d.seen.getD 0 []))
def openR (d : DV) (k : Nat) : ByteArray := bytesOf (d.seen.getD (1 + k) [])
def openRs (d : DV) : List ByteArray := (List.range (rowsN (openH d).c.toNat)).map (openR d)
def openF (d : DV) : Int :=
  if headF (bytesOf (d.seen.getD 0 [])) = 0 then (if d.fl.length < needN (openH d) then 1 else tableF (openH d) (openRs d)) else headF (bytesOf (d.seen.getD 0 []))
def openV (d : DV) : IV := ⟨d, openH d, tableT (openH d) (openRs d), []⟩

end Go.Proofs.YtonhoahnieoebabGreatDoor

namespace Go.Proofs.YtonhoahnieoebabGreatDoor
open Go.RowKit Go.Maps
attribute [local go_sem ↓] Go.wp_at_zero Go.wp_at_succ

set_option maxRecDepth 100000 in
set_option maxHeartbeats 1000000 in
theorem made_img {B : Gd} {tb tc : Nat} {h : Hd} {d : DV} (c p b : Int) (ts : List (Int × Int)) (w : World) (hd : IsDevG B w h d) (hB : B.top ≤ w.heap.size) (ho : w.ownsRow 0 211 2 (.slice (some ⟨tb, 0, none⟩) ts.length tc) ts.length (entV ts)) (htb : ¬ B.g tb) :
    Calls Tryz.prog 154 #[.pointer (some ⟨h.p, 0, none⟩), .agg #[.int .i64 c, .int .i64 p, .int .i64 b], .slice (some ⟨tb, 0, none⟩) ts.length tc] w fun e w' =>
      ∃ x : Ih, x.h = h ∧ x.tb = tb ∧ x.tc = tc ∧ e = .returned (.pointer (some ⟨x.p, 0, none⟩)) ∧ IsImg B w' x ⟨d, ⟨c, p, b⟩, ts, []⟩ ∧ Below w.heap.size w w' := by
  have hmm := @run_makeMap Tryz.prog
  have HD := toHid hd
  have HO := toHid ho
  clear hd ho
  go_enter Tryz.func154, Tryz.ntmps154
  go_wp2
  go_ret
  have hb1 : Below w.heap.size w (w.alloc (.cells #[.int .i64 c, .int .i64 p, .int .i64 b] 103)) := (Below.refl _ _).alloc (Nat.le_refl _) _
  have hb2 := hb1.alloc hb1.size (.map #[] 0)
  have hb3 := hb2.alloc hb2.size (.cells #[.pointer (some ⟨h.p, 0, none⟩), .int .i64 c, .int .i64 p, .int .i64 b, .slice (some ⟨tb, 0, none⟩) ts.length tc, .map (some (w.heap.size + 1))] 220)
  refine ⟨⟨w.heap.size + 2, h, tb, tc, w.heap.size + 1⟩, rfl, rfl, rfl, by simp, ⟨?_, ⟨B.fresh hB (Nat.le_add_right _ 2), htb⟩, B.fresh hB (Nat.le_add_right _ 1), ?_, ?_, ?_⟩, hb3⟩
  · have e := heap_alloc_new ((w.alloc (.cells #[.int .i64 c, .int .i64 p, .int .i64 b] 103)).alloc (.map #[] 0)) (.cells #[.pointer (some ⟨h.p, 0, none⟩), .int .i64 c, .int .i64 p, .int .i64 b, .slice (some ⟨tb, 0, none⟩) ts.length tc, .map (some (w.heap.size + 1))] 220)
    rw [show ((w.alloc (.cells #[.int .i64 c, .int .i64 p, .int .i64 b] 103)).alloc (.map #[] 0)).heap.size = w.heap.size + 2 by simp] at e
    exact e
  · exact HD.out.keep fun k hk => hb3.block k (HD.out.lt k hk).2
  · exact ownsRow_keep HO.out fun k hk => hb3.block k (HO.out.lt k hk).2
  · have e := World.ownsMap_made (w.alloc (.cells #[.int .i64 c, .int .i64 p, .int .i64 b] 103)) Tryz.prog 3 (unitElem (H := Unit))
    rw [show (w.alloc (.cells #[.int .i64 c, .int .i64 p, .int .i64 b] 103)).heap.size = w.heap.size + 1 by simp] at e
    refine ownsMap_block e ?_
    exact Below.heap_alloc _ _ _ (by simp)

end Go.Proofs.YtonhoahnieoebabGreatDoor

namespace Go.Proofs.YtonhoahnieoebabGreatDoor
open Go.RowKit Go.Maps
attribute [local go_sem ↓] Go.wp_at_zero Go.wp_at_succ

theorem erV_some2 {f : Int} (h : f ≠ 0) : erV f = .iface 127 (.int .i64 f) := by unfold erV; rw [if_neg h]

end Go.Proofs.YtonhoahnieoebabGreatDoor

namespace Go.Proofs.YtonhoahnieoebabGreatDoor
open Go.RowKit Go.Maps
attribute [local go_sem ↓] Go.wp_at_zero Go.wp_at_succ

def DV.rowsP (d : DV) (t : List (Int × Int)) : Nat → DV × Int
  | 0 => (d, 0)
  | k + 1 => if (d.rowsP t k).2 = 0 then ((d.rowsP t k).1.put (1 + k) (rowS t (k : Int)).data.toList, (d.rowsP t k).1.putF) else d.rowsP t k

theorem DV.rowsP_yes {d : DV} {t : List (Int × Int)} {k : Nat} (h : (d.rowsP t k).2 = 0) : d.rowsP t (k + 1) = ((d.rowsP t k).1.put (1 + k) (rowS t (k : Int)).data.toList, (d.rowsP t k).1.putF) := by
  show (if (d.rowsP t k).2 = 0 then _ else _) = _
  rw [if_pos h]

theorem DV.rowsP_no {d : DV} {t : List (Int × Int)} {k : Nat} (h : (d.rowsP t k).2 ≠ 0) : ∀ j, k ≤ j → d.rowsP t j = d.rowsP t k := by
  intro j hj
  induction j with
  | zero => rw [show (0 : Nat) = k by omega]
  | succ j ih =>
    by_cases e : k = j + 1
    · rw [← e]
    · have h1 := ih (by omega)
      show (if (d.rowsP t j).2 = 0 then _ else d.rowsP t j) = _
      rw [h1, if_neg h]

def crT (h : HV) : List (Int × Int) := List.replicate h.c.toNat (0, 0)
def crD (d : DV) (h : HV) : DV × Int := d.rowsP (crT h) (rowsN h.c.toNat)
def crV0 (d : DV) (h : HV) : IV := ⟨(crD d h).1, h, crT h, []⟩
def crV (d : DV) (h : HV) : IV := (crV0 d h).headV h
/- What a new image that fails leaves of its device. -/
def crLeft (d : DV) (h : HV) : DV := if h.ok = true ∧ needN h ≤ d.fl.length then (if (crD d h).2 = 0 then (crV d h).d else (crD d h).1) else d
def crF (d : DV) (h : HV) : Int := if h.ok = true then (if d.fl.length < needN h then 1 else if (crD d h).2 = 0 then (crV0 d h).flush.d.putF else (crD d h).2) else 1

theorem crT_len (h : HV) (hk : h.ok = true) : ((crT h).length : Int) = h.c := by
  have := HV.of_ok hk
  unfold crT; rw [List.length_replicate]; omega

theorem crT_ents (h : HV) : ∀ e ∈ crT h, entB e.1 e.2 h.p = true := by
  intro e he
  rw [List.eq_of_mem_replicate he]
  exact entB_yes (.inr ⟨.inl rfl, rfl⟩)

theorem crT_row (h : HV) (hk : h.ok = true) (k : Nat) (hr : k < rowsN h.c.toNat) : rowF (crT h) (k : Int) = 0 ∧ (rowS (crT h) (k : Int)).size = 16 :=
  row_good hk (crT_len h hk) (crT_ents h) k (by have := crT_len h hk; have := HV.of_ok hk; rw [show (crT h).length = h.c.toNat by omega]; exact hr)

theorem crD_fine {d : DV} {m : Nat} {h : HV} (hd : d.fine d.fl.length m) (hk : h.ok = true) (hn : needN h ≤ d.fl.length) (hm : m + 10 < 1000000000) : ∀ k, k ≤ rowsN h.c.toNat → (d.rowsP (crT h) k).1.fine d.fl.length (m + k) := by
  have hb := (begin_le hk hn).1
  have hrn : rowsN h.c.toNat ≤ 5 := by have := HV.of_ok hk; unfold rowsN; omega
  intro k
  induction k with
  | zero => intro _; exact hd
  | succ k ih =>
    intro hkn
    have h1 := ih (by omega)
    by_cases h0 : (d.rowsP (crT h) k).2 = 0
    · rw [DV.rowsP_yes h0]
      exact h1.put (by omega) (by have := (crT_row h hk k (by omega)).2; simpa using this) (by omega)
    · rw [DV.rowsP_no h0 (k + 1) (by omega)]
      exact h1.more (by omega)

theorem crV0_ok {d : DV} {m : Nat} {h : HV} (hd : d.fine d.fl.length m) (hk : h.ok = true) (hn : needN h ≤ d.fl.length) (hm : m + 10 < 1000000000) : (crV0 d h).ok (m + 5) := by
  have hrn : rowsN h.c.toNat ≤ 5 := by have := HV.of_ok hk; unfold rowsN; omega
  have h1 := (crD_fine hd hk hn hm _ (Nat.le_refl _)).more (show m + rowsN h.c.toNat ≤ m + 5 by omega)
  refine ⟨?_, hk, crT_len h hk, crT_ents h, ?_, (fun q hq => by cases hq), Nat.zero_le _⟩
  · show (crD d h).1.fine (crD d h).1.fl.length (m + 5)
    unfold crD
    rw [h1.len]; exact h1
  · show needN h ≤ (crD d h).1.fl.length
    unfold crD
    rw [h1.len]; exact hn

theorem crV_ok {d : DV} {m : Nat} {h : HV} (hd : d.fine d.fl.length m) (hk : h.ok = true) (hn : needN h ≤ d.fl.length) (hm : m + 20 < 1000000000) : (crV d h).ok (m + 15) :=
  ((crV0_ok hd hk hn (by omega)).headV hk rfl rfl (by omega)).more (by omega)

/- Create, of a head that may not be, or on a device with too few sectors. -/
set_option maxRecDepth 100000 in
set_option maxHeartbeats 1000000 in
theorem create_bad {B : Gd} {h : Hd} {d : DV} (c p b : Int) (w : World) (hd : IsDevG B w h d) (hn : ¬ (HV.ok ⟨c, p, b⟩ = true ∧ needN ⟨c, p, b⟩ ≤ d.fl.length)) :
    Calls Tryz.prog 60 #[.pointer (some ⟨h.p, 0, none⟩), .agg #[.int .i64 c, .int .i64 p, .int .i64 b]] w fun e w' => e = .returned (.tuple #[.pointer none, .iface 127 (.int .i64 1)]) ∧ Below w.heap.size w w' := by
  have HCH := toHid (checkHead_any c p b)
  cases hk : HV.ok ⟨c, p, b⟩ with
  | false =>
    have e1 : HV.fault ⟨c, p, b⟩ = 1 := by unfold HV.fault; rw [hk]; rfl
    rw [e1, erV_1] at HCH
    clear hd hn hk e1
    go_enter Tryz.func60, Tryz.ntmps60
    go_wp2_with fail
    refine (HCH.out _).mono ?_
    rintro e w1 ⟨rfl, hb1⟩
    go_wp2
    go_ret2
    exact ⟨rfl, ((Below.refl _ _).alloc (Nat.le_refl _) _).trans (hb1.mono (by simp))⟩
  | true =>
    have e1 : HV.fault ⟨c, p, b⟩ = 0 := by unfold HV.fault; rw [hk]; rfl
    rw [e1, erV_0] at HCH
    have hlt : d.fl.length < needN ⟨c, p, b⟩ := by
      by_cases hx : needN ⟨c, p, b⟩ ≤ d.fl.length
      · exact absurd ⟨hk, hx⟩ hn
      · omega
    have HND := toHid (fun W => need_any c p b W hk)
    have HSI : Hid (∀ W : World, Below w.heap.size w W → Calls Tryz.prog 153 #[.pointer (some ⟨h.p, 0, none⟩)] W fun e w' => e = .returned (.int .i64 (d.fl.length : Int)) ∧ w' = W) := fun W hb => size_any W (hd.keep fun k hk => hb.block k (hd.lt k hk).2).toIsDev
    generalize needN ⟨c, p, b⟩ = nn at HND hlt
    clear hd hn hk e1
    go_enter Tryz.func60, Tryz.ntmps60
    go_wp2_with fail
    refine (HCH.out _).mono ?_
    rintro e wA ⟨rfl, hb1⟩
    have HB1 : Hid (Below w.heap.size w wA) := ((Below.refl _ _).alloc (Nat.le_refl _) _).trans (hb1.mono (by simp))
    have hx1 : wA.heap[w.heap.size]? = some (.cells #[.int .i64 c, .int .i64 p, .int .i64 b] 103 (0, 0)) := by rw [hb1.block _ (by simp), heap_alloc_new]
    have hNl : w.heap.size < wA.heap.size := lt_of_some hx1
    have y0 : wA.cell? ⟨w.heap.size, 0, none⟩ = some (.int .i64 c) := by rw [cell_of_row _ _ _ _ _ _ hx1]; rfl
    have y1 : wA.cell? ⟨w.heap.size, 1, none⟩ = some (.int .i64 p) := by rw [cell_of_row _ _ _ _ _ _ hx1]; rfl
    have y2 : wA.cell? ⟨w.heap.size, 2, none⟩ = some (.int .i64 b) := by rw [cell_of_row _ _ _ _ _ _ hx1]; rfl
    clear hb1 hx1 HCH
    go_wp2
    go_region_held3 (fun W => Below wA.heap.size wA W ∧ W.cell? ⟨w.heap.size, 0, none⟩ = some (.int .i64 c) ∧ W.cell? ⟨w.heap.size, 1, none⟩ = some (.int .i64 p) ∧ W.cell? ⟨w.heap.size, 2, none⟩ = some (.int .i64 b))
      (first | (exact ⟨Below.drew (Below.refl _ _), y0, y1, y2⟩) | assumption | (exact ⟨by assumption, (Below.cell (by assumption) hNl).trans y0, (Below.cell (by assumption) hNl).trans y1, (Below.cell (by assumption) hNl).trans y2⟩))
      (first
        | (go_at_call 153; refine (HSI.out _ (HB1.out.trans (Below.mono (by assumption : Below wA.heap.size wA _ ∧ _).1 HB1.out.size))).mono ?_; rintro e w' ⟨rfl, rfl⟩)
        | (go_at_call 101; refine (HND.out _).mono ?_; rintro e w' ⟨rfl, hb'⟩; have hB' := Below.trans (by assumption : Below wA.heap.size wA _ ∧ _).1 (hb'.mono (by assumption : Below wA.heap.size wA _ ∧ _).1.size)))
    all_goals
      obtain ⟨hs0, z0, z1, z2⟩ := (by assumption : Below wA.heap.size wA _ ∧ _)
      have HBW := toHid (HB1.out.trans (hs0.mono HB1.out.size))
      have g1 : decide ((d.fl.length : Int) < (nn : Int)) = true := decide_eq_true (by omega)
      clear hs0 y0 y1 y2 hNl
      go_wp2
      go_ret2
      exact ⟨rfl, HBW.out⟩

theorem entV_zeros (n : Nat) : entV (List.replicate n (0, 0)) = List.replicate (n * 2) (.int .i64 0) := by
  induction n with
  | zero => rfl
  | succ n ih =>
    rw [List.replicate_succ]
    have e1 : ∀ (y : Int × Int) (l : List (Int × Int)), entV (y :: l) = .int .i64 y.1 :: .int .i64 y.2 :: entV l := fun _ _ => rfl
    rw [e1, ih, show (n + 1) * 2 = n * 2 + 1 + 1 by omega, List.replicate_succ, List.replicate_succ]

theorem made_zeros (n : Nat) : (madeCells (Value.agg #[.int .i64 0, .int .i64 0]).cells (n * 2)).toList = entV (List.replicate n (0, 0)) := by
  rw [entV_zeros]
  apply List.ext_getElem
  · simp [madeCells]
  · intro i h1 h2
    simp [madeCells, Value.cells]
    rcases Nat.mod_two_eq_zero_or_one i with h | h <;> simp [h]
end Go.Proofs.YtonhoahnieoebabGreatDoor
