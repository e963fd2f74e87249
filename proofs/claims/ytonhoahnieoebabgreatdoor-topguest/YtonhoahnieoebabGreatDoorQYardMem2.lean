/-
How a yard of the program lies in memory: its own block, its files' images and devices, the desk's device, the last job; what stays while parts of it turn.
A yard's parts turn: the desk's device, a file, the root, the job.
-/
import Derived.Test.YtonhoahnieoebabGreatDoorQChainParts
import Derived.Test.YtonhoahnieoebabGreatDoorQJobP5
import Derived.Test.YtonhoahnieoebabGreatDoorQJobP6
import Derived.Test.YtonhoahnieoebabGreatDoorQChainPut3
import Derived.Test.YtonhoahnieoebabGreatDoorQYardWalk
import Derived.Test.YtonhoahnieoebabGreatDoorQYardOk4
namespace Go.Proofs.YtonhoahnieoebabGreatDoor
open Go.RowKit Go.Maps

structure Jh where
  jp : Nat
  lp : Nat
  bp : Nat
  a : Option Addr
  cap : Nat

/- Where it lies: devices of files that are none, the desk's, images, the job. -/
structure Yh where
  ds : Nat → Hd
  tp : Hd
  xs : Nat → Ih
  jb : Jh

def Yh.fpF (Y : Yh) (s : SV) (i k : Nat) : Prop := match s i with
  | none => (Y.ds i).fp k
  | some _ => (Y.xs i).fp k
def Yh.dp (Y : Yh) (s : SV) (i : Nat) : Nat := match s i with
  | none => (Y.ds i).p
  | some _ => (Y.xs i).h.p
theorem Yh.fpF_none {Y : Yh} {s : SV} {i k : Nat} (h : s i = none) : Y.fpF s i k = (Y.ds i).fp k := by unfold Yh.fpF; rw [h]
theorem Yh.fpF_some {Y : Yh} {s : SV} {i k : Nat} {v : IV} (h : s i = some v) : Y.fpF s i k = (Y.xs i).fp k := by unfold Yh.fpF; rw [h]
theorem Yh.dp_none {Y : Yh} {s : SV} {i : Nat} (h : s i = none) : Y.dp s i = (Y.ds i).p := by unfold Yh.dp; rw [h]
theorem Yh.dp_some {Y : Yh} {s : SV} {i : Nat} {v : IV} (h : s i = some v) : Y.dp s i = (Y.xs i).h.p := by unfold Yh.dp; rw [h]

def Jh.fp (b : Jh) (j : Option JV) (k : Nat) : Prop := j ≠ none ∧ (k = b.jp ∨ k = b.lp ∨ k = b.bp)
def fpY (yp : Nat) (Y : Yh) (y : YV) (k : Nat) : Prop := k = yp ∨ (∃ i, i < 5 ∧ Y.fpF y.s i k) ∨ Y.tp.fp k ∨ Y.jb.fp y.j k
def jptr (b : Jh) : Option JV → Value
  | none => .pointer none
  | some _ => .pointer (some ⟨b.jp, 0, none⟩)

structure YBlk (w : World) (yp : Nat) (Y : Yh) (s : SV) (r : Int) (jv : Value) : Prop where
  is : ∃ cur, w.heap[yp]? = some (.cells cur 168 (0, 0)) ∧ (∀ i, i < 5 → cur[i]? = some (.pointer (some ⟨Y.dp s i, 0, none⟩))) ∧ cur[5]? = some (.pointer (some ⟨Y.tp.p, 0, none⟩)) ∧
    (∀ i, i < 5 → cur[6 + i]? = some (ptrO (Y.xs i) (s i))) ∧ cur[11]? = some (.int .i64 r) ∧ cur[12]? = some jv

structure IsYard (w : World) (yp : Nat) (Y : Yh) (y : YV) : Prop where
  blk : YBlk w yp Y y.s y.kd.root (jptr Y.jb y.j)
  img : ∀ i v, i < 5 → y.s i = some v → IsImg Gd.no w (Y.xs i) v
  dev : ∀ i, i < 5 → y.s i = none → IsDevG Gd.no w (Y.ds i) (y.dv i)
  top : IsDevG Gd.no w Y.tp y.top
  apart : ∀ i j, i < 5 → j < 5 → i ≠ j → ∀ k, Y.fpF y.s i k → ¬ Y.fpF y.s j k
  apTop : ∀ i, i < 5 → ∀ k, Y.tp.fp k → ¬ Y.fpF y.s i k
  job : ∀ j, y.j = some j → IsJob w Y.jb.jp yp Y.jb.lp Y.jb.bp Y.jb.a Y.jb.cap j ∧ Nums w Y.jb.a j.l ∧ j.l ≠ [] ∧ j.l.length ≤ Y.jb.cap ∧ Apart Y.jb.a (fpY yp Y y)

theorem YBlk.lt {w : World} {yp : Nat} {Y : Yh} {s : SV} {r : Int} {jv : Value} (h : YBlk w yp Y s r jv) : yp < w.heap.size := by
  obtain ⟨c, h1, _⟩ := h.is
  exact lt_of_some h1
theorem YBlk.keep {w w' : World} {yp : Nat} {Y : Yh} {s : SV} {r : Int} {jv : Value} (h : YBlk w yp Y s r jv) (e : w'.heap[yp]? = w.heap[yp]?) : YBlk w' yp Y s r jv := ⟨by rw [e]; exact h.is⟩
theorem YBlk.cells {w : World} {yp : Nat} {Y : Yh} {s : SV} {r : Int} {jv : Value} (h : YBlk w yp Y s r jv) :
    (∀ i, i < 5 → w.cell? ⟨yp, i, none⟩ = some (.pointer (some ⟨Y.dp s i, 0, none⟩))) ∧ w.cell? ⟨yp, 5, none⟩ = some (.pointer (some ⟨Y.tp.p, 0, none⟩)) ∧ (∀ i, i < 5 → w.cell? ⟨yp, 6 + i, none⟩ = some (ptrO (Y.xs i) (s i))) ∧ w.cell? ⟨yp, 11, none⟩ = some (.int .i64 r) ∧ w.cell? ⟨yp, 12, none⟩ = some jv ∧ ∀ i, w.frozen? ⟨yp, i, none⟩ = false := by
  obtain ⟨c, h1, h2, h3, h4, h5, h6⟩ := h.is
  have hc : ∀ i, w.cell? ⟨yp, i, none⟩ = c[i]? := fun i => cell_of_row w yp _ _ _ _ h1
  exact ⟨fun i hi => (hc i).trans (h2 i hi), (hc 5).trans h3, fun i hi => (hc _).trans (h4 i hi), (hc 11).trans h5, (hc 12).trans h6, fun i => frozen_of_row w yp i _ _ h1⟩

/- A block of another kind is none of theirs. -/
theorem IsDevG.notKind {B : Gd} {w : World} {h : Hd} {d : DV} (hd : IsDevG B w h d) {k : Nat} {cur : Array Value} {t : TypeId} (hb : w.heap[k]? = some (.cells cur t (0, 0))) (ht : ¬ (t = 264 ∨ t = 261 ∨ t = 266 ∨ t = 220 ∨ t = 211)) : ¬ h.fp k := fun hk => by
  obtain ⟨cur2, t2, e1, p⟩ := hd.kinds k hk
  rw [hb] at e1
  cases e1
  rcases p with p | p | p
  · exact ht (.inl p)
  · exact ht (.inr (.inl p))
  · exact ht (.inr (.inr (.inl p)))

theorem IsYard.fpF_lt {w : World} {yp : Nat} {Y : Yh} {y : YV} (h : IsYard w yp Y y) {i k : Nat} (hi : i < 5) (hk : Y.fpF y.s i k) : k < w.heap.size := by
  cases hs : y.s i with
  | none => rw [Yh.fpF_none hs] at hk; exact ((h.dev i hi hs).lt k hk).2
  | some v => rw [Yh.fpF_some hs] at hk; exact (h.img i v hi hs).fpLt k hk
theorem IsYard.notF {w : World} {yp : Nat} {Y : Yh} {y : YV} (h : IsYard w yp Y y) {i k : Nat} (hi : i < 5) {cur : Array Value} {t : TypeId} (hb : w.heap[k]? = some (.cells cur t (0, 0))) (ht : ¬ (t = 264 ∨ t = 261 ∨ t = 266 ∨ t = 220 ∨ t = 211)) : ¬ Y.fpF y.s i k := by
  cases hs : y.s i with
  | none => rw [Yh.fpF_none hs]; exact (h.dev i hi hs).notKind hb ht
  | some v => rw [Yh.fpF_some hs]; exact (h.img i v hi hs).notShelf hb ht
theorem IsYard.fp_lt {w : World} {yp : Nat} {Y : Yh} {y : YV} (h : IsYard w yp Y y) {k : Nat} (hk : fpY yp Y y k) : k < w.heap.size := by
  rcases hk with rfl | ⟨i, hi, hk⟩ | hk | ⟨hj, hk⟩
  · exact h.blk.lt
  · exact h.fpF_lt hi hk
  · exact (h.top.lt k hk).2
  · cases e : y.j with
    | none => exact absurd e hj
    | some j =>
      obtain ⟨l1, l2, l3⟩ := (h.job j e).1.lts
      rcases hk with rfl | rfl | rfl
      · exact l1
      · exact l2
      · exact l3
theorem IsYard.yp_not {w : World} {yp : Nat} {Y : Yh} {y : YV} (h : IsYard w yp Y y) : (∀ i, i < 5 → ¬ Y.fpF y.s i yp) ∧ ¬ Y.tp.fp yp ∧ ¬ Y.jb.fp y.j yp := by
  obtain ⟨c, h1, _⟩ := h.blk.is
  refine ⟨fun i hi => h.notF hi h1 (by decide), h.top.notKind h1 (by decide), fun ⟨hj, hk⟩ => ?_⟩
  cases e : y.j with
  | none => exact absurd e hj
  | some j =>
    have hJ := (h.job j e).1
    have e1 := hJ.blk
    have e2 : w.heap[Y.jb.lp]? = _ := hJ.set
    have e3 : w.heap[Y.jb.bp]? = _ := hJ.bkt
    rcases hk with e4 | e4 | e4
    · rw [← e4, h1] at e1; simp at e1
    · rw [← e4, h1] at e2; simp at e2
    · rw [← e4, h1] at e3; simp at e3
/- The job's blocks are none of a file's, nor of the desk's. -/
theorem IsYard.jobNot {w : World} {yp : Nat} {Y : Yh} {y : YV} (h : IsYard w yp Y y) {k : Nat} (hk : Y.jb.fp y.j k) : (∀ i, i < 5 → ¬ Y.fpF y.s i k) ∧ ¬ Y.tp.fp k := by
  obtain ⟨hj, hk⟩ := hk
  cases e : y.j with
  | none => exact absurd e hj
  | some j =>
    have hJ := (h.job j e).1
    have e1 := hJ.blk
    have e2 : w.heap[Y.jb.lp]? = _ := hJ.set
    have e3 : w.heap[Y.jb.bp]? = _ := hJ.bkt
    rcases hk with rfl | rfl | rfl
    · exact ⟨fun i hi => h.notF hi e1 (by decide), h.top.notKind e1 (by decide)⟩
    · exact ⟨fun i hi => h.notF hi e2 (by decide), h.top.notKind e2 (by decide)⟩
    · exact ⟨fun i hi => h.notF hi e3 (by decide), h.top.notKind e3 (by decide)⟩

theorem IsYard.inS {w : World} {yp : Nat} {Y : Yh} {y : YV} (_h : IsYard w yp Y y) {k : Nat} (hk : fpS Y.xs y.s k) : ∃ i, i < 5 ∧ Y.fpF y.s i k := by
  obtain ⟨i, hi, hs, hf⟩ := hk
  cases hv : y.s i with
  | none => exact absurd hv hs
  | some v => exact ⟨i, hi, by rw [Yh.fpF_some hv]; exact hf⟩

theorem IsYard.shelf {w : World} {yp m : Nat} {Y : Yh} {y : YV} (h : IsYard w yp Y y) (hok : y.s.ok m) : IsShelf w yp Y.xs y.s m := by
  obtain ⟨c, h1, h2, h3, h4, h5, h6⟩ := h.blk.is
  refine ⟨⟨c, h1, h4, fun i hi hs => ?_⟩, h.img, hok, fun i j hi hj hij hsi hsj k hk hk2 => ?_⟩
  · cases hv : y.s i with
    | none => exact absurd hv hs
    | some v => rw [h2 i hi, Yh.dp_some hv]
  · cases hv : y.s i with
    | none => exact absurd hv hsi
    | some v =>
      cases hu : y.s j with
      | none => exact absurd hu hsj
      | some u => exact h.apart i j hi hj hij k (by rw [Yh.fpF_some hv]; exact hk) (by rw [Yh.fpF_some hu]; exact hk2)

/- Nothing of it turns. -/
theorem IsYard.keep {w w' : World} {yp : Nat} {Y : Yh} {y : YV} (h : IsYard w yp Y y) (hk : ∀ k, fpY yp Y y k → w'.heap[k]? = w.heap[k]?) (ha : ∀ g o, Y.jb.a = some ⟨g, o, none⟩ → g < w.heap.size → w'.heap[g]? = w.heap[g]?) : IsYard w' yp Y y :=
  ⟨h.blk.keep (hk _ (.inl rfl)), fun i v hi hv => (h.img i v hi hv).keepAll fun k hf => hk k (.inr (.inl ⟨i, hi, by rw [Yh.fpF_some hv]; exact hf⟩)), fun i hi hv => (h.dev i hi hv).keep fun k hf => hk k (.inr (.inl ⟨i, hi, by rw [Yh.fpF_none hv]; exact hf⟩)), h.top.keep fun k hf => hk k (.inr (.inr (.inl hf))), h.apart, h.apTop, fun j hj => by
    obtain ⟨h1, h2, h3, h4, h5⟩ := h.job j hj
    have hn : y.j ≠ none := by rw [hj]; intro e; cases e
    exact ⟨h1.keep (hk _ (.inr (.inr (.inr ⟨hn, .inl rfl⟩)))) (hk _ (.inr (.inr (.inr ⟨hn, .inr (.inl rfl)⟩)))) (hk _ (.inr (.inr (.inr ⟨hn, .inr (.inr rfl)⟩)))), h2.keep fun g o e => ha g o e (h2.lt h3 e), h3, h4, h5⟩⟩
theorem IsYard.below {w w' : World} {yp : Nat} {Y : Yh} {y : YV} (h : IsYard w yp Y y) (hb : Below w.heap.size w w') : IsYard w' yp Y y :=
  h.keep (fun _ hk => hb.block _ (h.fp_lt hk)) fun _ _ _ hl => hb.block _ hl
/- Other blocks turn. -/
theorem IsYard.beside {S S' : Nat → Prop} {w w' : World} {yp : Nat} {Y : Yh} {y : YV} (h : IsYard w yp Y y) (hm : Moved S w S' w') (hs : ∀ k, fpY yp Y y k → ¬ S k) (ha : Apart Y.jb.a S) : IsYard w' yp Y y :=
  h.keep (fun k hk => hm.block (h.fp_lt hk) (hs k hk)) fun g o e hl => hm.block hl (ha g o e)

/- What a call leaves. -/
def YDid (yp : Nat) (Y : Yh) (y y' : YV) (w w' : World) : Prop := ∃ Y' : Yh, (Y'.jb = Y.jb ∨ ∀ g o, Y'.jb.a = some ⟨g, o, none⟩ → w.heap.size ≤ g ∧ g < w'.heap.size) ∧ IsYard w' yp Y' y' ∧ Moved (fpY yp Y y) w (fpY yp Y' y') w'
theorem YDid.of_below {w w' : World} {yp : Nat} {Y : Yh} {y : YV} (h : IsYard w yp Y y) (hb : Below w.heap.size w w') : YDid yp Y y y w w' := ⟨Y, .inl rfl, h.below hb, Moved.of_below hb⟩

/- The files turn, and the job. -/
theorem IsYard.acted {S S' : Nat → Prop} {w w' : World} {yp m' : Nat} {Y : Yh} {y : YV} {xs' : Nat → Ih} {z : SV} {j' : Option JV} (h : IsYard w yp Y y) (hs : IsShelf w' yp xs' z m') (hm : Moved S w S' w')
    (hS : ∀ k, S k → fpS Y.xs y.s k ∨ Y.jb.fp y.j k) (hS' : ∀ k, fpS xs' z k ∨ Y.jb.fp y.j k → S' k ∨ k < w.heap.size ∧ (fpS Y.xs y.s k ∨ Y.jb.fp y.j k)) (hn : j' = none ↔ y.j = none)
    (hj : ∀ a, j' = some a → ∃ j, y.j = some j ∧ a.l = j.l ∧ IsJob w' Y.jb.jp yp Y.jb.lp Y.jb.bp Y.jb.a Y.jb.cap a) :
    IsYard w' yp { Y with xs := xs' } { y with s := z, j := j' } ∧ Moved (fpY yp Y y) w (fpY yp { Y with xs := xs' } { y with s := z, j := j' }) w' := by
  obtain ⟨n1, n2, n3⟩ := h.yp_not
  have hSF : ∀ k, S k → (∃ i, i < 5 ∧ Y.fpF y.s i k ∧ y.s i ≠ none) ∨ Y.jb.fp y.j k := fun k hk => by
    rcases hS k hk with ⟨i, hi, hne, hf⟩ | hk
    · cases hv : y.s i with
      | none => exact absurd hv hne
      | some v => exact .inl ⟨i, hi, by rw [Yh.fpF_some hv]; exact hf, (by rw [hv]; intro e; cases e)⟩
    · exact .inr hk
  have hyp : ¬ S yp := fun e => by
    rcases hSF yp e with ⟨i, hi, hf, _⟩ | hk
    · exact n1 i hi hf
    · exact n3 hk
  have hblk := hm.block h.blk.lt hyp
  obtain ⟨c, h1, h2, h3, h4, h5, h6⟩ := h.blk.is
  obtain ⟨c', g1, g2, g3⟩ := hs.is_
  rw [hblk, h1] at g1
  have ec : c = c' := by cases g1; rfl
  subst ec
  have hsame : ∀ i, i < 5 → (z i = none ↔ y.s i = none) := fun i hi => by
    have e := (g2 i hi).symm.trans (h4 i hi)
    cases hz : z i with
    | none =>
      cases hv : y.s i with
      | none => exact ⟨fun _ => rfl, fun _ => rfl⟩
      | some v => rw [hz, hv] at e; cases e
    | some u =>
      cases hv : y.s i with
      | none => rw [hz, hv] at e; cases e
      | some v => exact ⟨fun e => (by cases e), fun e => (by cases e)⟩
  have hdp : ∀ i, i < 5 → ({ Y with xs := xs' } : Yh).dp z i = Y.dp y.s i := fun i hi => by
    cases hz : z i with
    | none => rw [Yh.dp_none hz, Yh.dp_none ((hsame i hi).1 hz)]
    | some u =>
      cases hv : y.s i with
      | none => rw [(hsame i hi).2 hv] at hz; cases hz
      | some v =>
        have e := (g3 i hi (by rw [hz]; intro e; cases e)).symm.trans (h2 i hi)
        rw [Yh.dp_some hz]
        have e2 := Option.some.inj e
        injection e2 with e3
        have e4 := Option.some.inj e3
        injection e4
  -- a device without an image, the desk's, stay
  have hno : ∀ k, k < w.heap.size → (∀ i, i < 5 → y.s i ≠ none → ¬ Y.fpF y.s i k) → ¬ Y.jb.fp y.j k → ¬ S k := fun k _ hf hj e => by
    rcases hSF k e with ⟨i, hi, hk, hne⟩ | hk
    · exact hf i hi hne hk
    · exact hj hk
  have hds : ∀ i, i < 5 → y.s i = none → ∀ k, (Y.ds i).fp k → ¬ S k := fun i hi hv k hk e => by
    have hkF : Y.fpF y.s i k := by rw [Yh.fpF_none hv]; exact hk
    rcases hSF k e with ⟨i', hi', hf, hne⟩ | hf
    · exact h.apart i i' hi hi' (fun e => hne (by rw [← e]; exact hv)) k hkF hf
    · exact (h.jobNot hf).1 i hi hkF
  have htp : ∀ k, Y.tp.fp k → ¬ S k := fun k hk e => by
    rcases hSF k e with ⟨i', hi', hf, _⟩ | hf
    · exact h.apTop i' hi' k hk hf
    · exact (h.jobNot hf).2 hk
  have hnew : ∀ k, fpS xs' z k ∨ Y.jb.fp y.j k → (fpS Y.xs y.s k ∨ Y.jb.fp y.j k) ∨ w.heap.size ≤ k := fun k hk => by
    rcases hS' k hk with h7 | h7
    · rcases hm.new k h7 with h8 | h8
      · exact .inl (hS k h8)
      · exact .inr h8
    · exact .inl h7.2
  have hfpz : ∀ i k, i < 5 → ({ Y with xs := xs' } : Yh).fpF z i k → (y.s i = none ∧ (Y.ds i).fp k) ∨ (z i ≠ none ∧ fpS xs' z k ∧ (xs' i).fp k) := fun i k hi hk => by
    cases hz : z i with
    | none => rw [Yh.fpF_none hz] at hk; exact .inl ⟨(hsame i hi).1 hz, hk⟩
    | some u => rw [Yh.fpF_some hz] at hk; exact .inr ⟨(by intro e; cases e), ⟨i, hi, (by rw [hz]; intro e; cases e), hk⟩, hk⟩
  -- what is of the files now, and was there, was theirs or the job's
  have hout : ∀ k, k < w.heap.size → fpS xs' z k → (∃ i, i < 5 ∧ Y.fpF y.s i k ∧ y.s i ≠ none) ∨ Y.jb.fp y.j k := fun k hl hk => by
    rcases hnew k (.inl hk) with h7 | h7
    · rcases h7 with ⟨i, hi, hne, hf⟩ | h7
      · cases hv : y.s i with
        | none => exact absurd hv hne
        | some v => exact .inl ⟨i, hi, by rw [Yh.fpF_some hv]; exact hf, (by rw [hv]; intro e; cases e)⟩
      · exact .inr h7
    · omega
  have hM : Moved (fpY yp Y y) w (fpY yp { Y with xs := xs' } { y with s := z, j := j' }) w' := by
    refine ⟨hm.kept.mono fun k _ hk => ?_, fun k hk => ?_⟩
    · rcases hSF k hk with ⟨i, hi, hf, _⟩ | hf
      · exact .inr (.inl ⟨i, hi, hf⟩)
      · exact .inr (.inr (.inr hf))
    · rcases hk with rfl | ⟨i, hi, hf⟩ | hf | ⟨hj1, hj2⟩
      · exact .inl (.inl rfl)
      · rcases hfpz i k hi hf with ⟨hv, hk⟩ | ⟨_, hk, _⟩
        · exact .inl (.inr (.inl ⟨i, hi, by rw [Yh.fpF_none hv]; exact hk⟩))
        · rcases hnew k (.inl hk) with h7 | h7
          · rcases h7 with h7 | h7
            · exact .inl (.inr (.inl (h.inS h7)))
            · exact .inl (.inr (.inr (.inr h7)))
          · exact .inr h7
      · exact .inl (.inr (.inr (.inl hf)))
      · exact .inl (.inr (.inr (.inr ⟨fun e => hj1 (hn.2 e), hj2⟩)))
  refine ⟨⟨⟨c, by rw [hblk]; exact h1, fun i hi => by rw [hdp i hi]; exact h2 i hi, h3, g2, h5, ?_⟩, hs.img, fun i hi hz => ?_, ?_, fun i j hi hj2 hij k hk hk2 => ?_, fun i hi k hk hk2 => ?_, fun a ha => ?_⟩, hM⟩
  · rw [h6]
    cases e : j' with
    | none => rw [hn.1 e]
    | some a =>
      cases e2 : y.j with
      | none => rw [hn.2 e2] at e; cases e
      | some b => rfl
  · have hv := (hsame i hi).1 hz
    have hd := h.dev i hi hv
    exact hd.keep fun k hk => hm.block (hd.lt k hk).2 (hds i hi hv k hk)
  · exact h.top.keep fun k hk => hm.block (h.top.lt k hk).2 (htp k hk)
  · rcases hfpz i k hi hk with ⟨hv, hk⟩ | ⟨hne, hk, hki⟩
    · have hl := ((h.dev i hi hv).lt k hk).2
      have hkF : Y.fpF y.s i k := by rw [Yh.fpF_none hv]; exact hk
      rcases hfpz j k hj2 hk2 with ⟨hv2, hk2⟩ | ⟨_, hk2, _⟩
      · exact h.apart i j hi hj2 hij k hkF (by rw [Yh.fpF_none hv2]; exact hk2)
      · rcases hout k hl hk2 with ⟨i', hi', hf, hne⟩ | hf
        · exact h.apart i i' hi hi' (fun e => hne (by rw [← e]; exact hv)) k hkF hf
        · exact (h.jobNot hf).1 i hi hkF
    · rcases hfpz j k hj2 hk2 with ⟨hv2, hk2⟩ | ⟨hne2, _, hkj⟩
      · have hl := ((h.dev j hj2 hv2).lt k hk2).2
        have hkF : Y.fpF y.s j k := by rw [Yh.fpF_none hv2]; exact hk2
        rcases hout k hl hk with ⟨i', hi', hf, hne'⟩ | hf
        · exact h.apart j i' hj2 hi' (fun e => hne' (by rw [← e]; exact hv2)) k hkF hf
        · exact (h.jobNot hf).1 j hj2 hkF
      · exact hs.apart i j hi hj2 hij hne hne2 k hki hkj
  · rcases hfpz i k hi hk2 with ⟨hv2, hk2⟩ | ⟨_, hk2, _⟩
    · exact h.apTop i hi k hk (by rw [Yh.fpF_none hv2]; exact hk2)
    · rcases hout k (h.top.lt k hk).2 hk2 with ⟨i', hi', hf, _⟩ | hf
      · exact h.apTop i' hi' k hk hf
      · exact (h.jobNot hf).2 hk
  · obtain ⟨j, e1, e2, e3⟩ := hj a ha
    obtain ⟨h7, h8, h9, h10, h11⟩ := h.job j e1
    rw [e2]
    exact ⟨e3, h8.moved hM h11, h9, h10, h11.moved h8 h9 hM⟩
end Go.Proofs.YtonhoahnieoebabGreatDoor

namespace Go.Proofs.YtonhoahnieoebabGreatDoor
open Go.RowKit Go.Maps

theorem IsDevG.butG {B : Gd} {w : World} {h : Hd} {d : DV} (hd : IsDevG B w h d) : IsDevG (Gd.but w h.fp) w h d := ⟨hd.toIsDev, fun _ hk hg => hg.2 hk⟩
theorem IsDevG.noG {B : Gd} {w : World} {h : Hd} {d : DV} (hd : IsDevG B w h d) : IsDevG Gd.no w h d := ⟨hd.toIsDev, fun _ _ hg => hg⟩
theorem IsDevG.moved {w w' : World} {h h' : Hd} {d : DV} {T : Nat → Prop} (hd : IsDevG (Gd.but w h.fp) w' h' d) (hk : Kept T w w') (ht : ∀ k, T k → ¬ (Gd.but w h.fp).g k) : Moved h.fp w h'.fp w' := but_moved hk ht hd.out

/- The desk's device turns. -/
theorem IsYard.topped {w w' : World} {yp : Nat} {Y : Yh} {y : YV} (h : IsYard w yp Y y) {t' : Hd} {d' : DV} (hd : IsDevG Gd.no w' t' d') (hp : t'.p = Y.tp.p) (hm : Moved Y.tp.fp w t'.fp w') :
    IsYard w' yp { Y with tp := t' } { y with top := d' } ∧ Moved (fpY yp Y y) w (fpY yp { Y with tp := t' } { y with top := d' }) w' := by
  obtain ⟨n1, n2, n3⟩ := h.yp_not
  have hM : Moved (fpY yp Y y) w (fpY yp { Y with tp := t' } { y with top := d' }) w' := ⟨hm.kept.mono fun k _ hk => .inr (.inr (.inl hk)), fun k hk => by
    rcases hk with hk | hk | hk | hk
    · exact .inl (.inl hk)
    · exact .inl (.inr (.inl hk))
    · rcases hm.new k hk with h1 | h1
      · exact .inl (.inr (.inr (.inl h1)))
      · exact .inr h1
    · exact .inl (.inr (.inr (.inr hk)))⟩
  have hF : ∀ i, i < 5 → ∀ k, Y.fpF y.s i k → w'.heap[k]? = w.heap[k]? := fun i hi k hk => hm.block (h.fpF_lt hi hk) fun e => h.apTop i hi k e hk
  refine ⟨⟨?_, fun i v hi hv => (h.img i v hi hv).keepAll fun k hk => hF i hi k (by rw [Yh.fpF_some hv]; exact hk), fun i hi hv => (h.dev i hi hv).keep fun k hk => hF i hi k (by rw [Yh.fpF_none hv]; exact hk), hd, h.apart, fun i hi k hk hk2 => ?_, fun j hj => ?_⟩, hM⟩
  · obtain ⟨c, h1, h2, h3, h4, h5, h6⟩ := h.blk.is
    exact ⟨c, (hm.block h.blk.lt n2).trans h1, h2, by rw [h3]; show _ = some (Value.pointer (some ⟨t'.p, 0, none⟩)); rw [hp], h4, h5, h6⟩
  · rcases hm.new k hk with h1 | h1
    · exact h.apTop i hi k h1 hk2
    · have := h.fpF_lt hi hk2; omega
  · obtain ⟨h7, h8, h9, h10, h11⟩ := h.job j hj
    have hn : y.j ≠ none := by rw [hj]; intro e; cases e
    have hJ : ∀ k, k = Y.jb.jp ∨ k = Y.jb.lp ∨ k = Y.jb.bp → w'.heap[k]? = w.heap[k]? := fun k hk => hm.block (h.fp_lt (.inr (.inr (.inr ⟨hn, hk⟩)))) (h.jobNot ⟨hn, hk⟩).2
    exact ⟨h7.keep (hJ _ (.inl rfl)) (hJ _ (.inr (.inl rfl))) (hJ _ (.inr (.inr rfl))), h8.moved hM h11, h9, h10, h11.moved h8 h9 hM⟩

/- A file turns. -/
theorem IsYard.refile {w w1 w2 : World} {yp i : Nat} {Y Y' : Yh} {y y' : YV} (h : IsYard w yp Y y) (hi : i < 5) (hm : Moved (Y.fpF y.s i) w (Y'.fpF y'.s i) w1) (h12 : Kept (fun k => k = yp) w1 w2)
    (hb : YBlk w2 yp Y' y'.s y'.kd.root (jptr Y'.jb y'.j)) (himg : ∀ v, y'.s i = some v → IsImg Gd.no w2 (Y'.xs i) v) (hdev : y'.s i = none → IsDevG Gd.no w2 (Y'.ds i) (y'.dv i))
    (hs : ∀ j, j ≠ i → y'.s j = y.s j ∧ y'.dv j = y.dv j ∧ Y'.xs j = Y.xs j ∧ Y'.ds j = Y.ds j) (ht : Y'.tp = Y.tp ∧ Y'.jb = Y.jb ∧ y'.top = y.top ∧ y'.j = y.j) :
    IsYard w2 yp Y' y' ∧ Moved (fpY yp Y y) w (fpY yp Y' y') w2 := by
  obtain ⟨n1, n2, n3⟩ := h.yp_not
  obtain ⟨t1, t2, t3, t4⟩ := ht
  have hfp : ∀ j, j ≠ i → ∀ k, Y'.fpF y'.s j k = Y.fpF y.s j k := fun j hj k => by
    obtain ⟨e1, _, e3, e4⟩ := hs j hj
    unfold Yh.fpF
    rw [e1, e3, e4]
  have hblk : ∀ k, k < w.heap.size → ¬ Y.fpF y.s i k → k ≠ yp → w2.heap[k]? = w.heap[k]? := fun k hk h1 h2 =>
    (h12.block k (Nat.lt_of_lt_of_le hk hm.size) h2).trans (hm.block hk h1)
  have hM : Moved (fpY yp Y y) w (fpY yp Y' y') w2 := by
    refine ⟨⟨h12.os.trans hm.kept.os, h12.tape.trans hm.kept.tape, h12.output.trans hm.kept.output, Nat.le_trans hm.size h12.size, fun k hk hs => hblk k hk (fun e => hs (.inr (.inl ⟨i, hi, e⟩))) (fun e => hs (.inl e))⟩, fun k hk => ?_⟩
    rcases hk with hk | ⟨j, hj, hk⟩ | hk | hk
    · exact .inl (.inl hk)
    · by_cases e : j = i
      · rw [e] at hk
        rcases hm.new k hk with h1 | h1
        · exact .inl (.inr (.inl ⟨i, hi, h1⟩))
        · exact .inr h1
      · rw [hfp j e] at hk; exact .inl (.inr (.inl ⟨j, hj, hk⟩))
    · rw [t1] at hk; exact .inl (.inr (.inr (.inl hk)))
    · rw [t2, t4] at hk; exact .inl (.inr (.inr (.inr hk)))
  have hF : ∀ j, j < 5 → j ≠ i → ∀ k, Y.fpF y.s j k → w2.heap[k]? = w.heap[k]? := fun j hj e k hk => hblk k (h.fpF_lt hj hk) (fun e2 => h.apart j i hj hi e k hk e2) (fun e2 => n1 j hj (by rw [← e2]; exact hk))
  refine ⟨⟨hb, fun j v hj hv => ?_, fun j hj hv => ?_, ?_, fun a b ha hb2 hab k hk hk2 => ?_, fun j hj k hk hk2 => ?_, fun j hj => ?_⟩, hM⟩
  · by_cases e : j = i
    · rw [e] at hv ⊢; exact himg v hv
    · obtain ⟨e1, _, e3, e4⟩ := hs j e
      rw [e1] at hv
      rw [e3]
      exact (h.img j v hj hv).keepAll fun k hk => hF j hj e k (by rw [Yh.fpF_some hv]; exact hk)
  · by_cases e : j = i
    · rw [e] at hv ⊢; exact hdev hv
    · obtain ⟨e1, e2, e3, e4⟩ := hs j e
      rw [e1] at hv
      rw [e4, e2]
      exact (h.dev j hj hv).keep fun k hk => hF j hj e k (by rw [Yh.fpF_none hv]; exact hk)
  · rw [t1, t3]
    exact h.top.keep fun k hk => hblk k (h.top.lt k hk).2 (h.apTop i hi k hk) (fun e => n2 (by rw [← e]; exact hk))
  · have hx : ∀ j, j < 5 → j ≠ i → Y.fpF y.s j k → ¬ Y'.fpF y'.s i k := fun j hj e hf hf2 => by
      rcases hm.new k hf2 with h1 | h1
      · exact h.apart j i hj hi e k hf h1
      · have := h.fpF_lt hj hf; omega
    by_cases ea : a = i
    · have eb : b ≠ i := fun e => hab (by rw [ea, e])
      rw [hfp b eb] at hk2
      rw [ea] at hk
      exact hx b hb2 eb hk2 hk
    · rw [hfp a ea] at hk
      by_cases eb : b = i
      · rw [eb] at hk2; exact hx a ha ea hk hk2
      · rw [hfp b eb] at hk2; exact h.apart a b ha hb2 hab k hk hk2
  · rw [t1] at hk
    by_cases e : j = i
    · rw [e] at hk2
      rcases hm.new k hk2 with h1 | h1
      · exact h.apTop i hi k hk h1
      · have := (h.top.lt k hk).2; omega
    · rw [hfp j e] at hk2; exact h.apTop j hj k hk hk2
  · rw [t4] at hj
    obtain ⟨h7, h8, h9, h10, h11⟩ := h.job j hj
    have hn : y.j ≠ none := by rw [hj]; intro e; cases e
    have hJ : ∀ k, k = Y.jb.jp ∨ k = Y.jb.lp ∨ k = Y.jb.bp → w2.heap[k]? = w.heap[k]? := fun k hk => hblk k (h.fp_lt (.inr (.inr (.inr ⟨hn, hk⟩)))) ((h.jobNot ⟨hn, hk⟩).1 i hi) (fun e => n3 (by rw [← e]; exact ⟨hn, hk⟩))
    rw [t2]
    exact ⟨h7.keep (hJ _ (.inl rfl)) (hJ _ (.inr (.inl rfl))) (hJ _ (.inr (.inr rfl))), h8.moved hM h11, h9, h10, h11.moved h8 h9 hM⟩

/- A cell of the yard's own block is set. -/
theorem IsYard.own {w w2 : World} {yp : Nat} {Y : Yh} {y : YV} (h : IsYard w yp Y y) (hk : Kept (fun k => k = yp) w w2) {d : KDesk} (hb : YBlk w2 yp Y y.s d.root (jptr Y.jb y.j)) : IsYard w2 yp Y { y with kd := d } ∧ Moved (fpY yp Y y) w (fpY yp Y { y with kd := d }) w2 := by
  obtain ⟨n1, n2, n3⟩ := h.yp_not
  have hM : Moved (fpY yp Y y) w (fpY yp Y { y with kd := d }) w2 := ⟨hk.mono fun k _ e => .inl e, fun k hk => .inl hk⟩
  have hF : ∀ i, i < 5 → ∀ k, Y.fpF y.s i k → w2.heap[k]? = w.heap[k]? := fun i hi k hk2 => hk.block k (h.fpF_lt hi hk2) (fun e => n1 i hi (by rw [← e]; exact hk2))
  refine ⟨⟨hb, fun i v hi hv => (h.img i v hi hv).keepAll fun k hk => hF i hi k (by rw [Yh.fpF_some hv]; exact hk), fun i hi hv => (h.dev i hi hv).keep fun k hk => hF i hi k (by rw [Yh.fpF_none hv]; exact hk), h.top.keep fun k hk2 => hk.block k (h.top.lt k hk2).2 (fun e => n2 (by rw [← e]; exact hk2)), h.apart, h.apTop, fun j hj => ?_⟩, hM⟩
  obtain ⟨h7, h8, h9, h10, h11⟩ := h.job j hj
  have hn : y.j ≠ none := by rw [hj]; intro e; cases e
  have hJ : ∀ k, k = Y.jb.jp ∨ k = Y.jb.lp ∨ k = Y.jb.bp → w2.heap[k]? = w.heap[k]? := fun k hk2 => hk.block k (h.fp_lt (.inr (.inr (.inr ⟨hn, hk2⟩)))) (fun e => n3 (by rw [← e]; exact ⟨hn, hk2⟩))
  exact ⟨h7.keep (hJ _ (.inl rfl)) (hJ _ (.inr (.inl rfl))) (hJ _ (.inr (.inr rfl))), h8.moved hM h11, h9, h10, h11.moved h8 h9 hM⟩

theorem YBlk.setRoot {w : World} {yp : Nat} {Y : Yh} {s : SV} {r : Int} {jv : Value} (h : YBlk w yp Y s r jv) (r' : Int) : YBlk (w.setCell ⟨yp, 11, none⟩ (.int .i64 r')) yp Y s r' jv := by
  obtain ⟨c, h1, h2, h3, h4, h5, h6⟩ := h.is
  have hl : 12 < c.size := by rcases Nat.lt_or_ge 12 c.size with e | e; exact e; rw [Array.getElem?_eq_none e] at h6; cases h6
  refine ⟨_, heap_setCell_same w yp 11 _ _ _ h1, fun i hi => ?_, ?_, fun i hi => ?_, ?_, ?_⟩
  · rw [Array.getElem?_setIfInBounds_ne (by omega)]; exact h2 i hi
  · rw [Array.getElem?_setIfInBounds_ne (by omega)]; exact h3
  · rw [Array.getElem?_setIfInBounds_ne (by omega)]; exact h4 i hi
  · rw [Array.getElem?_setIfInBounds_self_of_lt (by omega)]
  · rw [Array.getElem?_setIfInBounds_ne (by omega)]; exact h6
theorem YBlk.setJob {w : World} {yp : Nat} {Y : Yh} {s : SV} {r : Int} {jv : Value} (h : YBlk w yp Y s r jv) (b : Jh) (v : Value) : YBlk (w.setCell ⟨yp, 12, none⟩ v) yp { Y with jb := b } s r v := by
  obtain ⟨c, h1, h2, h3, h4, h5, h6⟩ := h.is
  have hl : 12 < c.size := by rcases Nat.lt_or_ge 12 c.size with e | e; exact e; rw [Array.getElem?_eq_none e] at h6; cases h6
  refine ⟨_, heap_setCell_same w yp 12 _ _ _ h1, fun i hi => ?_, ?_, fun i hi => ?_, ?_, ?_⟩
  · rw [Array.getElem?_setIfInBounds_ne (by omega)]; exact h2 i hi
  · rw [Array.getElem?_setIfInBounds_ne (by omega)]; exact h3
  · rw [Array.getElem?_setIfInBounds_ne (by omega)]; exact h4 i hi
  · rw [Array.getElem?_setIfInBounds_ne (by omega)]; exact h5
  · rw [Array.getElem?_setIfInBounds_self_of_lt (by omega)]
theorem YBlk.setFile {w : World} {yp i : Nat} {Y Y' : Yh} {s s' : SV} {r : Int} {jv : Value} (h : YBlk w yp Y s r jv) (hi : i < 5) (hx : ∀ j, j ≠ i → Y'.xs j = Y.xs j ∧ s' j = s j) (hd : ∀ j, j < 5 → Y'.dp s' j = Y.dp s j) (ht : Y'.tp.p = Y.tp.p) :
    YBlk (w.setCell ⟨yp, 6 + i, none⟩ (ptrO (Y'.xs i) (s' i))) yp Y' s' r jv := by
  obtain ⟨c, h1, h2, h3, h4, h5, h6⟩ := h.is
  have hl : 12 < c.size := by rcases Nat.lt_or_ge 12 c.size with e | e; exact e; rw [Array.getElem?_eq_none e] at h6; cases h6
  refine ⟨_, heap_setCell_same w yp (6 + i) _ _ _ h1, fun j hj => ?_, ?_, fun j hj => ?_, ?_, ?_⟩
  · rw [Array.getElem?_setIfInBounds_ne (by omega), hd j hj]; exact h2 j hj
  · rw [Array.getElem?_setIfInBounds_ne (by omega), ht]; exact h3
  · by_cases e : j = i
    · rw [e, Array.getElem?_setIfInBounds_self_of_lt (by omega)]
    · rw [Array.getElem?_setIfInBounds_ne (by omega), (hx j e).1, (hx j e).2]; exact h4 j hj
  · rw [Array.getElem?_setIfInBounds_ne (by omega)]; exact h5
  · rw [Array.getElem?_setIfInBounds_ne (by omega)]; exact h6

theorem IsYard.setRoot {w : World} {yp : Nat} {Y : Yh} {y : YV} (h : IsYard w yp Y y) (d : KDesk) : IsYard (w.setCell ⟨yp, 11, none⟩ (.int .i64 d.root)) yp Y { y with kd := d } ∧ Moved (fpY yp Y y) w (fpY yp Y { y with kd := d }) (w.setCell ⟨yp, 11, none⟩ (.int .i64 d.root)) :=
  h.own (Kept.setCell (S := fun k => k = yp) (p := ⟨yp, 11, none⟩) (Kept.refl _ w) (.inl rfl) _) (h.blk.setRoot d.root)

/- Another job. -/
theorem IsYard.setJob {w : World} {yp : Nat} {Y : Yh} {y : YV} {b : Jh} {j : JV} (h : IsYard w yp Y y) (hj : IsJob w b.jp yp b.lp b.bp b.a b.cap j) (hn : Nums w b.a j.l) (hne : j.l ≠ []) (hc : j.l.length ≤ b.cap) (ha : Apart b.a (fpY yp { Y with jb := b } { y with j := some j })) :
    IsYard (w.setCell ⟨yp, 12, none⟩ (.pointer (some ⟨b.jp, 0, none⟩))) yp { Y with jb := b } { y with j := some j } := by
  obtain ⟨n1, n2, n3⟩ := h.yp_not
  obtain ⟨c, h1, _⟩ := h.blk.is
  have hk : Kept (fun k => k = yp) w (w.setCell ⟨yp, 12, none⟩ (.pointer (some ⟨b.jp, 0, none⟩))) := Kept.setCell (S := fun k => k = yp) (p := ⟨yp, 12, none⟩) (Kept.refl _ w) (.inl rfl) _
  have hF : ∀ i, i < 5 → ∀ k, Y.fpF y.s i k → (w.setCell ⟨yp, 12, none⟩ (.pointer (some ⟨b.jp, 0, none⟩))).heap[k]? = w.heap[k]? := fun i hi k hk2 => hk.block k (h.fpF_lt hi hk2) (fun e => n1 i hi (by rw [← e]; exact hk2))
  refine ⟨h.blk.setJob b _, fun i v hi hv => (h.img i v hi hv).keepAll fun k hk => hF i hi k (by rw [Yh.fpF_some hv]; exact hk), fun i hi hv => (h.dev i hi hv).keep fun k hk => hF i hi k (by rw [Yh.fpF_none hv]; exact hk), h.top.keep fun k hk2 => hk.block k (h.top.lt k hk2).2 (fun e => n2 (by rw [← e]; exact hk2)), h.apart, h.apTop, fun j' hj' => ?_⟩
  have e : j = j' := Option.some.inj hj'
  subst e
  have e1 := hj.blk
  have e2 : w.heap[b.lp]? = _ := hj.set
  have e3 : w.heap[b.bp]? = _ := hj.bkt
  obtain ⟨l1, l2, l3⟩ := hj.lts
  refine ⟨hj.keep (hk.block _ l1 fun e => ?_) (hk.block _ l2 fun e => ?_) (hk.block _ l3 fun e => ?_), hn.keep fun g o e => hk.block g (hn.lt hne e) fun e2 => ha g o e (.inl e2), hne, hc, ha⟩
  · rw [e, h1] at e1; simp at e1
  · rw [e, h1] at e2; simp at e2
  · rw [e, h1] at e3; simp at e3
end Go.Proofs.YtonhoahnieoebabGreatDoor
