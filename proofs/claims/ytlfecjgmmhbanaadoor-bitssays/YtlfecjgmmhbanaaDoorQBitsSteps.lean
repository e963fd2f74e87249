/-
BitsSays: the steps of its rounds for join and for going over all, as facts on what stands in memory.
-/
import Derived.Test.YtlfecjgmmhbanaaDoorQBitsSays0
namespace Go.Proofs.YtlfecjgmmhbanaaDoor.S4
open Go.RowKit Go.Shelf

theorem cells_ne {W : World} {b c : Nat} {t t' : TypeId} {u u' : Array Value} (h : W.heap[b]? = some (.cells u t (0, 0))) (h' : W.heap[c]? = some (.cells u' t' (0, 0))) (ht : t ≠ t') : b ≠ c := fun e => by
  rw [e, h'] at h; injection h with h; injection h with h1 h2; exact ht h2.symm

theorem kept_grown {W W' : World} {row : Option Nat} (hg : W.grownBy W' row) : Kept (fun k => row = some k) W W' :=
  ⟨hg.os, hg.tape, hg.output, hg.size, fun k hk hs => hg.block k hk (fun e => hs e.symm)⟩

theorem not_row {W : World} {row : Option Nat} {B b : Nat} {t : TypeId} {u : Array Value} (h : W.heap[b]? = some (.cells u t (0, 0))) (hr : ∀ r, row = some r → B ≤ r ∧ ∃ o : Obj, W.heap[r]? = some o ∧ o.isCells = false) : ¬ row = some b := fun e => by
  obtain ⟨_, o, ho, hc⟩ := hr b e
  rw [h] at ho; cases ho; cases hc

theorem St.own {w W W' : World} {R p mb q n x y B : Nat} {ds : List Nat} {row : Option Nat} (h : St w W R p mb q n x y ds) (hB : w.heap.size ≤ B) (hds : ∀ D ∈ ds, D < B) (hg : W.grownBy W' row) (hr : ∀ r, row = some r → B ≤ r ∧ ∃ o : Obj, W.heap[r]? = some o ∧ o.isCells = false) : St w W' R p mb q n x y ds := by
  obtain ⟨c, hc, _⟩ := h.two.blk
  refine h.kept (kept_grown hg) (not_row h.res hr) (not_row h.box hr) (not_row h.one hr) (not_row hc hr) (fun D hD e => ?_) (fun k e => ?_)
  · have := (hr D e).1
    have := hds D hD
    omega
  · have := (hr k e).1
    omega

/- One mark more. -/
theorem St.mark {w W : World} {R p mb q n x y D : Nat} {ds : List Nat} (h : St w W R p mb q n x y ds) (hD : W.heap[D]? = some (.deferred (some []))) (hlo : w.heap.size ≤ D) (hds : ∀ E ∈ ds, E < D) : St w W R p mb q n x y (D :: ds) :=
  ⟨h.bel, h.lo, h.res, h.box, h.one, h.two, h.ok1, h.ok2, fun E hE => by
    rcases List.mem_cons.1 hE with rfl | hE
    · exact ⟨hD, hlo⟩
    · exact h.mrk E hE, List.nodup_cons.2 ⟨fun hE => by have := hds D hE; omega, h.nd⟩⟩

theorem St.dlt {w W : World} {R p mb q n x y : Nat} {ds : List Nat} (h : St w W R p mb q n x y ds) : ∀ D ∈ ds, D < W.heap.size := fun D hD => lt_of_some (h.mrk D hD).1

/- Join: another set is filled, and the document's set with it. -/
structure JS (w W : World) (R p mb q n x y N po no xo j : Nat) (ds : List Nat) (a : ActV) : Prop where
  st : St w W R p mb q n x y ds
  box : Box W N a
  o : IsSet W po no xo
  oko : SetOk no xo
  ne : p ≠ po
  lo : w.heap.size ≤ po
  fresh : ∀ i, j ≤ i → xo.testBit i = false
  rel : ∀ i, y.testBit i = (x.testBit i || (decide (i < n) && xo.testBit i))

theorem putB_fresh {no xo j : Nat} {b : Bool} (h : xo.testBit j = false) : putB no xo (j : Int) b = (decide (j < no) && b) := by
  unfold putB hasB mayB
  rw [Int.toNat_natCast, h]
  have : decide ((0 : Int) ≤ (j : Int) ∧ (j : Int) < (no : Int)) = decide (j < no) := decide_eq_decide.2 (by omega)
  rw [this]
  cases decide (j < no) <;> cases b <;> rfl

theorem JS.keptO {w W W1 : World} {R p mb q n x y N po no xo j : Nat} {ds : List Nat} {a : ActV} (h : JS w W R p mb q n x y N po no xo j ds a) (hk : Kept (fun k => k = po) W W1) : St w W1 R p mb q n x y ds ∧ Box W1 N a := by
  obtain ⟨c, hc, _⟩ := h.st.two.blk
  exact ⟨h.st.kept hk (set_ne h.o h.st.res (by decide)) (set_ne h.o h.st.box (by decide)) h.ne (set_ne h.o hc (by decide)) (fun D hD => set_mark h.o (h.st.mrk D hD).1) (fun k e => by rw [show k = po from e]; exact h.lo), h.box.kept hk (h.box.ne1 h.o)⟩

theorem JS.skip {w W W1 : World} {R p mb q n x y N po no xo j : Nat} {ds : List Nat} {a : ActV} {b : Bool} (h : JS w W R p mb q n x y N po no xo j ds a) (hd : (decide (j < no) && b) = false) (h1 : IsSet W1 po no (putV no xo (j : Int) b)) (hk : Kept (fun k => k = po) W W1) : JS w W1 R p mb q n x y N po no xo (j + 1) ds a := by
  have e : putV no xo (j : Int) b = xo := by
    unfold putV
    rw [putB_fresh (h.fresh j (Nat.le_refl _)), hd]; rfl
  rw [e] at h1
  obtain ⟨h2, h3⟩ := h.keptO hk
  exact ⟨h2, h3, h1, h.oko, h.ne, h.lo, fun i hi => h.fresh i (by omega), h.rel⟩

theorem JS.did {w W W1 W2 : World} {R p mb q n x y N po no xo j : Nat} {ds : List Nat} {a : ActV} (h : JS w W R p mb q n x y N po no xo j ds a) (hj : j < no) (h1 : IsSet W1 po no (putV no xo (j : Int) true)) (hk : Kept (fun k => k = po) W W1)
    (h2 : IsRset W2 q n (putV n y (j : Int) true)) (hk2 : Kept (fun k => k = q) W1 W2) : JS w W2 R p mb q n x (putV n y (j : Int) true) N po no (putV no xo (j : Int) true) (j + 1) ds a := by
  obtain ⟨s1, b1⟩ := h.keptO hk
  have s2 := s1.turn2 h2 (putV_ok s1.ok2 _ _) hk2
  obtain ⟨c, hc, _⟩ := s1.two.blk
  refine ⟨s2, b1.kept hk2 (b1.ne2 s1.two), h1.kept hk2 (fun e => cells_ne (show W1.heap[po]? = _ from h1) hc (by decide) e), putV_ok h.oko _ _, h.ne, h.lo, fun i hi => ?_, fun i => ?_⟩
  · rw [putV_bit, if_neg (fun e => by have := e.2; omega)]
    exact h.fresh i (by omega)
  · rw [putV_bit, putV_bit, h.rel i]
    have hm : mayB no (j : Int) = true := may_of hj
    by_cases e : i = j
    · subst e
      rw [if_pos (⟨hm, rfl⟩ : mayB no (i : Int) = true ∧ (i : Int) = (i : Int))]
      by_cases hn : i < n
      · rw [if_pos ⟨may_of hn, rfl⟩]; simp [hn]
      · have : ¬ (mayB n (i : Int) = true ∧ (i : Int) = (i : Int)) := fun e => by have := e.1; unfold mayB at this; simp at this; omega
        rw [if_neg this]; simp [hn]
    · rw [if_neg (fun q => e (by have := q.2; omega)), if_neg (fun q => e (by have := q.2; omega))]

theorem JS.end_ {w W : World} {R p mb q n x y N po no xo j : Nat} {ds : List Nat} {a : ActV} (h : JS w W R p mb q n x y N po no xo j ds a) (es : List Nat) (he : ElOf xo es) : joinL n x es = y := by
  apply Nat.eq_of_testBit_eq
  intro i
  rw [joinL_bit, h.rel i]
  by_cases hn : i < n
  · have : decide (i ∈ es) = xo.testBit i := by
      rw [he.eq]
      have hm := elemsTo_mem xo 64 i
      have h64 : i < 64 := by have := h.st.ok1.n1; omega
      cases hb : xo.testBit i with
      | true => exact decide_eq_true (hm.2 ⟨h64, hb⟩)
      | false => exact decide_eq_false (fun q => by have := (hm.1 q).2; rw [hb] at this; cases this)
    rw [this]
  · simp [hn]

/- Going over all: how many came, and the last one. -/
def lastI (pre : List Nat) : Int := match pre.getLast? with
  | some z => (z : Int)
  | none => -1

theorem lastI_snoc (pre : List Nat) (y : Nat) : lastI (pre ++ [y]) = (y : Int) := by unfold lastI; simp

theorem goes_on {n x y : Nat} {es pre : List Nat} (he : ElOf x es) (hok : SetOk n x) (h : pre ++ [y] <+: es) : ¬ ((y : Int) ≤ lastI pre) ∧ hasB n x (y : Int) = true := by
  rw [he.eq] at h
  have hm : y ∈ elems x := h.subset (by simp)
  obtain ⟨m1, m2⟩ := (elemsTo_mem x 64 y).1 hm
  constructor
  · have hp := (elemsTo_rise x 64).sublist h.sublist
    rw [List.pairwise_append] at hp
    unfold lastI
    cases q : pre.getLast? with
    | none => simp; omega
    | some z =>
      have := hp.2.2 z (List.mem_of_getLast? q) y (by simp)
      simp
      omega
  · have hy : y < n := by
      rcases Nat.lt_or_ge y n with q | q
      · exact q
      · rw [hok.hi y q] at m2; cases m2
    unfold hasB
    rw [may_of hy, Int.toNat_natCast, m2]; rfl

structure DI (w W : World) (R p mb q n x N bk ba : Nat) (ds : List Nat) (a : ActV) (kc : Nat) (la : Int) : Prop where
  st : St w W R p mb q n x x ds
  box : Box W N a
  b1 : Boxed W bk 3 (.int .i64 (kc : Int))
  b2 : Boxed W ba 3 (.int .i64 la)
  lo : w.heap.size ≤ bk ∧ w.heap.size ≤ ba ∧ bk ≠ ba

theorem DI.own {w W W' : World} {R p mb q n x N bk ba kc B : Nat} {ds : List Nat} {a : ActV} {la : Int} {row : Option Nat} (h : DI w W R p mb q n x N bk ba ds a kc la) (hB : w.heap.size ≤ B) (hds : ∀ D ∈ ds, D < B) (hg : W.grownBy W' row) (hr : ∀ r, row = some r → B ≤ r ∧ ∃ o : Obj, W.heap[r]? = some o ∧ o.isCells = false) : DI w W' R p mb q n x N bk ba ds a kc la :=
  ⟨h.st.own hB hds hg hr, h.box.kept (kept_grown hg) (not_row h.box.blk hr), boxed_grown h.b1 hg hr, boxed_grown h.b2 hg hr, h.lo⟩

/- An int's cell of its own is set. -/
theorem St.int {w W : World} {R p mb q n x y b : Nat} {ds : List Nat} {v : Value} (h : St w W R p mb q n x y ds) (hb : Boxed W b 3 v) (hlo : w.heap.size ≤ b) (u : Value) : St w (W.setCell ⟨b, 0, none⟩ u) R p mb q n x y ds := by
  obtain ⟨c, hc, _⟩ := h.two.blk
  refine h.kept (S := fun k => k = b) (Kept.setCell (S := fun k => k = b) (Kept.refl _ W) (p := ⟨b, 0, none⟩) (.inl rfl) u) (fun e => cells_ne h.res hb (by decide) e) (fun e => cells_ne h.box hb (by decide) e) (fun e => cells_ne (show W.heap[p]? = _ from h.one) hb (by decide) e) (fun e => cells_ne hc hb (by decide) e) (fun D hD e => ?_) (fun k e => by rw [show k = b from e]; exact hlo)
  have h1 := (h.mrk D hD).1
  rw [e, show W.heap[b]? = _ from hb] at h1; cases h1

theorem DI.put {w W : World} {R p mb q n x N bk ba kc : Nat} {ds : List Nat} {a : ActV} {la : Int} (h : DI w W R p mb q n x N bk ba ds a kc la) (y : Nat) :
    DI w ((W.setCell ⟨ba, 0, none⟩ (.int .i64 (y : Int))).setCell ⟨bk, 0, none⟩ (.int .i64 ((kc + 1 : Nat) : Int))) R p mb q n x N bk ba ds a (kc + 1) (y : Int) := by
  have nb : N ≠ ba := cells_ne h.box.blk h.b2 (by decide)
  have nk : N ≠ bk := cells_ne h.box.blk h.b1 (by decide)
  have s1 := h.st.int h.b2 h.lo.2.1 (.int .i64 (y : Int))
  have k1 := h.b1.other h.lo.2.2 (.int .i64 (y : Int))
  have a1 := h.b2.set (.int .i64 (y : Int))
  refine ⟨s1.int k1 h.lo.1 _, ⟨?_⟩, k1.set _, a1.other (Ne.symm h.lo.2.2) _, h.lo⟩
  rw [heap_setCell_other _ ⟨bk, 0, none⟩ N _ nk, heap_setCell_other _ ⟨ba, 0, none⟩ N _ nb]
  exact h.box.blk

theorem tab_set {W : World} {b : Nat} {v : Value} (hb : b ≠ 0) : KeepTab W (W.setCell ⟨b, 0, none⟩ v) := fun t j hj => by
  have h1 := t j hj
  exact (World.cell?_of_block (heap_setCell_other W ⟨b, 0, none⟩ 0 v (Ne.symm hb))).trans h1

theorem DI.start {w W : World} {R p mb q n x N : Nat} {ds : List Nat} {a : ActV} (h : St w W R p mb q n x x ds) (hb : Box W N a) :
    DI w ((W.alloc (.cells #[.int .i64 0] 3)).alloc (.cells #[.int .i64 (-1)] 3)) R p mb q n x N W.heap.size (W.heap.size + 1) ds a 0 (-1) := by
  have hs := h.bel.size
  refine ⟨(h.alloc _).alloc _, (hb.below ((Below.refl _ W).alloc (Nat.le_refl _) _)).below ((Below.refl _ _).alloc (Nat.le_refl _) _), (Boxed.new W _ _).alloc _, ?_, hs, by omega, by omega⟩
  have := Boxed.new (W.alloc (.cells #[.int .i64 0] 3)) 3 (.int .i64 (-1))
  rw [World.size_alloc] at this; exact this

theorem DI.alloc {w W : World} {R p mb q n x N bk ba kc : Nat} {ds : List Nat} {a : ActV} {la : Int} (h : DI w W R p mb q n x N bk ba ds a kc la) (o : Obj) : DI w (W.alloc o) R p mb q n x N bk ba ds a kc la :=
  ⟨h.st.alloc o, h.box.below ((Below.refl _ _).alloc (Nat.le_refl _) _), h.b1.alloc o, h.b2.alloc o, h.lo⟩
end Go.Proofs.YtlfecjgmmhbanaaDoor.S4
