/-
Next of a set: the least number from one on, going round.
A bucket of tokens (package bucket), and the document's own (package stackyardref): how each lies in memory, and what each call on it gives.
The document's own bucket (package stackyardref): what its calls give.
Jobs as plain data (H1 to H4): what a job wants, what is left, a step, how it is settled; a list that was walked names no file twice.
-/
import Derived.Test.YtonhoahnieoebabGreatDoorQBitsIter
import Derived.Test.YtonhoahnieoebabGreatDoorQActs4
import Derived.Deep.RegionHeld3
import Derived.Deep.DrawnRows
import Derived.Lib.Slices
namespace Go.Proofs.YtonhoahnieoebabGreatDoor.S4
open Go.RowKit Go.Shelf
attribute [local go_sem] Oper.semAt_some

/- What turns no cells leaves a box as it is. -/
theorem boxed_grown {W W' : World} {row : Option Nat} {B D : Nat} {t : TypeId} {v : Value} (h : Boxed W B t v) (hg : W.grownBy W' row) (hr : ∀ r, row = some r → D ≤ r ∧ ∃ o : Obj, W.heap[r]? = some o ∧ o.isCells = false) : Boxed W' B t v :=
  h.kept hg (fun e => by
    obtain ⟨_, o, ho, hc⟩ := hr B e.symm
    rw [show W.heap[B]? = _ from h] at ho; cases ho; cases hc)

theorem Tab.below {w W : World} {n : Nat} (h : Tab w) (hb : Below n w W) (h0 : 0 < n) : Tab W := fun j hj => (hb.cell (p := ⟨0, j, none⟩) h0).trans (h j hj)

def nextI (xs : List Nat) (from_ : Int) : Int := match xs.find? (fun k : Nat => decide (from_ ≤ (k : Int))) with
  | some k => (k : Int)
  | none => ((xs.headD 0 : Nat) : Int)
def nextB (xs : List Nat) : Bool := !xs.isEmpty

theorem nextI_hit {xs pre : List Nat} {y : Nat} {from_ : Int} (h : pre ++ [y] <+: xs) (h1 : ∀ z ∈ pre, (z : Int) < from_) (h2 : from_ ≤ (y : Int)) : nextI xs from_ = (y : Int) ∧ nextB xs = true := by
  obtain ⟨r, rfl⟩ := h
  constructor
  · have : ((pre ++ [y]) ++ r).find? (fun k : Nat => decide (from_ ≤ (k : Int))) = some y := by
      rw [List.append_assoc, List.find?_append]
      rw [List.find?_eq_none.2 (fun z hz => by simpa using h1 z hz)]
      simp [h2]
    unfold nextI; rw [this]
  · unfold nextB; cases pre <;> simp

theorem nextI_miss {xs : List Nat} {from_ : Int} (h1 : ∀ z ∈ xs, (z : Int) < from_) : nextI xs from_ = ((xs.headD 0 : Nat) : Int) := by
  unfold nextI
  rw [List.find?_eq_none.2 (fun z hz => by simpa using h1 z hz)]

/- The marks that loops over functions leave are taken up at the return. -/
theorem kept_putObj (W : World) (D : Nat) (o : Obj) : Kept (fun k => k = D) W (W.putObj D o) :=
  ⟨rfl, rfl, rfl, by simp, fun k _ hs => World.putObj_heap_other hs⟩

theorem leave_marks {P : Program} {fn : Func} {tmps : Array Value} {R : Ending → World → Prop} {n : Nat} : ∀ (ds : List Nat) (W : World), (∀ D ∈ ds, W.heap[D]? = some (.deferred (some []))) → ds.Nodup →
    (∀ W', Kept (fun k => k ∈ ds) W W' → LeavesInM Fence.wide n P fn tmps R [] .returning W') →
    LeavesInM Fence.wide n P fn tmps R (ds.map fun D => { target := .collected D, args := #[] }) .returning W
  | [], W, _, _, hfin => hfin W (Kept.refl _ W)
  | D :: ds, W, hall, hnd, hfin => by
    refine ⟨by simp, .inl ⟨D, _, rfl, run_takeDeferred (hall D (by simp)), ?_⟩⟩
    rw [List.nodup_cons] at hnd
    refine leave_marks ds _ (fun D' hD' => ?_) hnd.2 (fun W' hk => hfin W' ?_)
    · have hne : D' ≠ D := fun e => hnd.1 (by rw [← e]; exact hD')
      rw [World.putObj_heap_other hne]; exact hall D' (by simp [hD'])
    · exact ((kept_putObj W D _).mono (fun k _ e => by simp [show k = D from e])).trans (hk.mono (fun k _ e => List.mem_cons_of_mem _ e))

theorem mark_kept {W W' : World} {B D : Nat} {row : Option Nat} (h : W.heap[D]? = some (.deferred (some []))) (hD : D < B) (hg : W.grownBy W' row) (hr : ∀ r, row = some r → B ≤ r ∧ ∃ o : Obj, W.heap[r]? = some o ∧ o.isCells = false) : W'.heap[D]? = some (.deferred (some [])) :=
  (hg.block D (lt_of_some h) (fun e => by have := (hr D e.symm).1; omega)).trans h

theorem mark_set {W : World} {D b o : Nat} {v : Value} (h : W.heap[D]? = some (.deferred (some []))) (hne : D ≠ b) : (W.setCell ⟨b, o, none⟩ v).heap[D]? = some (.deferred (some [])) :=
  (heap_setCell_other W ⟨b, o, none⟩ D v hne).trans h

/- The variables of Next, each in a block of its own. -/
structure NxI (w W : World) (B : Nat) (f v : Int) (b : Bool) : Prop where
  b0 : Boxed W B 3 (.int .i64 f)
  b1 : Boxed W (B + 1) 3 (.int .i64 v)
  b2 : Boxed W (B + 1 + 1) 4 (.bool b)
  bel : Below w.heap.size w W

theorem NxI.own {w W W' : World} {B D : Nat} {f v : Int} {b : Bool} {row : Option Nat} (h : NxI w W B f v b) (hD : w.heap.size ≤ D) (hg : W.grownBy W' row) (hr : ∀ r, row = some r → D ≤ r ∧ ∃ o : Obj, W.heap[r]? = some o ∧ o.isCells = false) : NxI w W' B f v b :=
  ⟨boxed_grown h.b0 hg hr, boxed_grown h.b1 hg hr, boxed_grown h.b2 hg hr, h.bel.grown hg h.bel.size (fun k e => Nat.le_trans hD (hr k e).1)⟩

theorem NxI.alloc {w W : World} {B : Nat} {f v : Int} {b : Bool} (h : NxI w W B f v b) (o : Obj) : NxI w (W.alloc o) B f v b := ⟨h.b0.alloc o, h.b1.alloc o, h.b2.alloc o, h.bel.alloc h.bel.size o⟩

theorem NxI.put {w W : World} {B : Nat} {f v : Int} {b : Bool} (h : NxI w W B f v b) (hB : w.heap.size ≤ B) (v' : Int) (b' : Bool) : NxI w ((W.setCell ⟨B + 1, 0, none⟩ (.int .i64 v')).setCell ⟨B + 1 + 1, 0, none⟩ (.bool b')) B f v' b' :=
  ⟨(h.b0.other (by omega) _).other (by omega) _, (h.b1.set _).other (by omega) _, (h.b2.other (by omega) _).set _, (h.bel.setCell (p := ⟨B + 1, 0, none⟩) (show w.heap.size ≤ B + 1 by omega) _).setCell (p := ⟨B + 1 + 1, 0, none⟩) (show w.heap.size ≤ B + 1 + 1 by omega) _⟩

theorem NxI.kept {w W W' : World} {B : Nat} {f v : Int} {b : Bool} {S : Nat → Prop} (h : NxI w W B f v b) (hk : Kept S W W') (hS : ∀ k, S k → B + 1 + 1 < k ∧ w.heap.size ≤ k) : NxI w W' B f v b :=
  ⟨(hk.block _ h.b0.lt (fun s => by have := hS _ s; omega)).trans h.b0, (hk.block _ h.b1.lt (fun s => by have := hS _ s; omega)).trans h.b1, (hk.block _ h.b2.lt (fun s => by have := hS _ s; omega)).trans h.b2, h.bel.trans (hk.below h.bel.size (fun k s => (hS k s).2))⟩

/- At the return: what stands in the two cells is handed back. -/
theorem next_leave {w W : World} {f v v' : Int} {b b' : Bool} (tmps : Array Value) (t4 : tmps.getD 4 undef = .pointer (some ⟨w.heap.size + 1, 0, none⟩)) (t5 : tmps.getD 5 undef = .pointer (some ⟨w.heap.size + 1 + 1, 0, none⟩)) (h : NxI w W w.heap.size f v b) (ev : v' = v) (eb : b' = b) :
    LeavesInM Fence.wide 9 Tryz.prog Tryz.f192 tmps (fun e w' => e = .returned (.tuple #[.int .i64 v', .bool b']) ∧ Below w.heap.size w w') [] .returning W := by
  subst ev eb
  have c1 := h.b1.cell
  have c2 := h.b2.cell
  refine ⟨.tuple #[.int .i64 v', .bool b'], ?_, rfl, h.bel⟩
  have t4' : tmps[4]?.getD undef = .pointer (some ⟨w.heap.size + 1, 0, none⟩) := by simpa using t4
  have t5' : tmps[5]?.getD undef = .pointer (some ⟨w.heap.size + 1 + 1, 0, none⟩) := by simpa using t5
  simp [results, Tryz.f192, go_sem, c1, c2, t4', t5']

set_option maxRecDepth 100000 in
set_option maxHeartbeats 2000000 in
theorem snext_any {p n x : Nat} (xs : List Nat) (HXS : ElOf x xs) (f : Int) (w : World) (h : IsSet w p n x) (hok : SetOk n x) (hT : Tab w) :
    Calls Tryz.prog 192 #[.pointer (some ⟨p, 0, none⟩), .int .i64 f] w fun e w' => e = .returned (.tuple #[.int .i64 (nextI xs f), .bool (nextB xs)]) ∧ Below w.heap.size w w' := by
  have HS := toHid h
  have HT := toHid hT
  have hx := hok.lt
  have hw0 : 0 < w.heap.size := World.block_lt_of_cell? w _ (hT 0 (by decide))
  have HX := toHid HXS
  clear h hT hok HXS
  refine (callsIn_wide (n := 9)).1 ?_
  refine callsIn_of_wp_marks Tryz.func192 rfl trivial ?_ rfl
  simp only [Tryz.ntmps192, List.size_toArray, List.length_cons, List.length_nil, Nat.reduceAdd, Nat.reduceSub, Array.replicate_succ, Array.replicate_zero, List.push_toArray, List.append_toArray, List.nil_append, List.cons_append]
  have hs3 : (((w.alloc (.cells #[.int .i64 f] 3)).alloc (.cells #[.int .i64 0] 3)).alloc (.cells #[.bool false] 4)).heap.size = w.heap.size + 3 := by simp
  have HN3 : Hid (NxI w (((w.alloc (.cells #[.int .i64 f] 3)).alloc (.cells #[.int .i64 0] 3)).alloc (.cells #[.bool false] 4)) w.heap.size f 0 false) := by
    refine ⟨((Boxed.new w _ _).alloc _).alloc _, ?_, ?_, (((Below.refl _ w).alloc (Nat.le_refl _) _).alloc (by simp) _).alloc (by simp; omega) _⟩
    · have := (Boxed.new (w.alloc (.cells #[.int .i64 f] 3)) 3 (.int .i64 0)).alloc (.cells #[.bool false] 4)
      rw [World.size_alloc] at this; exact this
    · have := Boxed.new ((w.alloc (.cells #[.int .i64 f] 3)).alloc (.cells #[.int .i64 0] 3)) 4 (.bool false)
      rw [World.size_alloc, World.size_alloc] at this; exact this
  gi_wp2_with fail
  generalize ((w.alloc (.cells #[.int .i64 f] 3)).alloc (.cells #[.int .i64 0] 3)).alloc (.cells #[.bool false] 4) = W3 at hs3 HN3 ⊢
  refine ⟨trivial, (callsIn_wide.2 (sall_any _ (HS.out.below HN3.out.bel))).mono ?_⟩
  rintro e w' ⟨rfl, hw⟩
  subst hw
  have HN4 := toHid (HN3.out.alloc (.cells #[.int .u64 (x : Int)] 250))
  have hs4 : Hid ((W3.alloc (.cells #[.int .u64 (x : Int)] 250)).heap.size = w.heap.size + 4) := by unfold Hid; simp; omega
  have hB3 : (W3.alloc (.cells #[.int .u64 (x : Int)] 250)).cell? ⟨W3.heap.size, 0, none⟩ = some (.int .u64 (x : Int)) := (Boxed.new W3 _ _).cell
  rw [hs3] at hB3
  gi_wp2_with fail
  generalize W3.alloc (.cells #[.int .u64 (x : Int)] 250) = W4 at hs4 HN4 hB3 ⊢
  clear HN3 hs3
  refine wpIn_rangeFunc_ownG rfl (by omega) (gf := 277) (lb := #[.pointer (some ⟨w.heap.size + 3, 0, none⟩)]) rfl trivial (enters_of Tryz.func277 (by kernel_rfl) rfl)
    (all_stops 8 (w.heap.size + 3) x xs HX.out hx W4 hB3 (HT.out.below HN4.out.bel hw0)) keepTab_t (fun W l o o' _ h hc _ => keepTab_b W l o o' h hc) (Below.refl _ _) (fun _ => rfl)
    (fun pre W => (∀ z ∈ pre, ((z : Nat) : Int) < f) ∧ NxI w W w.heap.size f 0 false)
    (fun c pre W => c = .ret ∧ ∃ (pre' : List Nat) (y : Nat), pre = pre' ++ [y] ∧ (∀ z ∈ pre', ((z : Nat) : Int) < f) ∧ f ≤ (y : Int) ∧ NxI w W w.heap.size f y true)
    (fun s A B row hs hg hr => ⟨hs.1, hs.2.own (by have := hs4.out; omega) hg hr⟩)
    (fun c s A B row hs hg hr => by
      obtain ⟨h1, pre', y, h2, h3, h4, h5⟩ := hs
      exact ⟨h1, pre', y, h2, h3, h4, h5.own (by have := hs4.out; omega) hg hr⟩)
    ⟨fun _ h => (by cases h), HN4.out⟩
    (fun y => { tmps := #[.pointer (some ⟨p, 0, none⟩), .int .i64 f, undef, .pointer (some ⟨w.heap.size, 0, none⟩), .pointer (some ⟨w.heap.size + 1, 0, none⟩), .pointer (some ⟨w.heap.size + 1 + 1, 0, none⟩), .int .i64 ((y : Nat) : Int), undef, .pointer (some ⟨p, 0, none⟩), .func (.func 277) #[] #[.pointer (some ⟨w.heap.size + 3, 0, none⟩)], .int .i64 ((y : Nat) : Int), undef, undef, undef, undef, undef, undef, undef, undef], defers := [] }) ?assign ?body ?done ?stop
  case assign =>
    intro l y W K hK
    gi_wp2
    exact hK
  case body =>
    rintro l pre y W ⟨hp, hn⟩ _
    have HN := toHid hn
    have c0 := hn.b0.cell
    have c1 := hn.b1.cell
    have c2 := hn.b2.cell
    have f1 := hn.b1.frozen
    have f2 := hn.b2.frozen
    clear hn
    by_cases hf : f ≤ (y : Int)
    · have g : decide (f ≤ (y : Int)) = true := decide_eq_true hf
      gi_wp2
      exact ⟨((KeepsOthers.setCell _ _ _).trans (KeepsOthers.setCell _ _ _)).from _, rfl, pre, y, rfl, hp, hf, HN.out.put (Nat.le_refl _) _ _⟩
    · have g : decide (f ≤ (y : Int)) = false := decide_eq_false hf
      gi_wp2
      exact ⟨KeepsFrom.refl _ _, fun t => t, fun z hz => (List.mem_append.1 hz).elim (hp z) (fun e => by rw [List.mem_singleton] at e; subst e; omega), HN.out⟩
  case stop =>
    rintro D c pre W hD hpre ⟨rfl, pre', y, rfl, h1, h2, hn⟩ hK
    obtain ⟨e1, e2⟩ := nextI_hit hpre h1 h2
    gi_wp2
    refine leave_marks [D] W (fun D' h => by rw [List.mem_singleton] at h; subst h; exact hK) (by simp) (fun W' hk => next_leave _ rfl rfl (hn.kept hk (fun k h => by rw [List.mem_singleton] at h; have := hs4.out; omega)) e1 e2)
  case done =>
    rintro D ys W hD hys ⟨hp, hn⟩ hK
    subst hys
    have HM := toHid (nextI_miss hp)
    have HN5 := toHid (hn.alloc (.cells #[.int .u64 (x : Int)] 250))
    have HS5 := toHid (sall_any W (HS.out.below hn.bel))
    have hK5 : Hid ((W.alloc (.cells #[.int .u64 (x : Int)] 250)).heap[D]? = some (.deferred (some []))) := (Below.heap_alloc W _ D (lt_of_some hK)).trans hK
    have hB5 : Hid ((W.alloc (.cells #[.int .u64 (x : Int)] 250)).cell? ⟨W.heap.size, 0, none⟩ = some (.int .u64 (x : Int))) := (Boxed.new W _ _).cell
    have hD5 : Hid (w.heap.size + 4 ≤ D ∧ D < (W.alloc (.cells #[.int .u64 (x : Int)] 250)).heap.size) := ⟨by have := hs4.out; omega, by have := lt_of_some hK; simp; omega⟩
    clear hp hn hK hD hB3 HN4 hs4
    gi_wp2_with fail
    refine ⟨trivial, (callsIn_wide.2 HS5.out).mono ?_⟩
    rintro e w' ⟨rfl, hw⟩
    subst hw
    clear HS5
    gi_wp2_with fail
    generalize W.alloc (.cells #[.int .u64 (x : Int)] 250) = W5 at HN5 hK5 hB5 hD5 ⊢
    generalize W.heap.size = B5 at hB5 ⊢
    refine wpIn_rangeFunc_ownG rfl (by omega) (gf := 277) (lb := #[.pointer (some ⟨B5, 0, none⟩)]) rfl trivial (enters_of Tryz.func277 (by kernel_rfl) rfl)
      (all_stops 8 B5 x ys HX.out hx W5 hB5.out (HT.out.below HN5.out.bel hw0)) keepTab_t (fun W l o o' _ h hc _ => keepTab_b W l o o' h hc) (Below.refl _ _) (fun _ => rfl)
      (fun pre W => pre = [] ∧ W.heap[D]? = some (.deferred (some [])) ∧ NxI w W w.heap.size f 0 false)
      (fun c pre W => c = .ret ∧ W.heap[D]? = some (.deferred (some [])) ∧ ∃ (y : Nat), pre = [y] ∧ NxI w W w.heap.size f y true)
      (fun s A B row hs hg hr => ⟨hs.1, mark_kept hs.2.1 hD5.out.2 hg hr, hs.2.2.own (by have := hD5.out; omega) hg hr⟩)
      (fun c s A B row hs hg hr => by
        obtain ⟨h1, h2, y, h3, h4⟩ := hs
        exact ⟨h1, mark_kept h2 hD5.out.2 hg hr, y, h3, h4.own (by have := hD5.out; omega) hg hr⟩)
      ⟨rfl, hK5.out, HN5.out⟩
      (fun y => { tmps := #[.pointer (some ⟨p, 0, none⟩), .int .i64 f, undef, .pointer (some ⟨w.heap.size, 0, none⟩), .pointer (some ⟨w.heap.size + 1, 0, none⟩), .pointer (some ⟨w.heap.size + 1 + 1, 0, none⟩), undef, .int .i64 ((y : Nat) : Int), .pointer (some ⟨p, 0, none⟩), .func (.func 277) #[] #[.pointer (some ⟨w.heap.size + 3, 0, none⟩)], undef, undef, undef, undef, undef, .pointer (some ⟨p, 0, none⟩), .func (.func 277) #[] #[.pointer (some ⟨B5, 0, none⟩)], .int .i64 ((y : Nat) : Int), undef], defers := [] }) ?assign2 ?body2 ?done2 ?stop2
    case assign2 =>
      intro l y W K hK
      gi_wp2
      exact hK
    case body2 =>
      rintro l pre y W ⟨rfl, hk, hn⟩ _
      have HN := toHid hn
      have HK := toHid hk
      have c1 := hn.b1.cell
      have c2 := hn.b2.cell
      have f1 := hn.b1.frozen
      have f2 := hn.b2.frozen
      clear hn hk
      gi_wp2
      exact ⟨((KeepsOthers.setCell _ _ _).trans (KeepsOthers.setCell _ _ _)).from _, rfl, mark_set (mark_set HK.out (by have := hD5.out; omega)) (by have := hD5.out; omega), y, rfl, HN.out.put (Nat.le_refl _) _ _⟩
    case stop2 =>
      rintro D2 c pre W hD2 hpre ⟨rfl, hk, y, rfl, hn⟩ hK2
      have e1 : ys.headD 0 = y ∧ nextB ys = true := by
        obtain ⟨r, rfl⟩ := hpre
        exact ⟨rfl, rfl⟩
      gi_wp2
      refine leave_marks [D2, D] W (fun D' h => by
        simp at h
        rcases h with rfl | rfl
        · exact hK2
        · exact hk) (by have := hD5.out; simp; omega) (fun W' hk' => next_leave _ rfl rfl (hn.kept hk' (fun k h => by simp at h; have := hD5.out; omega)) (HM.out.trans (by rw [e1.1])) e1.2)
    case done2 =>
      rintro D2 zs W hD2 hzs ⟨h0, hk, hn⟩ hK2
      subst hzs
      subst h0
      have HN := toHid hn
      have HK := toHid hk
      have c1 := hn.b1.cell
      have c2 := hn.b2.cell
      have f1 := hn.b1.frozen
      have f2 := hn.b2.frozen
      have HK2 := toHid hK2
      clear hn hk hK2
      gi_wp2
      refine leave_marks [D2, D] _ (fun D' h => by
        simp at h
        rcases h with rfl | rfl
        · exact mark_set (mark_set HK2.out (by have := hD5.out; omega)) (by have := hD5.out; omega)
        · exact mark_set (mark_set HK.out (by have := hD5.out; omega)) (by have := hD5.out; omega)) (by have := hD5.out; simp; omega) (fun W' hk' => next_leave _ rfl rfl ((HN.out.put (Nat.le_refl _) 0 false).kept hk' (fun k h => by simp at h; have := hD5.out; omega)) HM.out rfl)
end Go.Proofs.YtonhoahnieoebabGreatDoor.S4

namespace Go.Proofs.YtonhoahnieoebabGreatDoor.S4
open Go.RowKit
attribute [local go_sem ↓] Go.wp_at_zero Go.wp_at_succ

/- A block of three numbers: rate, burst, level. -/
def Three (t : TypeId) (w : World) (p : Nat) (r b l : Int) : Prop := w.heap[p]? = some (.cells #[.int .i64 r, .int .i64 b, .int .i64 l] t (0, 0))

theorem Three.cells {t : TypeId} {w : World} {p : Nat} {r b l : Int} (h : Three t w p r b l) :
    w.cell? ⟨p, 0, none⟩ = some (.int .i64 r) ∧ w.cell? ⟨p, 1, none⟩ = some (.int .i64 b) ∧ w.cell? ⟨p, 2, none⟩ = some (.int .i64 l) ∧ w.frozen? ⟨p, 2, none⟩ = false := by
  have h' : w.heap[p]? = _ := h
  refine ⟨?_, ?_, ?_, ?_⟩ <;> simp [World.cell?, World.frozen?, h']

theorem Three.set {t : TypeId} {w : World} {p : Nat} {r b l : Int} (h : Three t w p r b l) (l' : Int) : Three t (w.setCell ⟨p, 2, none⟩ (.int .i64 l')) p r b l' := by
  unfold Three
  rw [heap_setCell_same w p 2 _ _ _ h]
  rfl

theorem Three.below {t : TypeId} {w w' : World} {p : Nat} {r b l : Int} (h : Three t w p r b l) (hb : Below w.heap.size w w') : Three t w' p r b l :=
  (hb.block p (lt_of_some h)).trans h

theorem new_block (w : World) (o : Obj) : (w.alloc o).heap[w.heap.size]? = some o := by
  show (w.heap.push o)[w.heap.size]? = some o
  simp

def inB (n most : Int) : Bool := decide (0 ≤ n ∧ n ≤ most)

set_option maxRecDepth 100000 in
set_option maxHeartbeats 400000 in
theorem within_any (n most : Int) (w : World) : Calls Tryz.prog 197 #[.int .i64 n, .int .i64 most] w fun e w' => e = .returned (.bool (inB n most)) ∧ w' = w := by
  by_cases h0 : 0 ≤ n
  · have g0 : decide (0 ≤ n) = true := decide_eq_true h0
    have HF : Hid (decide (n ≤ most) = inB n most) := by unfold Hid inB; simp [h0]
    go_enter Tryz.func197, Tryz.ntmps197
    go_wp2
    go_ret
    exact ⟨ret_lb HF.out, rfl⟩
  · have g0 : decide (0 ≤ n) = false := decide_eq_false h0
    have HF : Hid (false = inB n most) := by unfold Hid inB; simp [h0]
    go_enter Tryz.func197, Tryz.ntmps197
    go_wp2
    go_ret
    exact ⟨ret_lb HF.out, rfl⟩

set_option maxRecDepth 100000 in
set_option maxHeartbeats 400000 in
theorem bnew_bad (r b : Int) (w : World) (h : (inB r 1000 && inB b 1000) = false) :
    Calls Tryz.prog 83 #[.int .i64 r, .int .i64 b] w fun e w' => e = .returned (.tuple #[.pointer none, .iface 127 (.int .i64 1)]) ∧ w' = w := by
  have h1 := within_any r 1000 w
  have h2 := within_any b 1000 w
  cases e1 : inB r 1000 with
  | false =>
    rw [e1] at h1
    go_enter Tryz.func83, Tryz.ntmps83
    go_wp2_with fail
    refine h1.mono ?_
    rintro e w' ⟨rfl, hw⟩
    have hw' := hw.symm
    subst hw'
    clear hw
    go_wp2
    go_ret2
    exact ⟨rfl, rfl⟩
  | true =>
    have e2 : inB b 1000 = false := by simpa [e1] using h
    rw [e1] at h1
    rw [e2] at h2
    go_enter Tryz.func83, Tryz.ntmps83
    go_wp2_with fail
    refine h1.mono ?_
    rintro e w' ⟨rfl, hw⟩
    have hw' := hw.symm
    subst hw'
    clear hw
    go_wp2_with fail
    refine h2.mono ?_
    rintro e w' ⟨rfl, hw⟩
    have hw' := hw.symm
    subst hw'
    clear hw
    go_wp2
    go_ret2
    exact ⟨rfl, rfl⟩

set_option maxRecDepth 100000 in
set_option maxHeartbeats 400000 in
theorem bnew_good (r b : Int) (w : World) (e1 : inB r 1000 = true) (e2 : inB b 1000 = true) :
    Calls Tryz.prog 83 #[.int .i64 r, .int .i64 b] w fun e w' => e = .returned (.tuple #[.pointer (some ⟨w.heap.size, 0, none⟩), .nilIface]) ∧ Three 245 w' w.heap.size r b b ∧ Below w.heap.size w w' := by
  have h1 := within_any r 1000 w
  have h2 := within_any b 1000 w
  rw [e1] at h1
  rw [e2] at h2
  go_enter Tryz.func83, Tryz.ntmps83
  go_wp2_with fail
  refine h1.mono ?_
  rintro e w' ⟨rfl, hw⟩
  have hw' := hw.symm
  subst hw'
  clear hw
  go_wp2_with fail
  refine h2.mono ?_
  rintro e w' ⟨rfl, hw⟩
  have hw' := hw.symm
  subst hw'
  clear hw h1 h2
  go_wp2
  go_ret2
  exact ⟨rfl, new_block w _, (Below.refl _ w).alloc (Nat.le_refl _) _⟩

set_option maxRecDepth 100000 in
set_option maxHeartbeats 400000 in
theorem tick_bad {p : Nat} (n : Int) (w : World) (h : inB n 100000 = false) :
    Calls Tryz.prog 205 #[.pointer (some ⟨p, 0, none⟩), .int .i64 n] w fun e w' => e = .returned (.iface 127 (.int .i64 1)) ∧ w' = w := by
  have h1 := within_any n 100000 w
  rw [h] at h1
  go_enter Tryz.func205, Tryz.ntmps205
  go_wp2_with fail
  refine h1.mono ?_
  rintro e w' ⟨rfl, hw⟩
  have hw' := hw.symm
  subst hw'
  clear hw
  go_wp2
  go_ret
  exact ⟨rfl, rfl⟩

def tickV (r b l n : Int) : Int := if b < l + n * r then b else l + n * r

theorem Three.drew {t : TypeId} {w : World} {p : Nat} {r b l : Int} (h : Three t w p r b l) : Three t w.drew p r b l := h

set_option maxRecDepth 100000 in
set_option maxHeartbeats 400000 in
theorem tick_good {p : Nat} {r b l : Int} (n : Int) (w : World) (h : Three 245 w p r b l) (hn : inB n 100000 = true) (hr : 0 ≤ r ∧ r ≤ 1000) (hl : 0 ≤ l ∧ l ≤ 1000) :
    Calls Tryz.prog 205 #[.pointer (some ⟨p, 0, none⟩), .int .i64 n] w fun e w' => e = .returned .nilIface ∧ Three 245 w' p r b (tickV r b l n) ∧ Kept (fun k => k = p) w w' := by
  have HH : Hid (Three 245 w p r b l) := h
  obtain ⟨c0, c1, c2, fz⟩ := h.cells
  clear h
  have h1 := within_any n 100000 w
  rw [hn] at h1
  have hn' : 0 ≤ n ∧ n ≤ 100000 := by unfold inB at hn; simpa using hn
  have e1 : IntKind.i64.wrap (n * r) = n * r := by
    have : 0 ≤ n * r := Int.mul_nonneg hn'.1 hr.1
    have : n * r ≤ 100000 * 1000 := Int.mul_le_mul hn'.2 hr.2 hr.1 (by omega)
    exact IntWalk.i64_in _ (by omega)
  have e2 : IntKind.i64.wrap (l + n * r) = l + n * r := by
    have : 0 ≤ n * r := Int.mul_nonneg hn'.1 hr.1
    have : n * r ≤ 100000 * 1000 := Int.mul_le_mul hn'.2 hr.2 hr.1 (by omega)
    exact IntWalk.i64_in _ (by omega)
  by_cases hb : b < l + n * r
  · have HV : Hid (tickV r b l n = b) := by unfold Hid tickV; rw [if_pos hb]
    go_enter Tryz.func205, Tryz.ntmps205
    go_wp2_with fail
    refine h1.mono ?_
    rintro e w' ⟨rfl, hw⟩
    have hw' := hw.symm
    subst hw'
    clear hw
    go_wp2_with fail
    go_region
    go_wp2
    go_ret
    exact ⟨rfl, by rw [HV.out]; first | exact (HH.out.set _).drew | (rw [show min (l + n * r) b = b by omega]; exact (HH.out.set _).drew), (Kept.setCell (S := fun k => k = p) (Kept.refl _ w) (p := ⟨p, 2, none⟩) (.inl rfl) _).drew⟩
  · have HV : Hid (tickV r b l n = l + n * r) := by unfold Hid tickV; rw [if_neg hb]
    go_enter Tryz.func205, Tryz.ntmps205
    go_wp2_with fail
    refine h1.mono ?_
    rintro e w' ⟨rfl, hw⟩
    have hw' := hw.symm
    subst hw'
    clear hw
    go_wp2_with fail
    go_region
    go_wp2
    go_ret
    exact ⟨rfl, by rw [HV.out]; first | exact (HH.out.set _).drew | (rw [show min (l + n * r) b = l + n * r by omega]; exact (HH.out.set _).drew), (Kept.setCell (S := fun k => k = p) (Kept.refl _ w) (p := ⟨p, 2, none⟩) (.inl rfl) _).drew⟩

def takeV (l n : Int) : Int := if inB n l then l - n else l

set_option maxRecDepth 100000 in
set_option maxHeartbeats 400000 in
theorem btake_any {p : Nat} {r b l : Int} (n : Int) (w : World) (h : Three 245 w p r b l) (hl : 0 ≤ l ∧ l ≤ 1000) :
    Calls Tryz.prog 193 #[.pointer (some ⟨p, 0, none⟩), .int .i64 n] w fun e w' => e = .returned (.bool (inB n l)) ∧ Three 245 w' p r b (takeV l n) ∧ Kept (fun k => k = p) w w' := by
  have HH : Hid (Three 245 w p r b l) := h
  obtain ⟨c0, c1, c2, fz⟩ := h.cells
  clear h
  have h1 := within_any n l w
  cases hn : inB n l with
  | false =>
    rw [hn] at h1
    have HV : Hid (takeV l n = l) := by unfold Hid takeV; simp [hn]
    go_enter Tryz.func193, Tryz.ntmps193
    go_wp2_with fail
    refine h1.mono ?_
    rintro e w' ⟨rfl, hw⟩
    have hw' := hw.symm
    subst hw'
    clear hw
    go_wp2
    go_ret
    exact ⟨rfl, by rw [HV.out]; exact HH.out, Kept.refl _ w⟩
  | true =>
    rw [hn] at h1
    have hn' : 0 ≤ n ∧ n ≤ l := by unfold inB at hn; simpa using hn
    have HV : Hid (takeV l n = l - n) := by unfold Hid takeV; simp [hn]
    have e2 : IntKind.i64.wrap (l - n) = l - n := IntWalk.i64_in _ (by omega)
    go_enter Tryz.func193, Tryz.ntmps193
    go_wp2_with fail
    refine h1.mono ?_
    rintro e w' ⟨rfl, hw⟩
    have hw' := hw.symm
    subst hw'
    clear hw
    go_wp2
    go_ret
    exact ⟨rfl, by rw [HV.out]; exact HH.out.set _, Kept.setCell (S := fun k => k = p) (Kept.refl _ w) (p := ⟨p, 2, none⟩) (.inl rfl) _⟩
end Go.Proofs.YtonhoahnieoebabGreatDoor.S4

namespace Go.Proofs.YtonhoahnieoebabGreatDoor.S4
open Go.RowKit
attribute [local go_sem ↓] Go.wp_at_zero Go.wp_at_succ

theorem tickV_in {r b l n : Int} (hr : 0 ≤ r) (hl : 0 ≤ l) (hb : 0 ≤ b) (hn : 0 ≤ n) : 0 ≤ tickV r b l n ∧ tickV r b l n ≤ b := by
  have h0 : 0 ≤ n * r := Int.mul_nonneg hn hr
  unfold tickV
  split <;> omega

end Go.Proofs.YtonhoahnieoebabGreatDoor.S4

namespace Go.Proofs.YtonhoahnieoebabGreatDoor
open Go.RowKit

/- A job: its desk, its list, how deep its file lies in it, what is left, the last one moved, its stage (Ready stands as Running), its bucket's level. -/
structure JV where
  rt : Int
  kind : Int
  file : Int
  rate : Int
  burst : Int
  l : List Int
  deep : Nat
  n : Nat
  x : Nat
  last : Int
  stage : Int
  lv : Int

def JV.above (j : JV) : List Int := j.l.take j.deep
def JV.wantB (j : JV) (s : SV) (c : Int) : Bool := if j.kind = 1 then true else if j.kind = 2 then decide (0 < s.found j.above c) else decide (0 ≤ s.found j.above c)
def JV.state (j : JV) : Int := if j.stage = 1 ∧ S4.cnt j.x 64 = 0 then 3 else j.stage
def JV.into (j : JV) : Int := if j.kind = 2 then j.l.headD 0 else j.file
def JV.some (j : JV) : Bool := S4.nextB (S4.elems j.x)
def JV.pick (j : JV) : Int := S4.nextI (S4.elems j.x) (j.last + 1)
def JV.took (j : JV) : JV := { j with lv := j.lv - 4 }
def JV.went (j : JV) (c : Int) : JV := { j with x := S4.putV j.n j.x c false, last := c, lv := j.lv - 4 }
def JV.put (j : JV) (x : Nat) : JV := { j with x := x }
def JV.at (j : JV) (st : Int) : JV := { j with stage := st }
def JV.fell (j : JV) : JV := { j with stage := 5, lv := j.lv - 4 }

/- What a cluster's move into the job's file gives. -/
def JV.moved (j : JV) (s : SV) (c : Int) : SV × Int := s.move j.into c (s.read j.l c).1

def stepS (s : SV) (j : JV) : SV := if j.stage = 1 ∧ j.some = true ∧ S4.inB 4 j.lv = true ∧ j.wantB s j.pick = true then (j.moved s j.pick).1 else s
def stepJ (s : SV) (j : JV) : JV := if j.stage = 1 ∧ j.some = true ∧ S4.inB 4 j.lv = true then (if j.wantB s j.pick = true ∧ (j.moved s j.pick).2 ≠ 0 then j.fell else j.went j.pick) else j
def stepB (s : SV) (j : JV) : Bool := decide (j.stage = 1 ∧ j.some = true ∧ S4.inB 4 j.lv = true ∧ ¬ (j.wantB s j.pick = true ∧ (j.moved s j.pick).2 ≠ 0))
def stepF (s : SV) (j : JV) : Int := if j.stage = 1 then (if j.some = true ∧ S4.inB 4 j.lv = true ∧ j.wantB s j.pick = true then (j.moved s j.pick).2 else 0) else 9

/- Files are flushed, one after the other. -/
def SV.flush1 (s : SV) (n : Int) : SV := match s.file n with
  | none => s
  | some v => s.upd n.toNat v.flush
def SV.flushL (s : SV) (l : List Int) : SV := l.foldl SV.flush1 s
theorem SV.flushL_snoc (s : SV) (l : List Int) (n : Int) : s.flushL (l ++ [n]) = (s.flushL l).flush1 n := by
  unfold SV.flushL; rw [List.foldl_append]; rfl

def linkS (s : SV) (n back : Int) : SV × Int := match s.file n with
  | none => (s, 4)
  | some v => (s.upd n.toNat (v.link back), v.linkF back)
def settleS (s : SV) (j : JV) : SV := if j.state = 3 then (if j.kind = 2 then (linkS s (j.l.headD 0) j.file).1 else s.flushL (s.walk j.file).1) else s
def settleF (s : SV) (j : JV) : Int := if j.state = 3 then (if j.kind = 2 then (linkS s (j.l.headD 0) j.file).2 else (s.walk j.file).2) else 9
def settleJ (s : SV) (j : JV) : JV := if j.state = 3 ∧ j.kind = 2 ∧ (linkS s (j.l.headD 0) j.file).2 ≠ 0 then j.at 5 else j

def pauseJ (j : JV) (on : Bool) : JV := if on = true then (if j.stage = 1 then j.at 2 else j) else (if j.stage = 2 then j.at 1 else j)
def pauseF (j : JV) (on : Bool) : Int := if on = true then (if j.stage = 1 then 0 else 9) else (if j.stage = 2 then 0 else 9)
def dirtyJ (j : JV) (c : Int) : JV := if j.kind = 2 ∨ 4 ≤ j.stage then j else j.put (S4.putV j.n j.x c true)
def tickJ (j : JV) (n : Int) : JV := if S4.inB n 100000 = true then { j with lv := S4.tickV j.rate j.burst j.lv n } else j
def endJ (j : JV) (well : Bool) : JV := j.at (if well = true then 4 else 5)

/- What is always so of a job over a shelf. -/
structure JOk (s : SV) (C : Nat) (j : JV) : Prop where
  good : s.good (C : Int) j.l
  ne : j.l ≠ []
  len : j.l.length ≤ 5
  n : j.n = C
  c40 : C ≤ 40
  set : S4.SetOk j.n j.x
  kind : j.kind = 1 ∨ j.kind = 2 ∨ j.kind = 3
  file : j.kind ≠ 2 → ∃ v, s.file j.file = some v
  deep : j.deep ≤ j.l.length
  idx : j.kind ≠ 1 → (Lib.idxOf j.l j.file = (j.deep : Int) ∧ j.deep < j.l.length) ∨ (Lib.idxOf j.l j.file = -1 ∧ j.deep = j.l.length)
  stage : j.stage = 1 ∨ j.stage = 2 ∨ j.stage = 4 ∨ j.stage = 5
  last : -1 ≤ j.last ∧ j.last < 64
  rate : 0 ≤ j.rate ∧ j.rate ≤ 1000
  lv : 0 ≤ j.lv ∧ j.lv ≤ j.burst ∧ j.burst ≤ 1000

theorem nextI_mem {x : Nat} {f : Int} (h : S4.nextB (S4.elems x) = true) : ∃ k : Nat, S4.nextI (S4.elems x) f = (k : Int) ∧ k ∈ S4.elems x := by
  unfold S4.nextI
  split
  · next k hk => exact ⟨k, rfl, List.mem_of_find?_eq_some hk⟩
  · cases hx : S4.elems x with
    | nil => rw [hx] at h; cases h
    | cons y r => exact ⟨y, rfl, List.mem_cons_self⟩

/- A picked cluster is one that there is. -/
theorem JOk.pick {s : SV} {C : Nat} {j : JV} (h : JOk s C j) (hs : j.some = true) : ∃ k : Nat, j.pick = (k : Int) ∧ k < C ∧ k < 64 := by
  obtain ⟨k, h1, h2⟩ := nextI_mem (f := j.last + 1) hs
  obtain ⟨h3, h4⟩ := (S4.elemsTo_mem j.x 64 k).1 h2
  refine ⟨k, h1, ?_, h3⟩
  have hn := h.n
  by_cases hk : k < j.n
  · omega
  · rw [h.set.hi k (by omega)] at h4; cases h4

theorem JOk.root {s : SV} {C : Nat} {j : JV} (h : JOk s C j) : ∃ (n : Int) (r : List Int) (v : IV), j.l = n :: r ∧ s.file n = some v ∧ v.h.c = C := by
  cases hl : j.l with
  | nil => exact absurd hl h.ne
  | cons n r =>
    obtain ⟨v, h1, h2⟩ := h.good n (by rw [hl]; exact List.mem_cons_self)
    exact ⟨n, r, v, rfl, h1, h2⟩

theorem JOk.into {s : SV} {C : Nat} {j : JV} (h : JOk s C j) : ∃ v, s.file j.into = some v := by
  unfold JV.into
  by_cases hk : j.kind = 2
  · rw [if_pos hk]
    obtain ⟨n, r, v, h1, h2, _⟩ := h.root
    rw [h1]; exact ⟨v, h2⟩
  · rw [if_neg hk]; exact h.file hk

theorem JOk.read {s : SV} {C m : Nat} {j : JV} (h : JOk s C j) (hok : s.ok m) {k : Nat} (hk : k < C) : (s.read j.l (k : Int)).2 = 0 ∧ (s.read j.l (k : Int)).1.size = 64 :=
  SV.read_yes h.good hok h.ne ⟨by omega, by omega⟩

/- What another shelf must have for a job to go on over it. -/
structure SV.alike (s z : SV) : Prop where
  head : ∀ n v, s.file n = some v → ∃ u, z.file n = some u ∧ u.h.c = v.h.c

theorem SV.alike.refl (s : SV) : s.alike s := ⟨fun _ v h => ⟨v, h, rfl⟩⟩
theorem SV.alike.trans {a b c : SV} (h : a.alike b) (k : b.alike c) : a.alike c := ⟨fun n v hv => by
  obtain ⟨u, h1, h2⟩ := h.head n v hv
  obtain ⟨t, h3, h4⟩ := k.head n u h1
  exact ⟨t, h3, h4.trans h2⟩⟩
theorem SV.alike.upd {s : SV} {n : Int} {v u : IV} (hf : s.file n = some v) (hc : u.h.c = v.h.c) : s.alike (s.upd n.toNat u) := ⟨fun k t ht => by
  rw [SV.file_upd hf]
  by_cases e : k = n
  · rw [if_pos e]
    rw [e, hf] at ht
    cases ht
    exact ⟨u, rfl, hc⟩
  · rw [if_neg e]; exact ⟨t, ht, rfl⟩⟩

theorem IV.link_c (v : IV) (b : Int) : (v.link b).h.c = v.h.c := by
  unfold IV.link
  split
  · unfold IV.headV
    split <;> rfl
  · rfl

theorem SV.alike.move (s : SV) (n c : Int) (t : ByteArray) : s.alike (s.move n c t).1 := by
  unfold SV.move
  split
  · exact .refl s
  · next v hf =>
    split
    · exact .upd hf (by rw [IV.clear_h])
    · split
      · exact .upd hf (by rw [IV.write_h])
      · exact .upd hf (by rw [IV.fill_h])
theorem SV.alike.link (s : SV) (n b : Int) : s.alike (linkS s n b).1 := by
  unfold linkS
  split
  · exact .refl s
  · next v hf => exact .upd hf (IV.link_c v b)
theorem SV.alike.flush1 (s : SV) (n : Int) : s.alike (s.flush1 n) := by
  unfold SV.flush1
  split
  · exact .refl s
  · next v hf => exact .upd hf rfl
theorem SV.alike.flushL (l : List Int) : ∀ s : SV, s.alike (s.flushL l) := by
  induction l with
  | nil => intro s; exact .refl s
  | cons n r ih => intro s; exact (SV.alike.flush1 s n).trans (ih _)

theorem JOk.over {s z : SV} {C : Nat} {j : JV} (h : JOk s C j) (ha : s.alike z) : JOk z C j :=
  { h with
    good := fun n hn => by
      obtain ⟨v, h1, h2⟩ := h.good n hn
      obtain ⟨u, h3, h4⟩ := ha.head n v h1
      exact ⟨u, h3, h4.trans h2⟩
    file := fun hk => by
      obtain ⟨v, h1⟩ := h.file hk
      obtain ⟨u, h3, _⟩ := ha.head _ v h1
      exact ⟨u, h3⟩ }

theorem JOk.at {s : SV} {C : Nat} {j : JV} (h : JOk s C j) {st : Int} (hs : st = 1 ∨ st = 2 ∨ st = 4 ∨ st = 5) : JOk s C (j.at st) := { h with stage := hs }
theorem JOk.put {s : SV} {C : Nat} {j : JV} (h : JOk s C j) (c : Int) (b : Bool) : JOk s C (j.put (S4.putV j.n j.x c b)) := { h with set := S4.putV_ok h.set c b }
theorem JOk.went {s : SV} {C : Nat} {j : JV} (h : JOk s C j) (hl : S4.inB 4 j.lv = true) {k : Nat} (hk : k < 64) : JOk s C (j.went (k : Int)) := by
  have h4 : 4 ≤ j.lv := by unfold S4.inB at hl; simp at hl; omega
  exact { h with set := S4.putV_ok h.set _ _, last := ⟨by show -1 ≤ (k : Int); omega, by show (k : Int) < 64; omega⟩, lv := ⟨by show 0 ≤ j.lv - 4; omega, by show j.lv - 4 ≤ j.burst; have := h.lv; omega, h.lv.2.2⟩ }
theorem JOk.fell {s : SV} {C : Nat} {j : JV} (h : JOk s C j) (hl : S4.inB 4 j.lv = true) : JOk s C j.fell := by
  have h4 : 4 ≤ j.lv := by unfold S4.inB at hl; simp at hl; omega
  exact { h with stage := .inr (.inr (.inr rfl)), lv := ⟨by show 0 ≤ j.lv - 4; omega, by show j.lv - 4 ≤ j.burst; have := h.lv; omega, h.lv.2.2⟩ }

theorem JOk.step {s : SV} {C : Nat} {j : JV} (h : JOk s C j) : JOk (stepS s j) C (stepJ s j) := by
  have ha : s.alike (stepS s j) := by
    unfold stepS
    split
    · exact .move s _ _ _
    · exact .refl s
  have hj : JOk s C (stepJ s j) := by
    unfold stepJ
    split
    · next hx =>
      obtain ⟨k, h1, _, h3⟩ := h.pick hx.2.1
      split
      · exact h.fell hx.2.2
      · rw [h1]; exact h.went hx.2.2 h3
    · exact h
  exact hj.over ha

theorem JOk.settle {s : SV} {C : Nat} {j : JV} (h : JOk s C j) : JOk (settleS s j) C (settleJ s j) := by
  have ha : s.alike (settleS s j) := by
    unfold settleS
    split
    · split
      · exact .link s _ _
      · exact .flushL _ s
    · exact .refl s
  have hj : JOk s C (settleJ s j) := by
    unfold settleJ
    split
    · exact h.at (.inr (.inr (.inr rfl)))
    · exact h
  exact hj.over ha

theorem JOk.pause {s : SV} {C : Nat} {j : JV} (h : JOk s C j) (on : Bool) : JOk s C (pauseJ j on) := by
  unfold pauseJ
  split
  · split
    · exact h.at (.inr (.inl rfl))
    · exact h
  · split
    · exact h.at (.inl rfl)
    · exact h
theorem JOk.dirty {s : SV} {C : Nat} {j : JV} (h : JOk s C j) (c : Int) : JOk s C (dirtyJ j c) := by
  unfold dirtyJ
  split
  · exact h
  · exact h.put c true
theorem JOk.tick {s : SV} {C : Nat} {j : JV} (h : JOk s C j) (n : Int) : JOk s C (tickJ j n) := by
  unfold tickJ
  split
  · next hx =>
    have hn : 0 ≤ n := by unfold S4.inB at hx; simp at hx; omega
    have := S4.tickV_in (r := j.rate) (b := j.burst) (l := j.lv) (n := n) h.rate.1 h.lv.1 (by have := h.lv; omega) hn
    exact { h with lv := ⟨this.1, this.2, h.lv.2.2⟩ }
  · exact h
/- A list that was walked: each file's Back is the next, the last one's is none. -/
def Linked (s : SV) : Int → List Int → Prop
  | n, [] => n = -1
  | n, k :: r => n = k ∧ n ≠ -1 ∧ ∃ v, s.file n = some v ∧ Linked s v.h.b r

theorem Linked.only {s : SV} : ∀ (a b : List Int) (n : Int), Linked s n a → Linked s n b → a = b := by
  intro a
  induction a with
  | nil =>
    intro b n ha hb
    cases b with
    | nil => rfl
    | cons k r => exact absurd ha hb.2.1
  | cons k r ih =>
    intro b n ha hb
    cases b with
    | nil => exact absurd hb ha.2.1
    | cons k' r' =>
      obtain ⟨h1, _, v, h2, h3⟩ := ha
      obtain ⟨h4, _, v', h5, h6⟩ := hb
      rw [h2] at h5
      cases h5
      rw [← h1, ← h4, ih r' _ h3 h6]

theorem Linked.part {s : SV} : ∀ (p q : List Int) (k n : Int), Linked s n (p ++ k :: q) → Linked s k (k :: q) := by
  intro p
  induction p with
  | nil => intro q k n h; have := h.1; rw [this] at h; exact h
  | cons a r ih => intro q k n h; obtain ⟨_, _, v, _, h3⟩ := h; exact ih q k _ h3

theorem Linked.nodup {s : SV} : ∀ (a : List Int) (n : Int), Linked s n a → a.Nodup := by
  intro a
  induction a with
  | nil => intro n _; exact List.nodup_nil
  | cons k r ih =>
    intro n h
    have h0 := h
    obtain ⟨h1, _, v, h2, h3⟩ := h
    refine List.nodup_cons.2 ⟨fun hm => ?_, ih _ h3⟩
    obtain ⟨p, q, hpq⟩ := List.append_of_mem hm
    have h4 := Linked.part (k :: p) q k n (by rw [hpq] at h0; exact h0)
    rw [h1] at h0
    have h5 := Linked.only _ _ _ h0 h4
    rw [hpq] at h5
    have := congrArg List.length h5
    simp at this
    omega

theorem SV.walkGo_linked {s : SV} {rc : Int} : ∀ (k : Nat) (l : List Int) (n : Int), (s.walkGo rc k l n).2 = 0 → ∃ r, (s.walkGo rc k l n).1 = l ++ r ∧ Linked s n r := by
  intro k
  induction k with
  | zero => intro l n h; exact absurd h (by show ¬ (10 : Int) = 0; decide)
  | succ k ih =>
    intro l n h
    by_cases hn : n = -1
    · subst hn; rw [SV.walk_end]; exact ⟨[], by simp, rfl⟩
    · cases hf : s.file n with
      | none => rw [SV.walk_none hn hf] at h; exact absurd h (by decide)
      | some v =>
        by_cases h5 : l.length = 5
        · rw [SV.walk_long hn hf h5] at h; exact absurd h (by decide)
        · by_cases hc : v.h.c = rc
          · rw [SV.walk_on hn hf h5 hc] at h ⊢
            obtain ⟨r, h1, h2⟩ := ih _ _ h
            exact ⟨n :: r, by rw [h1, List.append_assoc]; rfl, rfl, hn, v, hf, h2⟩
          · rw [SV.walk_other hn hf h5 hc] at h; exact absurd h (by decide)

theorem SV.walk_linked {s : SV} {root : Int} (h : (s.walk root).2 = 0) : Linked s root (s.walk root).1 := by
  obtain ⟨r, h1, h2⟩ := SV.walkGo_linked 6 [] root h
  have : (s.walk root).1 = r := h1
  rw [this]; exact h2
theorem SV.walk_head {s : SV} {root : Int} (h : (s.walk root).2 = 0) (hl : (s.walk root).1 ≠ []) : ∃ r, (s.walk root).1 = root :: r := by
  have h1 := SV.walk_linked h
  cases hw : (s.walk root).1 with
  | nil => exact absurd hw hl
  | cons k r => rw [hw] at h1; exact ⟨r, by rw [h1.1]⟩
end Go.Proofs.YtonhoahnieoebabGreatDoor
