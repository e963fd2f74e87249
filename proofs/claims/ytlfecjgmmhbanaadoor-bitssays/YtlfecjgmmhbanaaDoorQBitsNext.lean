/-
Next of a set: the least number from one on, going round.
-/
import Derived.Test.YtlfecjgmmhbanaaDoorQBitsIter
namespace Go.Proofs.YtlfecjgmmhbanaaDoor.S4
open Go.RowKit Go.Shelf
attribute [local go_sem] Oper.semAt_some

/- What turns no cells leaves a box as it is. -/
theorem boxed_grown {W W' : World} {row : Option Nat} {B D : Nat} {t : TypeId} {v : Value} (h : Boxed W B t v) (hg : W.grownBy W' row) (hr : ∀ r, row = some r → D ≤ r ∧ ∃ o : Obj, W.heap[r]? = some o ∧ o.isCells = false) : Boxed W' B t v :=
  h.kept hg (fun e => by
    obtain ⟨_, o, ho, hc⟩ := hr B e.symm
    rw [show W.heap[B]? = _ from h] at ho; cases ho; cases hc)

theorem Tab.below {w W : World} {n : Nat} (h : Tab w) (hb : Below n w W) (h0 : 0 < n) : Tab W := fun j hj => (hb.cell (p := ⟨0, j, none⟩) h0).trans (h j hj)

def nextI (xs : List Nat) (from_ : Int) : Int := match xs.find? (fun k : Nat => decide (from_ ≤ (k : Int))) with
  | some k => (k : Int)
  | none => ((xs.headD 0 : Nat) : Int)
def nextB (xs : List Nat) : Bool := !xs.isEmpty

theorem nextI_hit {xs pre : List Nat} {y : Nat} {from_ : Int} (h : pre ++ [y] <+: xs) (h1 : ∀ z ∈ pre, (z : Int) < from_) (h2 : from_ ≤ (y : Int)) : nextI xs from_ = (y : Int) ∧ nextB xs = true := by
  obtain ⟨r, rfl⟩ := h
  constructor
  · have : ((pre ++ [y]) ++ r).find? (fun k : Nat => decide (from_ ≤ (k : Int))) = some y := by
      rw [List.append_assoc, List.find?_append]
      rw [List.find?_eq_none.2 (fun z hz => by simpa using h1 z hz)]
      simp [h2]
    unfold nextI; rw [this]
  · unfold nextB; cases pre <;> simp

theorem nextI_miss {xs : List Nat} {from_ : Int} (h1 : ∀ z ∈ xs, (z : Int) < from_) : nextI xs from_ = ((xs.headD 0 : Nat) : Int) := by
  unfold nextI
  rw [List.find?_eq_none.2 (fun z hz => by simpa using h1 z hz)]

/- The marks that loops over functions leave are taken up at the return. -/
theorem kept_putObj (W : World) (D : Nat) (o : Obj) : Kept (fun k => k = D) W (W.putObj D o) :=
  ⟨rfl, rfl, rfl, by simp, fun k _ hs => World.putObj_heap_other hs⟩

theorem leave_marks {P : Program} {fn : Func} {tmps : Array Value} {R : Ending → World → Prop} {n : Nat} : ∀ (ds : List Nat) (W : World), (∀ D ∈ ds, W.heap[D]? = some (.deferred (some []))) → ds.Nodup →
    (∀ W', Kept (fun k => k ∈ ds) W W' → LeavesInM Fence.wide n P fn tmps R [] .returning W') →
    LeavesInM Fence.wide n P fn tmps R (ds.map fun D => { target := .collected D, args := #[] }) .returning W
  | [], W, _, _, hfin => hfin W (Kept.refl _ W)
  | D :: ds, W, hall, hnd, hfin => by
    refine ⟨by simp, .inl ⟨D, _, rfl, run_takeDeferred (hall D (by simp)), ?_⟩⟩
    rw [List.nodup_cons] at hnd
    refine leave_marks ds _ (fun D' hD' => ?_) hnd.2 (fun W' hk => hfin W' ?_)
    · have hne : D' ≠ D := fun e => hnd.1 (by rw [← e]; exact hD')
      rw [World.putObj_heap_other hne]; exact hall D' (by simp [hD'])
    · exact ((kept_putObj W D _).mono (fun k _ e => by simp [show k = D from e])).trans (hk.mono (fun k _ e => List.mem_cons_of_mem _ e))

theorem mark_kept {W W' : World} {B D : Nat} {row : Option Nat} (h : W.heap[D]? = some (.deferred (some []))) (hD : D < B) (hg : W.grownBy W' row) (hr : ∀ r, row = some r → B ≤ r ∧ ∃ o : Obj, W.heap[r]? = some o ∧ o.isCells = false) : W'.heap[D]? = some (.deferred (some [])) :=
  (hg.block D (lt_of_some h) (fun e => by have := (hr D e.symm).1; omega)).trans h

theorem mark_set {W : World} {D b o : Nat} {v : Value} (h : W.heap[D]? = some (.deferred (some []))) (hne : D ≠ b) : (W.setCell ⟨b, o, none⟩ v).heap[D]? = some (.deferred (some [])) :=
  (heap_setCell_other W ⟨b, o, none⟩ D v hne).trans h

/- The variables of Next, each in a block of its own. -/
structure NxI (w W : World) (B : Nat) (f v : Int) (b : Bool) : Prop where
  b0 : Boxed W B 3 (.int .i64 f)
  b1 : Boxed W (B + 1) 3 (.int .i64 v)
  b2 : Boxed W (B + 1 + 1) 4 (.bool b)
  bel : Below w.heap.size w W

theorem NxI.own {w W W' : World} {B D : Nat} {f v : Int} {b : Bool} {row : Option Nat} (h : NxI w W B f v b) (hD : w.heap.size ≤ D) (hg : W.grownBy W' row) (hr : ∀ r, row = some r → D ≤ r ∧ ∃ o : Obj, W.heap[r]? = some o ∧ o.isCells = false) : NxI w W' B f v b :=
  ⟨boxed_grown h.b0 hg hr, boxed_grown h.b1 hg hr, boxed_grown h.b2 hg hr, h.bel.grown hg h.bel.size (fun k e => Nat.le_trans hD (hr k e).1)⟩

theorem NxI.alloc {w W : World} {B : Nat} {f v : Int} {b : Bool} (h : NxI w W B f v b) (o : Obj) : NxI w (W.alloc o) B f v b := ⟨h.b0.alloc o, h.b1.alloc o, h.b2.alloc o, h.bel.alloc h.bel.size o⟩

theorem NxI.put {w W : World} {B : Nat} {f v : Int} {b : Bool} (h : NxI w W B f v b) (hB : w.heap.size ≤ B) (v' : Int) (b' : Bool) : NxI w ((W.setCell ⟨B + 1, 0, none⟩ (.int .i64 v')).setCell ⟨B + 1 + 1, 0, none⟩ (.bool b')) B f v' b' :=
  ⟨(h.b0.other (by omega) _).other (by omega) _, (h.b1.set _).other (by omega) _, (h.b2.other (by omega) _).set _, (h.bel.setCell (p := ⟨B + 1, 0, none⟩) (show w.heap.size ≤ B + 1 by omega) _).setCell (p := ⟨B + 1 + 1, 0, none⟩) (show w.heap.size ≤ B + 1 + 1 by omega) _⟩

theorem NxI.kept {w W W' : World} {B : Nat} {f v : Int} {b : Bool} {S : Nat → Prop} (h : NxI w W B f v b) (hk : Kept S W W') (hS : ∀ k, S k → B + 1 + 1 < k ∧ w.heap.size ≤ k) : NxI w W' B f v b :=
  ⟨(hk.block _ h.b0.lt (fun s => by have := hS _ s; omega)).trans h.b0, (hk.block _ h.b1.lt (fun s => by have := hS _ s; omega)).trans h.b1, (hk.block _ h.b2.lt (fun s => by have := hS _ s; omega)).trans h.b2, h.bel.trans (hk.below h.bel.size (fun k s => (hS k s).2))⟩

/- At the return: what stands in the two cells is handed back. -/
theorem next_leave {w W : World} {f v v' : Int} {b b' : Bool} (tmps : Array Value) (t4 : tmps.getD 4 undef = .pointer (some ⟨w.heap.size + 1, 0, none⟩)) (t5 : tmps.getD 5 undef = .pointer (some ⟨w.heap.size + 1 + 1, 0, none⟩)) (h : NxI w W w.heap.size f v b) (ev : v' = v) (eb : b' = b) :
    LeavesInM Fence.wide 9 Tryd.prog Tryd.f13 tmps (fun e w' => e = .returned (.tuple #[.int .i64 v', .bool b']) ∧ Below w.heap.size w w') [] .returning W := by
  subst ev eb
  have c1 := h.b1.cell
  have c2 := h.b2.cell
  refine ⟨.tuple #[.int .i64 v', .bool b'], ?_, rfl, h.bel⟩
  have t4' : tmps[4]?.getD undef = .pointer (some ⟨w.heap.size + 1, 0, none⟩) := by simpa using t4
  have t5' : tmps[5]?.getD undef = .pointer (some ⟨w.heap.size + 1 + 1, 0, none⟩) := by simpa using t5
  simp [results, Tryd.f13, go_sem, c1, c2, t4', t5']

set_option maxRecDepth 100000 in
set_option maxHeartbeats 2000000 in
theorem snext_any {p n x : Nat} (xs : List Nat) (HXS : ElOf x xs) (f : Int) (w : World) (h : IsSet w p n x) (hok : SetOk n x) (hT : Tab w) :
    Calls Tryd.prog 13 #[.pointer (some ⟨p, 0, none⟩), .int .i64 f] w fun e w' => e = .returned (.tuple #[.int .i64 (nextI xs f), .bool (nextB xs)]) ∧ Below w.heap.size w w' := by
  have HS := toHid h
  have HT := toHid hT
  have hx := hok.lt
  have hw0 : 0 < w.heap.size := World.block_lt_of_cell? w _ (hT 0 (by decide))
  have HX := toHid HXS
  clear h hT hok HXS
  refine (callsIn_wide (n := 9)).1 ?_
  refine callsIn_of_wp_marks Tryd.func13 rfl trivial ?_ rfl
  simp only [Tryd.ntmps13, List.size_toArray, List.length_cons, List.length_nil, Nat.reduceAdd, Nat.reduceSub, Array.replicate_succ, Array.replicate_zero, List.push_toArray, List.append_toArray, List.nil_append, List.cons_append]
  have hs3 : (((w.alloc (.cells #[.int .i64 f] 3)).alloc (.cells #[.int .i64 0] 3)).alloc (.cells #[.bool false] 4)).heap.size = w.heap.size + 3 := by simp
  have HN3 : Hid (NxI w (((w.alloc (.cells #[.int .i64 f] 3)).alloc (.cells #[.int .i64 0] 3)).alloc (.cells #[.bool false] 4)) w.heap.size f 0 false) := by
    refine ⟨((Boxed.new w _ _).alloc _).alloc _, ?_, ?_, (((Below.refl _ w).alloc (Nat.le_refl _) _).alloc (by simp) _).alloc (by simp; omega) _⟩
    · have := (Boxed.new (w.alloc (.cells #[.int .i64 f] 3)) 3 (.int .i64 0)).alloc (.cells #[.bool false] 4)
      rw [World.size_alloc] at this; exact this
    · have := Boxed.new ((w.alloc (.cells #[.int .i64 f] 3)).alloc (.cells #[.int .i64 0] 3)) 4 (.bool false)
      rw [World.size_alloc, World.size_alloc] at this; exact this
  gi_wp2_with fail
  generalize ((w.alloc (.cells #[.int .i64 f] 3)).alloc (.cells #[.int .i64 0] 3)).alloc (.cells #[.bool false] 4) = W3 at hs3 HN3 ⊢
  refine ⟨trivial, (callsIn_wide.2 (sall_any _ (HS.out.below HN3.out.bel))).mono ?_⟩
  rintro e w' ⟨rfl, hw⟩
  subst hw
  have HN4 := toHid (HN3.out.alloc (.cells #[.int .u64 (x : Int)] 54))
  have hs4 : Hid ((W3.alloc (.cells #[.int .u64 (x : Int)] 54)).heap.size = w.heap.size + 4) := by unfold Hid; simp; omega
  have hB3 : (W3.alloc (.cells #[.int .u64 (x : Int)] 54)).cell? ⟨W3.heap.size, 0, none⟩ = some (.int .u64 (x : Int)) := (Boxed.new W3 _ _).cell
  rw [hs3] at hB3
  gi_wp2_with fail
  generalize W3.alloc (.cells #[.int .u64 (x : Int)] 54) = W4 at hs4 HN4 hB3 ⊢
  clear HN3 hs3
  refine wpIn_rangeFunc_ownG rfl (by omega) (gf := 25) (lb := #[.pointer (some ⟨w.heap.size + 3, 0, none⟩)]) rfl trivial (enters_of Tryd.func25 (by kernel_rfl) rfl)
    (all_stops 8 (w.heap.size + 3) x xs HX.out hx W4 hB3 (HT.out.below HN4.out.bel hw0)) keepTab_t (fun W l o o' _ h hc _ => keepTab_b W l o o' h hc) (Below.refl _ _) (fun _ => rfl)
    (fun pre W => (∀ z ∈ pre, ((z : Nat) : Int) < f) ∧ NxI w W w.heap.size f 0 false)
    (fun c pre W => c = .ret ∧ ∃ (pre' : List Nat) (y : Nat), pre = pre' ++ [y] ∧ (∀ z ∈ pre', ((z : Nat) : Int) < f) ∧ f ≤ (y : Int) ∧ NxI w W w.heap.size f y true)
    (fun s A B row hs hg hr => ⟨hs.1, hs.2.own (by have := hs4.out; omega) hg hr⟩)
    (fun c s A B row hs hg hr => by
      obtain ⟨h1, pre', y, h2, h3, h4, h5⟩ := hs
      exact ⟨h1, pre', y, h2, h3, h4, h5.own (by have := hs4.out; omega) hg hr⟩)
    ⟨fun _ h => (by cases h), HN4.out⟩
    (fun y => { tmps := #[.pointer (some ⟨p, 0, none⟩), .int .i64 f, undef, .pointer (some ⟨w.heap.size, 0, none⟩), .pointer (some ⟨w.heap.size + 1, 0, none⟩), .pointer (some ⟨w.heap.size + 1 + 1, 0, none⟩), .int .i64 ((y : Nat) : Int), undef, .pointer (some ⟨p, 0, none⟩), .func (.func 25) #[] #[.pointer (some ⟨w.heap.size + 3, 0, none⟩)], .int .i64 ((y : Nat) : Int), undef, undef, undef, undef, undef, undef, undef, undef], defers := [] }) ?assign ?body ?done ?stop
  case assign =>
    intro l y W K hK
    gi_wp2
    exact hK
  case body =>
    rintro l pre y W ⟨hp, hn⟩ _
    have HN := toHid hn
    have c0 := hn.b0.cell
    have c1 := hn.b1.cell
    have c2 := hn.b2.cell
    have f1 := hn.b1.frozen
    have f2 := hn.b2.frozen
    clear hn
    by_cases hf : f ≤ (y : Int)
    · have g : decide (f ≤ (y : Int)) = true := decide_eq_true hf
      gi_wp2
      exact ⟨((KeepsOthers.setCell _ _ _).trans (KeepsOthers.setCell _ _ _)).from _, rfl, pre, y, rfl, hp, hf, HN.out.put (Nat.le_refl _) _ _⟩
    · have g : decide (f ≤ (y : Int)) = false := decide_eq_false hf
      gi_wp2
      exact ⟨KeepsFrom.refl _ _, fun t => t, fun z hz => (List.mem_append.1 hz).elim (hp z) (fun e => by rw [List.mem_singleton] at e; subst e; omega), HN.out⟩
  case stop =>
    rintro D c pre W hD hpre ⟨rfl, pre', y, rfl, h1, h2, hn⟩ hK
    obtain ⟨e1, e2⟩ := nextI_hit hpre h1 h2
    gi_wp2
    refine leave_marks [D] W (fun D' h => by rw [List.mem_singleton] at h; subst h; exact hK) (by simp) (fun W' hk => next_leave _ rfl rfl (hn.kept hk (fun k h => by rw [List.mem_singleton] at h; have := hs4.out; omega)) e1 e2)
  case done =>
    rintro D ys W hD hys ⟨hp, hn⟩ hK
    subst hys
    have HM := toHid (nextI_miss hp)
    have HN5 := toHid (hn.alloc (.cells #[.int .u64 (x : Int)] 54))
    have HS5 := toHid (sall_any W (HS.out.below hn.bel))
    have hK5 : Hid ((W.alloc (.cells #[.int .u64 (x : Int)] 54)).heap[D]? = some (.deferred (some []))) := (Below.heap_alloc W _ D (lt_of_some hK)).trans hK
    have hB5 : Hid ((W.alloc (.cells #[.int .u64 (x : Int)] 54)).cell? ⟨W.heap.size, 0, none⟩ = some (.int .u64 (x : Int))) := (Boxed.new W _ _).cell
    have hD5 : Hid (w.heap.size + 4 ≤ D ∧ D < (W.alloc (.cells #[.int .u64 (x : Int)] 54)).heap.size) := ⟨by have := hs4.out; omega, by have := lt_of_some hK; simp; omega⟩
    clear hp hn hK hD hB3 HN4 hs4
    gi_wp2_with fail
    refine ⟨trivial, (callsIn_wide.2 HS5.out).mono ?_⟩
    rintro e w' ⟨rfl, hw⟩
    subst hw
    clear HS5
    gi_wp2_with fail
    generalize W.alloc (.cells #[.int .u64 (x : Int)] 54) = W5 at HN5 hK5 hB5 hD5 ⊢
    generalize W.heap.size = B5 at hB5 ⊢
    refine wpIn_rangeFunc_ownG rfl (by omega) (gf := 25) (lb := #[.pointer (some ⟨B5, 0, none⟩)]) rfl trivial (enters_of Tryd.func25 (by kernel_rfl) rfl)
      (all_stops 8 B5 x ys HX.out hx W5 hB5.out (HT.out.below HN5.out.bel hw0)) keepTab_t (fun W l o o' _ h hc _ => keepTab_b W l o o' h hc) (Below.refl _ _) (fun _ => rfl)
      (fun pre W => pre = [] ∧ W.heap[D]? = some (.deferred (some [])) ∧ NxI w W w.heap.size f 0 false)
      (fun c pre W => c = .ret ∧ W.heap[D]? = some (.deferred (some [])) ∧ ∃ (y : Nat), pre = [y] ∧ NxI w W w.heap.size f y true)
      (fun s A B row hs hg hr => ⟨hs.1, mark_kept hs.2.1 hD5.out.2 hg hr, hs.2.2.own (by have := hD5.out; omega) hg hr⟩)
      (fun c s A B row hs hg hr => by
        obtain ⟨h1, h2, y, h3, h4⟩ := hs
        exact ⟨h1, mark_kept h2 hD5.out.2 hg hr, y, h3, h4.own (by have := hD5.out; omega) hg hr⟩)
      ⟨rfl, hK5.out, HN5.out⟩
      (fun y => { tmps := #[.pointer (some ⟨p, 0, none⟩), .int .i64 f, undef, .pointer (some ⟨w.heap.size, 0, none⟩), .pointer (some ⟨w.heap.size + 1, 0, none⟩), .pointer (some ⟨w.heap.size + 1 + 1, 0, none⟩), undef, .int .i64 ((y : Nat) : Int), .pointer (some ⟨p, 0, none⟩), .func (.func 25) #[] #[.pointer (some ⟨w.heap.size + 3, 0, none⟩)], undef, undef, undef, undef, undef, .pointer (some ⟨p, 0, none⟩), .func (.func 25) #[] #[.pointer (some ⟨B5, 0, none⟩)], .int .i64 ((y : Nat) : Int), undef], defers := [] }) ?assign2 ?body2 ?done2 ?stop2
    case assign2 =>
      intro l y W K hK
      gi_wp2
      exact hK
    case body2 =>
      rintro l pre y W ⟨rfl, hk, hn⟩ _
      have HN := toHid hn
      have HK := toHid hk
      have c1 := hn.b1.cell
      have c2 := hn.b2.cell
      have f1 := hn.b1.frozen
      have f2 := hn.b2.frozen
      clear hn hk
      gi_wp2
      exact ⟨((KeepsOthers.setCell _ _ _).trans (KeepsOthers.setCell _ _ _)).from _, rfl, mark_set (mark_set HK.out (by have := hD5.out; omega)) (by have := hD5.out; omega), y, rfl, HN.out.put (Nat.le_refl _) _ _⟩
    case stop2 =>
      rintro D2 c pre W hD2 hpre ⟨rfl, hk, y, rfl, hn⟩ hK2
      have e1 : ys.headD 0 = y ∧ nextB ys = true := by
        obtain ⟨r, rfl⟩ := hpre
        exact ⟨rfl, rfl⟩
      gi_wp2
      refine leave_marks [D2, D] W (fun D' h => by
        simp at h
        rcases h with rfl | rfl
        · exact hK2
        · exact hk) (by have := hD5.out; simp; omega) (fun W' hk' => next_leave _ rfl rfl (hn.kept hk' (fun k h => by simp at h; have := hD5.out; omega)) (HM.out.trans (by rw [e1.1])) e1.2)
    case done2 =>
      rintro D2 zs W hD2 hzs ⟨h0, hk, hn⟩ hK2
      subst hzs
      subst h0
      have HN := toHid hn
      have HK := toHid hk
      have c1 := hn.b1.cell
      have c2 := hn.b2.cell
      have f1 := hn.b1.frozen
      have f2 := hn.b2.frozen
      have HK2 := toHid hK2
      clear hn hk hK2
      gi_wp2
      refine leave_marks [D2, D] _ (fun D' h => by
        simp at h
        rcases h with rfl | rfl
        · exact mark_set (mark_set HK2.out (by have := hD5.out; omega)) (by have := hD5.out; omega)
        · exact mark_set (mark_set HK.out (by have := hD5.out; omega)) (by have := hD5.out; omega)) (by have := hD5.out; simp; omega) (fun W' hk' => next_leave _ rfl rfl ((HN.out.put (Nat.le_refl _) 0 false).kept hk' (fun k h => by simp at h; have := hD5.out; omega)) HM.out rfl)
end Go.Proofs.YtlfecjgmmhbanaaDoor.S4
