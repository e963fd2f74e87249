/-
Join of two sets: all numbers of the other one are put in.
-/
import Derived.Test.YtlfecjgmmhbanaaDoorQBitsNext
namespace Go.Proofs.YtlfecjgmmhbanaaDoor.S4
open Go.RowKit Go.Shelf
attribute [local go_sem] Oper.semAt_some

def joinL (n x : Nat) (ys : List Nat) : Nat := ys.foldl (fun (z y : Nat) => putV n z (y : Int) true) x

theorem joinL_snoc (n x : Nat) (ys : List Nat) (y : Nat) : joinL n x (ys ++ [y]) = putV n (joinL n x ys) (y : Int) true := by
  unfold joinL; rw [List.foldl_append]; rfl

theorem joinL_ok {n x : Nat} (h : SetOk n x) (ys : List Nat) : SetOk n (joinL n x ys) := by
  unfold joinL
  induction ys generalizing x with
  | nil => exact h
  | cons y ys ih => exact ih (putV_ok h _ _)

theorem joinL_bit {n x : Nat} (ys : List Nat) (j : Nat) : (joinL n x ys).testBit j = (x.testBit j || (decide (j < n) && decide (j ∈ ys))) := by
  unfold joinL
  induction ys generalizing x with
  | nil => simp
  | cons y ys ih =>
    rw [List.foldl_cons, ih, putV_bit]
    by_cases h : mayB n (y : Int) = true ∧ (y : Int) = (j : Int)
    · rw [if_pos h]
      have e : y = j := by have := h.2; omega
      subst e
      have hn : y < n := by have := h.1; unfold mayB at this; simp at this; omega
      simp [hn]
    · rw [if_neg h]
      by_cases e : j = y
      · subst e
        have hn : ¬ j < n := fun q => h ⟨by unfold mayB; simp; omega, rfl⟩
        simp [hn]
      · simp [e]

theorem keepsFrom_kept {W W' : World} {B p n x : Nat} (h : IsSet W p n x) (hk : Kept (fun k => k = p) W W') : KeepsFrom B W W' :=
  ⟨hk.size, fun k o _ ho hc => by
    refine (hk.block k (lt_of_some ho) (fun e => ?_)).trans ho
    rw [e, show W.heap[p]? = _ from h] at ho; cases ho; cases hc⟩

theorem Tab.ne {W : World} {p n x : Nat} (hT : Tab W) (h : IsSet W p n x) : p ≠ 0 := fun e => by
  have h1 := hT 0 (by decide)
  have h2 := h.cells.1
  rw [e] at h2
  rw [h1] at h2
  injection h2 with h2
  injection h2 with h2 h3
  cases h2

theorem keepTab_kept {W W' : World} {p n x : Nat} (h : IsSet W p n x) (hk : Kept (fun k => k = p) W W') : KeepTab W W' := fun t j hj => by
  have h0 := t.ne h
  have h1 := t j hj
  exact (World.cell?_of_block (hk.block 0 (World.block_lt_of_cell? W _ h1) (fun e => h0 e.symm))).trans h1

structure JnI (w W : World) (p n z : Nat) : Prop where
  b0 : Boxed W w.heap.size 33 (.pointer (some ⟨p, 0, none⟩))
  set : IsSet W p n z
  kept : Kept (fun k => k = p) w W

theorem JnI.own {w W W' : World} {p n z D : Nat} {row : Option Nat} (h : JnI w W p n z) (hD : w.heap.size ≤ D) (hg : W.grownBy W' row) (hr : ∀ r, row = some r → D ≤ r ∧ ∃ o : Obj, W.heap[r]? = some o ∧ o.isCells = false) : JnI w W' p n z := by
  refine ⟨boxed_grown h.b0 hg hr, ?_, h.kept.grown hg (fun k e => .inr (Nat.le_trans hD (hr k e).1))⟩
  refine (hg.block p (lt_of_some h.set) (fun e => ?_)).trans h.set
  obtain ⟨_, o, ho, hc⟩ := hr p e.symm
  rw [show W.heap[p]? = _ from h.set] at ho; cases ho; cases hc

set_option maxRecDepth 100000 in
set_option maxHeartbeats 2000000 in
theorem sjoin_any {p n x po no xo : Nat} (xs : List Nat) (HXS : ElOf xo xs) (w : World) (h : IsSet w p n x) (hok : SetOk n x) (ho : IsSet w po no xo) (hoko : SetOk no xo) (hT : Tab w) :
    Calls Tryd.prog 15 #[.pointer (some ⟨p, 0, none⟩), .pointer (some ⟨po, 0, none⟩)] w fun e w' => (∃ v, e = .returned v) ∧ IsSet w' p n (joinL n x xs) ∧ Kept (fun k => k = p) w w' := by
  have HS := toHid h
  have HO := toHid ho
  have HT := toHid hT
  have HOK := toHid hok
  have hx := hoko.lt
  have HX := toHid HXS
  have hp : p < w.heap.size := lt_of_some h
  have hp0 : p ≠ 0 := hT.ne h
  have hw0 : 0 < w.heap.size := by omega
  clear h ho hT hok hoko HXS
  refine (callsIn_wide (n := 9)).1 ?_
  refine callsIn_of_wp_marks Tryd.func15 rfl trivial ?_ rfl
  simp only [Tryd.ntmps15, List.size_toArray, List.length_cons, List.length_nil, Nat.reduceAdd, Nat.reduceSub, Array.replicate_succ, Array.replicate_zero, List.push_toArray, List.append_toArray, List.nil_append, List.cons_append]
  have hs1 : Hid ((w.alloc (.cells #[.pointer (some ⟨p, 0, none⟩)] 33)).heap.size = w.heap.size + 1) := by unfold Hid; simp
  have HB1 : Hid (Below w.heap.size w (w.alloc (.cells #[.pointer (some ⟨p, 0, none⟩)] 33))) := (Below.refl _ w).alloc (Nat.le_refl _) _
  have HJ1 : Hid (JnI w (w.alloc (.cells #[.pointer (some ⟨p, 0, none⟩)] 33)) p n x) := ⟨Boxed.new w _ _, HS.out.below HB1.out, (Kept.refl _ w).alloc _⟩
  gi_wp2_with fail
  generalize w.alloc (.cells #[.pointer (some ⟨p, 0, none⟩)] 33) = W3 at hs1 HB1 HJ1 ⊢
  refine ⟨trivial, (callsIn_wide.2 (sall_any _ (HO.out.below HB1.out))).mono ?_⟩
  rintro e w' ⟨rfl, hw⟩
  subst hw
  have HB4 : Hid (Below w.heap.size w (W3.alloc (.cells #[.int .u64 (xo : Int)] 54))) := HB1.out.alloc HB1.out.size _
  have HJ4 : Hid (JnI w (W3.alloc (.cells #[.int .u64 (xo : Int)] 54)) p n x) := ⟨HJ1.out.b0.alloc _, HJ1.out.set.below ((Below.refl _ W3).alloc (Nat.le_refl _) _), HJ1.out.kept.alloc _⟩
  have hs4 : Hid ((W3.alloc (.cells #[.int .u64 (xo : Int)] 54)).heap.size = w.heap.size + 2) := by unfold Hid; have := hs1.out; simp; omega
  have hB3 : Hid ((W3.alloc (.cells #[.int .u64 (xo : Int)] 54)).cell? ⟨W3.heap.size, 0, none⟩ = some (.int .u64 (xo : Int))) := (Boxed.new W3 _ _).cell
  gi_wp2_with fail
  generalize W3.alloc (.cells #[.int .u64 (xo : Int)] 54) = W4 at hs4 HB4 HJ4 hB3 ⊢
  generalize W3.heap.size = B3 at hB3 ⊢
  clear HJ1 HB1 hs1
  refine wpIn_rangeFunc_ownG rfl (by omega) (gf := 25) (lb := #[.pointer (some ⟨B3, 0, none⟩)]) rfl trivial (enters_of Tryd.func25 (by kernel_rfl) rfl)
    (all_stops 8 B3 xo xs HX.out hx W4 hB3.out (HT.out.below HB4.out hw0)) keepTab_t (fun W l o o' _ h hc _ => keepTab_b W l o o' h hc) (Below.refl _ _) (fun _ => rfl)
    (fun pre W => JnI w W p n (joinL n x pre))
    (fun c pre W => False)
    (fun s A B row hs hg hr => hs.own (by have := hs4.out; omega) hg hr)
    (fun c s A B row hs hg hr => hs)
    HJ4.out
    (fun y => { tmps := #[.pointer (some ⟨p, 0, none⟩), .pointer (some ⟨po, 0, none⟩), .pointer (some ⟨w.heap.size, 0, none⟩), undef, .int .i64 ((y : Nat) : Int), .pointer (some ⟨po, 0, none⟩), .func (.func 25) #[] #[.pointer (some ⟨B3, 0, none⟩)], .int .i64 ((y : Nat) : Int), undef, undef, undef], defers := [] }) ?assign ?body ?done ?stop
  case assign =>
    intro l y W K hK
    gi_wp2
    exact hK
  case body =>
    rintro l pre y W hj _
    have HJ := toHid hj
    have c0 := hj.b0.cell
    have HP := toHid (sput_any (y : Int) true W hj.set (joinL_ok HOK.out pre))
    clear hj
    gi_wp2_with fail
    refine ⟨trivial, (CallsIn.inRound l (callsIn_wide.2 HP.out)).mono ?_⟩
    rintro e W1 ⟨rfl, h1, hk1⟩
    have HJ1 : Hid (JnI w W1 p n (joinL n x (pre ++ [y]))) := by
      refine ⟨(hk1.block _ HJ.out.b0.lt (by omega)).trans HJ.out.b0, ?_, HJ.out.kept.trans hk1⟩
      rw [joinL_snoc]; exact h1
    have HK1 := toHid hk1
    clear h1 hk1
    gi_wp2
    exact ⟨keepsFrom_kept HJ.out.set HK1.out, keepTab_kept HJ.out.set HK1.out, HJ1.out⟩
  case stop =>
    rintro D c pre W hD hpre h
    exact h.elim
  case done =>
    rintro D ys W hD hys hj hK
    subst hys
    have HJ := toHid hj
    have HK := toHid hK
    clear hj hK
    gi_wp2
    refine leave_marks [D] W (fun D' h => by rw [List.mem_singleton] at h; subst h; exact HK.out) (by simp) (fun W' hk => ⟨_, results_none rfl _ _ _, ⟨_, rfl⟩, ?_, ?_⟩)
    · exact HJ.out.set.kept hk (fun e => by rw [List.mem_singleton] at e; have := hs4.out; omega)
    · exact ((HJ.out.kept.mono (T := fun k => k = p ∨ w.heap.size ≤ k) (fun k _ e => .inl e)).trans (hk.mono (fun k _ e => .inr (by rw [List.mem_singleton] at e; have := hs4.out; omega)))).mono (fun k hlt e => by rcases e with e | e; exact e; omega)
end Go.Proofs.YtlfecjgmmhbanaaDoor.S4
