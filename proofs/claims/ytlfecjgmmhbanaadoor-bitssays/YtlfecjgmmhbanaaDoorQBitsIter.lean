/-
The function that All hands back: for every loop's body, all numbers in their order, or as many as the body asked for.
-/
import Derived.Test.YtlfecjgmmhbanaaDoorQBitsAll
namespace Go.Proofs.YtlfecjgmmhbanaaDoor.S4
open Go.RowKit Go.Shelf
attribute [local go_sem] Oper.semAt_some

/- What a round keeps of what the iterator reads. -/
def KeepTab (W W' : World) : Prop := Tab W → Tab W'

theorem and_down (v : Nat) (h0 : v ≠ 0) (hv : v < 18446744073709551616) : IntKind.u64.wrap ((v : Int) - 1) = ((v - 1 : Nat) : Int) ∧ bits .and .u64 (v : Int) ((v - 1 : Nat) : Int) = ((v &&& (v - 1) : Nat) : Int) := by
  refine ⟨?_, bits_and_u64_nat _ _ hv (by omega)⟩
  rw [IntKind.wrap_u64]; omega

theorem nodepth {n : Nat} : Fence.wide.depth.isSome = true → 1 ≤ n := fun h => by cases h

structure ElOf (v : Nat) (rest : List Nat) : Prop where
  eq : rest = elems v

theorem ElOf.zero {rest : List Nat} (h : ElOf 0 rest) : rest = [] := h.eq.trans elems_zero
theorem ElOf.len {v : Nat} {rest : List Nat} (h : ElOf v rest) : rest.length ≤ 64 := by
  rw [h.eq]; unfold elems; rw [elemsTo_len]; exact cnt_le v 64
theorem ElOf.step {v : Nat} {rest : List Nat} (h : ElOf v rest) (h0 : v ≠ 0) (hv : v < 18446744073709551616) : ∃ r, rest = Lib.ctz 64 v :: r ∧ ElOf (v &&& (v - 1)) r ∧ (v &&& (v - 1)) < v := by
  obtain ⟨s1, s2, _⟩ := elems_step v h0 hv
  exact ⟨_, h.eq.trans s1, ⟨rfl⟩, s2⟩

set_option maxRecDepth 100000 in
set_option maxHeartbeats 2000000 in
theorem all1_in (n : Nat) (l Bn x : Nat) (xs : List Nat) (HXS : ElOf x xs) (hx : x < 18446744073709551616) (J Jx : List Nat → World → Prop)
    (hY : ∀ pre y W, J pre W → pre.length < 64 → YieldAt Fence.wide (n - 1) Tryd.prog l #[.int .i64 ((y : Nat) : Int)] W fun e W' =>
      (e = .returned (.bool true) ∧ J (pre ++ [y]) W' ∧ KeepTab W W') ∨ (e = .returned (.bool false) ∧ Jx (pre ++ [y]) W'))
    (W : World) (hBn : W.cell? ⟨Bn, 0, none⟩ = some (.int .u64 (x : Int))) (hT : Tab W) (h0 : J [] W) :
    CallsIn Fence.wide n Tryd.prog 25 #[.func (.yield l) #[] #[], .pointer (some ⟨Bn, 0, none⟩)] W fun e W' => (∃ v, e = .returned v) ∧
      ((∃ ys, ys = xs ∧ J ys W') ∨ (∃ pre, pre <+: xs ∧ Jx pre W')) := by
  have HT := toHid hT
  clear hT
  have HLE : Hid (xs.length ≤ 64) := HXS.len
  refine callsIn_of_wp Tryd.func25 rfl trivial ?_ rfl
  simp only [Tryd.ntmps25, List.size_toArray, List.length_cons, List.length_nil, Nat.reduceAdd, Nat.reduceSub, Array.replicate_succ, Array.replicate_zero, List.push_toArray, List.append_toArray, List.nil_append, List.cons_append]
  gi_wp2
  gi_loopw [3] (fun q wr => ∃ (pre rest : List Nat) (v : Nat), q = .int .u64 (v : Int) ∧ v < 18446744073709551616 ∧ xs = pre ++ rest ∧ ElOf v rest ∧ Tab wr ∧ J pre wr)
    (fun q wr => (intOf q).toNat)
  case atStart =>
    exact ⟨[], xs, x, rfl, hx, rfl, HXS, HT.out, h0⟩
  case round =>
    obtain ⟨pre, rest, v, rfl, hv, he, hr, hT, hJs⟩ := hrel
    have HT1 := toHid hT
    clear hT
    by_cases hv0 : v = 0
    · subst hv0
      have hr0 := hr.zero
      subst hr0
      have g0 : (((0 : Nat) : Int) != 0) = false := rfl
      gi_wp2
      go_end0
      exact ⟨⟨_, rfl⟩, .inl ⟨pre, by simp [he], hJs⟩⟩
    · have g0 : ((v : Int) != 0) = true := by simp; omega
      obtain ⟨r, s1, s3, s2⟩ := hr.step hv0 hv
      obtain ⟨d1, d2⟩ := and_down v hv0 hv
      have HTZ := toHid (tz_any v wr hv0 hv HT1.out)
      generalize Lib.ctz 64 v = c at s1 HTZ
      subst s1
      have hlen : pre.length < 64 := by have := HLE.out; rw [he] at this; simp at this; omega
      have hY1 := hY pre c wr hJs hlen
      obtain ⟨fn, tmps, assign, body, hy, hR⟩ := hY1
      have HE := toHid he
      clear he
      generalize v &&& (v - 1) = v2 at s2 s3 d2
      have h2 : v2 < 18446744073709551616 := by omega
      generalize v - 1 = v1 at d1 d2
      gi_wp2_with fail
      refine ⟨trivial, nodepth, (callsIn_wide.2 HTZ.out).mono ?_⟩
      rintro e w' ⟨rfl, hw⟩
      have hw' := hw.symm
      subst hw'
      clear hw
      gi_wp2_with fail
      refine ⟨nodepth, hR.mono ?_⟩
      rintro e W3 (⟨rfl, hJ3, hk3⟩ | ⟨rfl, hJx3⟩)
      · have HT3 := toHid (hk3 HT1.out)
        clear hk3
        gi_wp2
        go_roundw
        case rel => exact ⟨pre ++ [c], r, v2, rfl, h2, by simp [HE.out], s3, HT3.out, hJ3⟩
        case measure => simp [intOf]; omega
      · gi_wp2
        refine bodyPost_ret (results_none rfl _ _ _) rfl ?_
        exact ⟨⟨_, rfl⟩, .inr ⟨pre ++ [c], ⟨r, by simp [HE.out]⟩, hJx3⟩⟩

/- The function value that All hands back. -/
theorem all_stops (n : Nat) (Bn x : Nat) (xs : List Nat) (HXS : ElOf x xs) (hx : x < 18446744073709551616) (w : World) (hBn : w.cell? ⟨Bn, 0, none⟩ = some (.int .u64 (x : Int))) (hT : Tab w) :
    SeqStopsK Fence.wide n Tryd.prog 25 #[.pointer (some ⟨Bn, 0, none⟩)] (fun y : Nat => #[Value.int .i64 (y : Int)]) KeepTab (fun ys => ys = xs) (fun pre => pre <+: xs) 64 w := fun l J Jx W hW _ _ hY h0 =>
  all1_in n l Bn x xs HXS hx J Jx hY W ((hW.cell (p := ⟨Bn, 0, none⟩) (World.block_lt_of_cell? w _ hBn)).trans hBn) (fun j hj => (hW.cell (p := ⟨0, j, none⟩) (World.block_lt_of_cell? w _ (hT j hj))).trans (hT j hj)) h0

theorem keepTab_t {A B C : World} (h : KeepTab A B) (k : KeepTab B C) : KeepTab A C := fun t => k (h t)

theorem keepTab_b (W : World) (l : Nat) (o o' : Obj) (h : W.heap[l]? = some o) (hc : o.isCells = false) : KeepTab W (W.putObj l o') := fun t j hj => by
  have ht := t j hj
  have hne : (0 : Nat) ≠ l := fun e => by
    subst e
    unfold World.cell? at ht
    rw [h] at ht
    cases o <;> simp [Obj.isCells] at hc ht
  have e : (W.putObj l o').heap[0]? = W.heap[0]? := World.putObj_heap_other hne
  exact (World.cell?_of_block e).trans ht
end Go.Proofs.YtlfecjgmmhbanaaDoor.S4
