/-
TopSpeed: its walk.
-/
import Derived.Test.YtlfecjgmmhbanabQBucket
namespace Go.Proofs.Ytlfecjgmmhbanab.S4
open Go.RowKit
attribute [local go_sem ↓] Go.wp_at_zero Go.wp_at_succ

/- Between two rounds: the bucket, how much was taken, how much might be. -/
structure Spd (w W : World) (p : Nat) (r b : Int) (k : Nat) (M T : Int) : Prop where
  bel : Below w.heap.size w W
  pB : w.heap.size ≤ p
  lev : ∃ l, Three 39 W p r b l ∧ 0 ≤ l ∧ l ≤ b ∧ 0 ≤ T ∧ T + l ≤ M ∧ M ≤ 1000 + (k : Int) * 100000000

theorem Spd.box {w W : World} {p k : Nat} {r b M T : Int} (h : Spd w W p r b k M T) (x : ActV) :
    Spd w (W.alloc (.cells x.cells.toArray 31)) p r b k M T ∧ Box (W.alloc (.cells x.cells.toArray 31)) W.heap.size x ∧ p ≠ W.heap.size := by
  obtain ⟨l, h1, h2⟩ := h.lev
  have hp : p < W.heap.size := lt_of_some h1
  refine ⟨⟨h.bel.alloc h.bel.size _, h.pB, l, h1.below ((Below.refl _ W).alloc (Nat.le_refl _) _), h2⟩, ⟨new_block _ _⟩, by omega⟩

set_option maxRecDepth 100000 in
set_option maxHeartbeats 1000000 in
theorem speed_early (r b : Int) (la : Option Addr) (len cap : Nat) (xs : List ActV) (w : World) (hT : Acts w la len xs) (hlen : len ≤ maxLen) (hf : (inB r 1000 && inB b 1000) = false ∨ lightB xs 80 = false) :
    Calls Try.prog 3 #[.int .i64 r, .int .i64 b, .slice la len cap] w fun e w' => e = .returned (.bool true) ∧ Below w.heap.size w w' := by
  have HT0 : Hid (Acts w la len xs) := hT
  clear hT
  cases h1 : (inB r 1000 && inB b 1000) with
  | false =>
    go_enter Try.func3, Try.ntmps3
    go_wp2_with fail
    refine (bnew_bad r b w h1).mono ?_
    rintro e w' ⟨rfl, hw⟩
    have hw' := hw.symm
    subst hw'
    clear hw
    go_wp2
    go_ret
    exact ⟨rfl, Below.refl _ _⟩
  | true =>
    have h2 : lightB xs 80 = false := by
      rcases hf with q | q
      · rw [h1] at q; cases q
      · exact q
    have e1 : inB r 1000 = true := by revert h1; cases inB r 1000 <;> simp
    have e2 : inB b 1000 = true := by revert h1; cases inB b 1000 <;> simp
    clear h1 hf
    go_enter Try.func3, Try.ntmps3
    go_wp2_with fail
    refine (bnew_good r b w e1 e2).mono ?_
    rintro e w1 ⟨rfl, _, hb1⟩
    go_wp2_with fail
    refine (light_any la len cap 80 xs w1 (HT0.out.below hb1) hlen (by omega)).mono ?_
    rintro e w' ⟨he, hw⟩
    have hw' := hw.symm
    subst hw'
    clear hw
    rw [h2] at he
    subst he
    go_wp2
    go_ret
    exact ⟨rfl, hb1⟩

set_option maxRecDepth 100000 in
set_option maxHeartbeats 4000000 in
theorem speed_front (r b : Int) (la : Option Addr) (len cap : Nat) (xs : List ActV) (w : World) (hT : Acts w la len xs) (hlen : len ≤ maxLen) (e1 : inB r 1000 = true) (e2 : inB b 1000 = true) (hf : lightB xs 80 = true) :
    Calls Try.prog 3 #[.int .i64 r, .int .i64 b, .slice la len cap] w fun e w' => e = .returned (.bool true) ∧ Below w.heap.size w w' := by
  have HT0 : Hid (Acts w la len xs) := hT
  clear hT
  have hr : 0 ≤ r ∧ r ≤ 1000 := by unfold inB at e1; simpa using e1
  have hbb : 0 ≤ b ∧ b ≤ 1000 := by unfold inB at e2; simpa using e2
  go_enter Try.func3, Try.ntmps3
  go_wp2_with fail
  refine (bnew_good r b w e1 e2).mono ?_
  rintro e w1 ⟨rfl, ht1, hb1⟩
  go_wp2_with fail
  refine (light_any la len cap 80 xs w1 (HT0.out.below hb1) hlen (by omega)).mono ?_
  rintro e w' ⟨he, hw⟩
  have hw' := hw.symm
  subst hw'
  clear hw
  rw [hf] at he
  subst he
  have hl80 : len ≤ 80 := by
    unfold lightB at hf
    simp only [decide_eq_true_eq] at hf
    have := HT0.out.1
    omega
  have HS1 : Hid (Spd w w1 w.heap.size r b 0 b 0) := ⟨hb1, Nat.le_refl _, b, ht1, hbb.1, Int.le_refl _, Int.le_refl _, by omega, by omega⟩
  clear hf hlen ht1 hb1 e1 e2
  go_wp2_with fail
  go_loopw [9, 10, 11] (fun m t i wr => ∃ (k : Nat) (M T : Int), k ≤ len ∧ m = .int .i64 M ∧ t = .int .i64 T ∧ i = .int .i64 k ∧ Spd w wr w.heap.size r b k M T) (fun _ _ i _ => len - (intOf i).toNat)
  case atStart => exact ⟨0, b, 0, Nat.zero_le _, rfl, rfl, rfl, HS1.out⟩
  case round =>
    clear HS1
    obtain ⟨k, M, T, hk, rfl, rfl, rfl, hl⟩ := hrel
    have HL : Hid (Spd w wr w.heap.size r b k M T) := hl
    clear hl
    by_cases hlt : k < len
    · obtain ⟨blk, off, hla, hrg, hok⟩ := (HT0.out.below HL.out.bel).2 k hlt
      generalize xs.getD k ActV.none_ = x at hrg hok
      subst hla
      have HRG : Hid (wr.rangeAt blk (off + k * 7) x.cells) := hrg
      have HI : Hid ((Try.prog.info? 31).map (·.size) = some x.cells.length) := size_act
      have HI2 : Hid ((Try.prog.info? 31).map (·.size) = some x.cells.toArray.size) := size_act
      have HO1 : Hid (∀ v ∈ x.cells.toArray.toList, v.oneCell' = true) := act_one x
      have ha1 := hok.a1
      clear hrg hok
      go_upto_region 10 with (first
        | (refine wpList_load_mid (by rfl) 31 (.tmp 35) (by rfl) blk (off + k * 7) (by rfl) x.cells _ HRG.out Try.underlying31 rfl HI.out ?_)
        | (refine wpList_store_new (by rfl) 31 31 (.tmp 12) (.tmp 36) (by rfl) _ x.cells.toArray (by rfl) (by rfl) rfl HI2.out HO1.out ?_))
      have HXB := toHid (HL.out.box x)
      generalize wr.alloc (.cells x.cells.toArray 31) = W at HXB
      generalize wr.heap.size = N at HXB
      clear HRG HI HI2 HO1 HL
      obtain ⟨c0, c1, _, _⟩ := HXB.out.2.1.cells
      obtain ⟨l, h3, b0, b1, b2, b3, b4⟩ := HXB.out.1.lev
      have HB : Hid (Below w.heap.size w W) := HXB.out.1.bel
      have HX : Hid (Box W N x) := HXB.out.2.1
      have HN : Hid (¬ N = w.heap.size) := fun e => HXB.out.2.2 e.symm
      have H3 : Hid (Three 39 W w.heap.size r b l) := h3
      clear HXB h3
      have hkk : (k : Int) < 80 := by omega
      by_cases g0 : x.kind.toList = [116, 105, 99, 107]
      · have g0' : (x.kind.toList == [116, 105, 99, 107]) = true := beq_iff_eq.2 g0
        clear g0
        cases hin : inB x.a 100000 with
        | false =>
          as_aux_lemma =>
            go_wp2_with fail
            refine (tick_bad x.a W hin).mono ?_
            rintro e w' ⟨rfl, hw⟩
            have hw' := hw.symm
            subst hw'
            clear hw
            go_wp2
            go_roundw
            case rel => exact ⟨k + 1, M, T, by omega, rfl, rfl, by go_num, HB.out, Nat.le_refl _, l, H3.out, b0, b1, b2, b3, by omega⟩
            case measure => simp [intOf]; omega
        | true =>
          as_aux_lemma =>
            have hin' : 0 ≤ x.a ∧ x.a ≤ 100000 := by unfold inB at hin; simpa using hin
            have m0 : 0 ≤ r * x.a := Int.mul_nonneg hr.1 hin'.1
            have m1 : r * x.a ≤ 1000 * 100000 := Int.mul_le_mul hr.2 hin'.2 hin'.1 (by omega)
            have q1 : IntKind.i64.wrap (r * x.a) = r * x.a := IntWalk.i64_in _ (by omega)
            have q2 : IntKind.i64.wrap (M + r * x.a) = M + r * x.a := IntWalk.i64_in _ (by omega)
            go_wp2_with fail
            refine (tick_good x.a W H3.out hin hr (by omega)).mono ?_
            rintro e W1 ⟨rfl, h31, hk1⟩
            obtain ⟨_, d1, _, _⟩ := (HX.out.kept hk1 HN.out).cells
            have H31 : Hid (Three 39 W1 w.heap.size r b (tickV r b l x.a)) := h31
            have HK1 : Hid (Kept (fun k => k = w.heap.size) W W1) := hk1
            clear h31 hk1
            go_wp2
            go_roundw
            case rel =>
              have t1 : x.a * r = r * x.a := Int.mul_comm _ _
              have t2 : 0 ≤ tickV r b l x.a ∧ tickV r b l x.a ≤ b ∧ tickV r b l x.a ≤ l + r * x.a := by
                unfold tickV; split <;> omega
              exact ⟨k + 1, M + r * x.a, T, by omega, rfl, rfl, by go_num, HB.out.trans (HK1.out.below HB.out.size (fun k e => Nat.le_of_eq e.symm)), Nat.le_refl _, tickV r b l x.a, H31.out, t2.1, t2.2.1, b2, by omega, by omega⟩
            case measure => simp [intOf]; omega
      · have g0' : (x.kind.toList == [116, 105, 99, 107]) = false := beq_eq_false_iff_ne.2 g0
        clear g0
        have hta := take_any x.a W H3.out (show 0 ≤ l ∧ l ≤ 1000 by omega)
        have HV : Hid (takeV l x.a = if inB x.a l then l - x.a else l) := rfl
        cases hin : inB x.a l with
        | false =>
          as_aux_lemma =>
            rw [hin] at hta HV
            go_wp2_with fail
            refine hta.mono ?_
            rintro e W1 ⟨rfl, h31, hk1⟩
            have ev : takeV l x.a = l := HV.out
            rw [ev] at h31
            have H31 : Hid (Three 39 W1 w.heap.size r b l) := h31
            have HK1 : Hid (Kept (fun k => k = w.heap.size) W W1) := hk1
            have hlv := level_any W1 h31
            clear h31 hk1 hta ev HV
            have f1 : decide (M < T) = false := decide_eq_false (by omega)
            have f2 : decide (l < 0) = false := decide_eq_false (by omega)
            have f3 : decide (b < l) = false := decide_eq_false (by omega)
            go_wp2_with fail
            refine hlv.mono ?_
            rintro e w' ⟨rfl, hw⟩
            have hw' := hw.symm
            subst hw'
            clear hw
            go_wp2_with fail
            refine hlv.mono ?_
            rintro e w' ⟨rfl, hw⟩
            have hw' := hw.symm
            subst hw'
            clear hw
            go_wp2
            go_roundw
            case rel => exact ⟨k + 1, M, T, by omega, rfl, rfl, by go_num, HB.out.trans (HK1.out.below HB.out.size (fun k e => Nat.le_of_eq e.symm)), Nat.le_refl _, l, H31.out, b0, b1, b2, b3, by omega⟩
            case measure => simp [intOf]; omega
        | true =>
          as_aux_lemma =>
            rw [hin] at hta HV
            have hin' : 0 ≤ x.a ∧ x.a ≤ l := by unfold inB at hin; simpa using hin
            have q2 : IntKind.i64.wrap (T + x.a) = T + x.a := IntWalk.i64_in _ (by omega)
            go_wp2_with fail
            refine hta.mono ?_
            rintro e W1 ⟨rfl, h31, hk1⟩
            have ev : takeV l x.a = l - x.a := HV.out
            rw [ev] at h31
            obtain ⟨_, d1, _, _⟩ := (HX.out.kept hk1 HN.out).cells
            have H31 : Hid (Three 39 W1 w.heap.size r b (l - x.a)) := h31
            have HK1 : Hid (Kept (fun k => k = w.heap.size) W W1) := hk1
            have hlv := level_any W1 h31
            clear h31 hk1 hta ev HV
            have f1 : decide (M < T + x.a) = false := decide_eq_false (by omega)
            have f2 : decide (l - x.a < 0) = false := decide_eq_false (by omega)
            have f3 : decide (b < l - x.a) = false := decide_eq_false (by omega)
            go_wp2_with fail
            refine hlv.mono ?_
            rintro e w' ⟨rfl, hw⟩
            have hw' := hw.symm
            subst hw'
            clear hw
            go_wp2_with fail
            refine hlv.mono ?_
            rintro e w' ⟨rfl, hw⟩
            have hw' := hw.symm
            subst hw'
            clear hw
            go_wp2
            go_roundw
            case rel => exact ⟨k + 1, M, T + x.a, by omega, rfl, rfl, by go_num, HB.out.trans (HK1.out.below HB.out.size (fun k e => Nat.le_of_eq e.symm)), Nat.le_refl _, l - x.a, H31.out, by omega, by omega, by omega, by omega, by omega⟩
            case measure => simp [intOf]; omega
    · have HB : Hid (Below w.heap.size w wr) := HL.out.bel
      clear HL
      go_wp2
      go_ret
      exact ⟨rfl, HB.out⟩
end Go.Proofs.Ytlfecjgmmhbanab.S4
