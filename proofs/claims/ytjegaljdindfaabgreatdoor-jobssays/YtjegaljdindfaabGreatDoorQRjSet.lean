/-
The document's set and bucket where they lie within a job: the same calls, at their places in the job's block.
-/
import Derived.Test.YtjegaljdindfaabGreatDoorQBucketRef
namespace Go.Proofs.YtjegaljdindfaabGreatDoor.S4
open Go.RowKit
attribute [local go_sem ↓] Go.wp_at_zero Go.wp_at_succ

structure Rset8 (w : World) (q n x : Nat) : Prop where
  n8 : w.cell? ⟨q, 8, none⟩ = some (.int .i64 (n : Int))
  bit : ∀ j, j < 64 → w.cell? ⟨q, 9 + j, none⟩ = some (.bool (x.testBit j)) ∧ w.frozen? ⟨q, 9 + j, none⟩ = false

set_option maxRecDepth 100000 in
set_option maxHeartbeats 400000 in
theorem r8may_any {q n x : Nat} (i : Int) (w : World) (h : Rset8 w q n x) :
    Calls Tryz.prog 161 #[.pointer (some ⟨q, 8, none⟩), .int .i64 i] w fun e w' => e = .returned (.bool (mayB n i)) ∧ w' = w := by
  have c0 := h.n8
  clear h
  by_cases h0 : 0 ≤ i
  · have g0 : decide (0 ≤ i) = true := decide_eq_true h0
    have HF : Hid (decide (i < (n : Int)) = mayB n i) := by unfold Hid mayB; simp [h0]
    go_enter Tryz.func161, Tryz.ntmps161
    go_wp2
    go_ret
    exact ⟨ret_lb HF.out, rfl⟩
  · have g0 : decide (0 ≤ i) = false := decide_eq_false h0
    have HF : Hid (false = mayB n i) := by unfold Hid mayB; simp [h0]
    go_enter Tryz.func161, Tryz.ntmps161
    go_wp2
    go_ret
    exact ⟨ret_lb HF.out, rfl⟩

set_option maxRecDepth 100000 in
set_option maxHeartbeats 400000 in
theorem r8count_any {q n x : Nat} (w : World) (h : Rset8 w q n x) :
    Calls Tryz.prog 64 #[.pointer (some ⟨q, 8, none⟩)] w fun e w' => e = .returned (.int .i64 (cnt x 64 : Nat)) ∧ w' = w := by
  have HH := toHid h
  clear h
  obtain ⟨tot, ht⟩ : ∃ tot, cnt x 64 = tot := ⟨_, rfl⟩
  rw [ht]
  have HT := toHid ht
  clear ht
  go_enter Tryz.func64, Tryz.ntmps64
  go_wp2
  go_loop [3, 4] (fun c i => ∃ (k cc : Nat), k ≤ 64 ∧ i = .int .i64 k ∧ c = .int .i64 (cc : Nat) ∧ cnt x k = cc) (fun _ i => 64 - (intOf i).toNat)
  case atStart => exact ⟨0, 0, Nat.zero_le _, rfl, rfl, rfl⟩
  case round =>
    obtain ⟨k, cc, hk, rfl, rfl, hcc⟩ := hrel
    have hc := cnt_le x k
    rw [hcc] at hc
    have HC := toHid hcc
    clear hcc
    by_cases hlt : k < 64
    · obtain ⟨c1, _⟩ := HH.out.bit k hlt
      have i0 : (0 : Int) ≤ (k : Int) := by omega
      have i1 : (k : Int) < 64 := by omega
      have HC1 : Hid (cnt x (k + 1) = cc + if x.testBit k then 1 else 0) := by
        unfold Hid
        show cnt x k + _ = _
        rw [HC.out]
      clear HC
      cases hb : x.testBit k with
      | true =>
        rw [hb] at c1 HC1
        clear hb
        go_wp2
        go_round
        case rel => exact ⟨k + 1, cc + 1, by omega, by go_num, by go_num, HC1.out⟩
        case measure => simp [intOf]; omega
      | false =>
        rw [hb] at c1 HC1
        clear hb
        go_wp2
        go_round
        case rel => exact ⟨k + 1, cc, by omega, by go_num, rfl, HC1.out⟩
        case measure => simp [intOf]; omega
    · have hk64 : k = 64 := by omega
      subst hk64
      have e : tot = cc := HT.out.symm.trans HC.out
      subst e
      clear HT HC
      go_wp2
      go_ret
      exact ⟨rfl, rfl⟩

set_option maxRecDepth 100000 in
set_option maxHeartbeats 1000000 in
theorem r8next_any {q n x : Nat} (xs : List Nat) (HXS : ElOf x xs) (f : Int) (w : World) (h : Rset8 w q n x) (hok : SetOk n x) :
    Calls Tryz.prog 122 #[.pointer (some ⟨q, 8, none⟩), .int .i64 f] w fun e w' => e = .returned (.tuple #[.int .i64 (nextI xs f), .bool (nextB xs)]) ∧ w' = w := by
  have HH := toHid h
  have HX := toHid HXS
  have HOK := toHid hok
  have c0 := h.n8
  have hn := hok.n1
  clear h HXS hok
  obtain ⟨vi, hvi⟩ : ∃ vi, nextI xs f = vi := ⟨_, rfl⟩
  obtain ⟨vb, hvb⟩ : ∃ vb, nextB xs = vb := ⟨_, rfl⟩
  rw [hvi, hvb]
  have HVI := toHid hvi
  have HVB := toHid hvb
  clear hvi hvb
  go_enter Tryz.func122, Tryz.ntmps122
  go_wp2_with fail
  go_loop [6] (fun i => ∃ v : Int, i = .int .i64 v ∧ f ≤ v ∧ (v = f ∨ (0 ≤ f ∧ v ≤ (n : Int))) ∧ ∀ j : Nat, f ≤ (j : Int) → (j : Int) < v → x.testBit j = false) (fun i => 64 - (intOf i).toNat)
  case atStart => exact ⟨f, rfl, Int.le_refl _, .inl rfl, fun j h1 h2 => by omega⟩
  case round =>
    obtain ⟨v, rfl, hfv, hor, hall⟩ := hrel
    have HA := toHid hall
    have hmy := r8may_any v w HH.out
    clear hall
    cases hm : mayB n v with
    | true =>
      rw [hm] at hmy
      obtain ⟨k, rfl, hk⟩ := may_nat hm
      obtain ⟨c1, _⟩ := HH.out.bit k (by omega)
      have i0 : (0 : Int) ≤ (k : Int) := by omega
      have i1 : (k : Int) < 64 := by omega
      cases hb : x.testBit k with
      | true =>
        rw [hb] at c1
        obtain ⟨e1, e2⟩ := nextI_at HX.out (by omega) hb hfv (fun j h1 h2 => HA.out j h1 (by omega))
        have e3 : vi = (k : Int) := HVI.out.symm.trans e1
        have e4 : vb = true := HVB.out.symm.trans e2
        subst e3 e4
        clear hb e1 e2 HVI HVB
        go_wp2_with fail
        refine hmy.mono ?_
        rintro e w' ⟨rfl, hw⟩
        have hw' := hw.symm
        subst hw'
        clear hw
        go_wp2
        go_ret2
        exact ⟨rfl, rfl⟩
      | false =>
        rw [hb] at c1
        have HA1 : Hid (∀ j : Nat, f ≤ (j : Int) → (j : Int) < (k : Int) + 1 → x.testBit j = false) := fun j h1 h2 => by
          by_cases e : j = k
          · subst e; exact hb
          · exact HA.out j h1 (by omega)
        clear hb HA
        go_wp2_with fail
        refine hmy.mono ?_
        rintro e w' ⟨rfl, hw⟩
        have hw' := hw.symm
        subst hw'
        clear hw
        go_wp2
        go_round
        case rel => exact ⟨(k : Int) + 1, by go_num, by omega, by omega, HA1.out⟩
        case measure => simp [intOf]; omega
    | false =>
      rw [hm] at hmy
      have HW : Hid (nextI xs f = ((xs.headD 0 : Nat) : Int)) := by
        refine nextI_round HX.out ?_
        by_cases hf0 : f < 0
        · exact .inl hf0
        · refine .inr (fun j h1 h2 => ?_)
          by_cases hj : (j : Int) < v
          · exact HA.out j h1 hj
          · have : n ≤ j := by
              unfold mayB at hm
              simp at hm
              have := hm (by omega)
              omega
            exact HOK.out.hi j this
      clear HA
      go_wp2_with fail
      refine hmy.mono ?_
      rintro e w' ⟨rfl, hw⟩
      have hw' := hw.symm
      subst hw'
      clear hw hm hmy
      go_wp2_with fail
      go_loop [7] (fun i => ∃ k : Nat, k ≤ n ∧ i = .int .i64 k ∧ ∀ j : Nat, j < k → x.testBit j = false) (fun i => 64 - (intOf i).toNat)
      case atStart => exact ⟨0, Nat.zero_le _, rfl, fun j hj => by omega⟩
      case round =>
        obtain ⟨k, hk, rfl, hall⟩ := hrel
        have HA := toHid hall
        clear hall
        by_cases hlt : k < n
        · obtain ⟨c1, _⟩ := HH.out.bit k (by omega)
          have i0 : (0 : Int) ≤ (k : Int) := by omega
          have i1 : (k : Int) < 64 := by omega
          have g1 : decide ((k : Int) < (n : Int)) = true := decide_eq_true (by omega)
          cases hb : x.testBit k with
          | true =>
            rw [hb] at c1
            obtain ⟨e1, e2⟩ := head_at HX.out (by omega) hb HA.out
            have e3 : vi = (k : Int) := HVI.out.symm.trans (HW.out.trans (by rw [e1]))
            have e4 : vb = true := HVB.out.symm.trans e2
            subst e3 e4
            clear hb e1 e2 HVI HVB HW
            go_wp2
            go_ret2
            exact ⟨rfl, rfl⟩
          | false =>
            rw [hb] at c1
            have HA1 : Hid (∀ j : Nat, j < k + 1 → x.testBit j = false) := fun j h2 => by
              by_cases e : j = k
              · subst e; exact hb
              · exact HA.out j (by omega)
            clear hb HA
            go_wp2
            go_round
            case rel => exact ⟨k + 1, by omega, by go_num, HA1.out⟩
            case measure => simp [intOf]; omega
        · have g1 : decide ((k : Int) < (n : Int)) = false := decide_eq_false (by omega)
          have e0 : xs = [] := none_at HX.out (fun j hj => by
            by_cases q : j < n
            · exact HA.out j (by omega)
            · exact HOK.out.hi j (by omega))
          have e3 : vi = 0 := HVI.out.symm.trans (HW.out.trans (by rw [e0]; rfl))
          have e4 : vb = false := HVB.out.symm.trans (by rw [e0]; rfl)
          subst e3 e4
          clear e0 HVI HVB HW HA
          go_wp2
          go_ret2
          exact ⟨rfl, rfl⟩

set_option maxRecDepth 100000 in
set_option maxHeartbeats 400000 in
theorem r8put_any {q n x : Nat} (i : Int) (b : Bool) (w : World) (h : Rset8 w q n x) (hn : n ≤ 64) :
    Calls Tryz.prog 124 #[.pointer (some ⟨q, 8, none⟩), .int .i64 i, .bool b] w fun e w' => e = .returned (.bool (putB n x i b)) ∧ w' = if putB n x i b = true then w.setCell ⟨q, 9 + i.toNat, none⟩ (.bool b) else w := by
  have h1 := r8may_any i w h
  cases hm : mayB n i with
  | false =>
    rw [hm] at h1
    have e1 : putB n x i b = false := by unfold putB; simp [hm]
    rw [e1, if_neg (by simp)]
    clear h
    go_enter Tryz.func124, Tryz.ntmps124
    go_wp2_with fail
    refine h1.mono ?_
    rintro e w' ⟨rfl, hw⟩
    have hw' := hw.symm
    subst hw'
    clear hw
    go_wp2
    go_ret
    exact ⟨rfl, rfl⟩
  | true =>
    obtain ⟨k, rfl, hk⟩ := may_nat hm
    rw [hm] at h1
    obtain ⟨c1, fz⟩ := h.bit k (by omega)
    have i0 : (0 : Int) ≤ (k : Int) := by omega
    have i1 : (k : Int) < 64 := by omega
    have e0 : putB n x (k : Int) b = (x.testBit k != b) := by unfold putB hasB; rw [hm]; simp
    clear h
    generalize hbb : x.testBit k = bb at c1 e0
    cases hq : (bb != b) with
    | false =>
      have e1 : putB n x (k : Int) b = false := e0.trans hq
      have e3 : (bb == b) = true := by revert hq; cases bb <;> cases b <;> simp
      rw [e1, if_neg (by simp)]
      clear e0 e1 hq
      go_enter Tryz.func124, Tryz.ntmps124
      go_wp2_with fail
      refine h1.mono ?_
      rintro e w' ⟨rfl, hw⟩
      have hw' := hw.symm
      subst hw'
      clear hw
      go_wp2
      go_ret
      exact ⟨rfl, rfl⟩
    | true =>
      have e1 : putB n x (k : Int) b = true := e0.trans hq
      have e3 : (bb == b) = false := by revert hq; cases bb <;> cases b <;> simp
      rw [e1, if_pos rfl, show ((k : Int)).toNat = k from rfl]
      clear e0 e1 hq hbb
      go_enter Tryz.func124, Tryz.ntmps124
      go_wp2_with fail
      refine h1.mono ?_
      rintro e w' ⟨rfl, hw⟩
      have hw' := hw.symm
      subst hw'
      clear hw
      go_wp2
      go_ret
      exact ⟨rfl, rfl⟩

/- A block whose last three cells are a bucket's. -/
def Job75 (t : TypeId) (cur : Array Value) (w : World) (q : Nat) (r b l : Int) : Prop := w.heap[q]? = some (.cells (cur.setIfInBounds 77 (.int .i64 l)) t (0, 0)) ∧ cur.size = 78 ∧ cur[75]? = some (.int .i64 r) ∧ cur[76]? = some (.int .i64 b)

theorem Job75.cells {t : TypeId} {cur : Array Value} {w : World} {q : Nat} {r b l : Int} (h : Job75 t cur w q r b l) :
    w.cell? ⟨q, 75, none⟩ = some (.int .i64 r) ∧ w.cell? ⟨q, 76, none⟩ = some (.int .i64 b) ∧ w.cell? ⟨q, 77, none⟩ = some (.int .i64 l) ∧ w.frozen? ⟨q, 77, none⟩ = false := by
  obtain ⟨h1, h2, h3, h4⟩ := h
  refine ⟨?_, ?_, ?_, ?_⟩
  · simp [World.cell?, h1, h3]
  · simp [World.cell?, h1, h4]
  · simp [World.cell?, h1, h2]
  · simp [World.frozen?, h1]

theorem Job75.set {t : TypeId} {cur : Array Value} {w : World} {q : Nat} {r b l : Int} (h : Job75 t cur w q r b l) (l' : Int) : Job75 t cur (w.setCell ⟨q, 77, none⟩ (.int .i64 l')) q r b l' := by
  obtain ⟨h1, h2⟩ := h
  refine ⟨?_, h2⟩
  rw [heap_setCell_same w q 77 _ _ _ h1]
  simp
theorem Job75.drew {t : TypeId} {cur : Array Value} {w : World} {q : Nat} {r b l : Int} (h : Job75 t cur w q r b l) : Job75 t cur w.drew q r b l := h
theorem KeptJ.set {a w : World} {q : Nat} {u : Value} (h : Kept (fun k => k = q) a w) : Kept (fun k => k = q) a (w.setCell ⟨q, 77, none⟩ u) := Kept.setCell (S := fun k => k = q) h (p := ⟨q, 77, none⟩) (.inl rfl) _

set_option maxRecDepth 100000 in
set_option maxHeartbeats 1000000 in
theorem r75tick_any {t : TypeId} {cur : Array Value} {q : Nat} {r b l : Int} (n : Nat) (w : World) (h : Job75 t cur w q r b l) (hn : n ≤ 100000) (hr : 0 ≤ r ∧ r ≤ 1000) (hl : 0 ≤ l ∧ l ≤ b) (hb : b ≤ 1000) :
    Calls Tryz.prog 58 #[.pointer (some ⟨q, 75, none⟩), .int .i64 (n : Int)] w fun e w' => (∃ v, e = .returned v) ∧ Job75 t cur w' q r b (tickV r b l n) ∧ Kept (fun k => k = q) w w' := by
  have e0 : tickV r b l ((0 : Nat) : Int) = l := by unfold tickV; simp; omega
  have HH : Hid (Job75 t cur w q r b (tickV r b l ((0 : Nat) : Int))) := by rw [e0]; exact h
  clear h e0
  go_enter Tryz.func58, Tryz.ntmps58
  go_wp2_with fail
  go_loopw [4] (fun i wr => ∃ k : Nat, k ≤ n ∧ i = .int .i64 k ∧ Job75 t cur wr q r b (tickV r b l k) ∧ Kept (fun k => k = q) w wr) (fun i _ => n - (intOf i).toNat)
  case atStart => exact ⟨0, Nat.zero_le _, rfl, HH.out, Kept.refl _ _⟩
  case round =>
    clear HH
    obtain ⟨k, hk, rfl, h3, hkp⟩ := hrel
    have H3 : Hid (Job75 t cur wr q r b (tickV r b l k)) := h3
    have HK : Hid (Kept (fun k => k = q) w wr) := hkp
    have hin := tickV_in (r := r) (b := b) (l := l) (n := (k : Int)) hr.1 hl.1 (by omega) (by omega)
    have HE : Hid ((k : Int) = n ∨ b ≤ tickV r b l k ∨ r ≤ 0 → tickV r b l k = tickV r b l n) := tickV_end hr.1 (by omega)
    have HN : Hid (tickV r b l k < b → (if tickV r b l k + r < b then tickV r b l k + r else b) = tickV r b l ((k : Int) + 1)) := tickV_next
    obtain ⟨c0, c1, c2, fz⟩ := h3.cells
    clear h3 hkp
    generalize hv : tickV r b l k = v at H3 hin HE HN c2
    clear hv
    by_cases hlt : k < n
    · have g1 : decide ((k : Int) < (n : Int)) = true := decide_eq_true (by omega)
      by_cases hvb : v < b
      · have g2 : decide (v < b) = true := decide_eq_true hvb
        by_cases hr0 : 0 < r
        · have g3 : decide (0 < r) = true := decide_eq_true hr0
          have q1 : IntKind.i64.wrap (v + r) = v + r := IntWalk.i64_in _ (by omega)
          have HN' := toHid (HN.out hvb)
          clear HN HE
          by_cases h5 : v + r < b
          · rw [if_pos h5] at HN'
            as_aux_lemma =>
              go_wp2_with fail
              go_region
              go_wp2_with fail
              go_region
              go_wp2
              go_roundw
              case rel => exact ⟨k + 1, by omega, by go_num, by rw [show ((k + 1 : Nat) : Int) = (k : Int) + 1 by omega, ← HN'.out]; first | exact (H3.out.set _) | exact (H3.out.drew.set _).drew | (rw [show min b (v + r) = v + r by omega]; exact (H3.out.drew.set _).drew), by first | exact KeptJ.set HK.out | exact (KeptJ.set HK.out).drew | exact (KeptJ.set HK.out.drew).drew⟩
              case measure => simp [intOf]; omega
          · rw [if_neg h5] at HN'
            as_aux_lemma =>
              go_wp2_with fail
              go_region
              go_wp2_with fail
              go_region
              go_wp2
              go_roundw
              case rel => exact ⟨k + 1, by omega, by go_num, by rw [show ((k + 1 : Nat) : Int) = (k : Int) + 1 by omega, ← HN'.out]; first | exact (H3.out.set _) | exact (H3.out.drew.set _).drew | (rw [show min b (v + r) = b by omega]; exact (H3.out.drew.set _).drew), by first | exact KeptJ.set HK.out | exact (KeptJ.set HK.out).drew | exact (KeptJ.set HK.out.drew).drew⟩
              case measure => simp [intOf]; omega
        · have g3 : decide (0 < r) = false := decide_eq_false hr0
          have HV := toHid (HE.out (.inr (.inr (by omega))))
          clear HN HE
          as_aux_lemma =>
            go_wp2_with fail
            go_region
            go_wp2
            go_end0
            exact ⟨⟨_, rfl⟩, by rw [← HV.out]; exact H3.out, by first | exact HK.out | exact HK.out.drew⟩
      · have g2 : decide (v < b) = false := decide_eq_false hvb
        have HV := toHid (HE.out (.inr (.inl (by omega))))
        clear HN HE
        as_aux_lemma =>
          go_wp2_with fail
          go_region
          go_wp2
          go_end0
          exact ⟨⟨_, rfl⟩, by rw [← HV.out]; exact H3.out, by first | exact HK.out | exact HK.out.drew⟩
    · have g1 : decide ((k : Int) < (n : Int)) = false := decide_eq_false (by omega)
      have HV := toHid (HE.out (.inl (by omega)))
      clear HN HE
      as_aux_lemma =>
        go_wp2_with fail
        go_region
        go_wp2
        go_end0
        exact ⟨⟨_, rfl⟩, by rw [← HV.out]; exact H3.out, by first | exact HK.out | exact HK.out.drew⟩

set_option maxRecDepth 100000 in
set_option maxHeartbeats 400000 in
theorem r75take_any {t : TypeId} {cur : Array Value} {p : Nat} {r b l : Int} (n : Int) (w : World) (h : Job75 t cur w p r b l) (hl : 0 ≤ l ∧ l ≤ 1000) :
    Calls Tryz.prog 123 #[.pointer (some ⟨p, 75, none⟩), .int .i64 n] w fun e w' => e = .returned (.bool (inB n l)) ∧ Job75 t cur w' p r b (takeV l n) ∧ Kept (fun k => k = p) w w' := by
  have HH : Hid (Job75 t cur w p r b l) := h
  obtain ⟨c0, c1, c2, fz⟩ := h.cells
  clear h
  by_cases h1 : n < 0
  · have g1 : decide (n < 0) = true := decide_eq_true h1
    have hn : inB n l = false := by unfold inB; simp; omega
    have HV : Hid (takeV l n = l) := by unfold Hid takeV; simp [hn]
    rw [hn]
    go_enter Tryz.func123, Tryz.ntmps123
    go_wp2
    go_ret
    exact ⟨rfl, by rw [HV.out]; exact HH.out, Kept.refl _ w⟩
  · have g1 : decide (n < 0) = false := decide_eq_false h1
    by_cases h2 : l < n
    · have g2 : decide (l < n) = true := decide_eq_true h2
      have hn : inB n l = false := by unfold inB; simp; omega
      have HV : Hid (takeV l n = l) := by unfold Hid takeV; simp [hn]
      rw [hn]
      go_enter Tryz.func123, Tryz.ntmps123
      go_wp2
      go_ret
      exact ⟨rfl, by rw [HV.out]; exact HH.out, Kept.refl _ w⟩
    · have g2 : decide (l < n) = false := decide_eq_false h2
      have hn : inB n l = true := by unfold inB; simp; omega
      have HV : Hid (takeV l n = l - n) := by unfold Hid takeV; simp [hn]
      have e2 : IntKind.i64.wrap (l - n) = l - n := IntWalk.i64_in _ (by omega)
      rw [hn]
      go_enter Tryz.func123, Tryz.ntmps123
      go_wp2
      go_ret
      exact ⟨rfl, by rw [HV.out]; exact HH.out.set _, Kept.setCell (S := fun k => k = p) (Kept.refl _ w) (p := ⟨p, 77, none⟩) (.inl rfl) _⟩
end Go.Proofs.YtjegaljdindfaabGreatDoor.S4
