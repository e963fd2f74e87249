/-
What FormSays and FormReads lean on: a head that is written and read; a copy of a table with one more entry behind it; the boxes of the arguments.
-/
import Derived.Test.YtmallmchibdkgaaShapeSame
namespace Go.Proofs.Ytmallmchibdkgaa
open Go.RowKit
attribute [local go_sem ↓] Go.wp_at_zero Go.wp_at_succ

theorem rowF_nonneg (ts : List (Int × Int)) (row : Int) : 0 ≤ rowF ts row := by
  unfold rowF
  split
  · split <;> omega
  · omega

theorem KV.fault_nonneg (d : KV) : 0 ≤ d.fault := by
  unfold KV.fault
  split
  · split <;> omega
  · omega

theorem headF_nonneg (s : ByteArray) : 0 ≤ headF s := by
  unfold headF
  split
  · split <;> omega
  · next h => have := sealF_pos h; omega

theorem deskF_nonneg (s : ByteArray) : 0 ≤ deskF s := by
  unfold deskF
  split
  · split <;> omega
  · next h => have := sealF_pos h; omega

/- A head that was written is read. -/
theorem readHead_text (c p b : Int) (w : World) (hk : HV.ok ⟨c, p, b⟩ = true) (X : ByteArray) (hX : X = sealS [83, 89, c, p, b + 1]) :
    Calls Try.prog 40 #[.string X] w fun e w' => e = .returned (.tuple #[.agg #[.int .i64 c, .int .i64 p, .int .i64 b], .nilIface]) ∧ Below w.heap.size w w' := by
  have h := readHead_any X w
  have e := headOf_seal ⟨c, p, b⟩ hk
  have e1 : headOf X = ⟨c, p, b⟩ := by rw [hX]; exact e.1
  have e2 : headF X = 0 := by rw [hX]; exact e.2
  rw [e1, e2, erV_0] at h
  exact h

theorem readDesk_text (r k f a u : Int) (w : World) (hk : KV.fault ⟨r, k, f, a, u⟩ = 0) (X : ByteArray) (hX : X = sealS [68, 75, r, k, f + 1, a % 256, a / 256, u % 256, u / 256]) :
    Calls Try.prog 50 #[.string X] w fun e w' => e = .returned (.tuple #[.agg #[.int .i64 r, .int .i64 k, .int .i64 f, .int .i64 a, .int .i64 u], .nilIface]) ∧ Below w.heap.size w w' := by
  have h := readDesk_any X w
  have e := deskOf_seal ⟨r, k, f, a, u⟩ hk
  have e1 : deskOf X = ⟨r, k, f, a, u⟩ := by rw [hX]; exact e.1
  have e2 : deskF X = 0 := by rw [hX]; exact e.2
  rw [e1, e2, erV_0] at h
  exact h

/- A box that was just made, behind calls that turn nothing old. -/
theorem new_cell {w w2 : World} {C : Array Value} {t : TypeId} (hb : Below (w.alloc (.cells C t)).heap.size (w.alloc (.cells C t)) w2) (i : Nat) (v : Value) (hv : C[i]? = some v) : w2.cell? ⟨w.heap.size, i, none⟩ = some v := by
  rw [hb.cell (by simp), cell_of_row _ _ _ _ _ _ (heap_alloc_new w _)]; exact hv

set_option maxRecDepth 100000 in
set_option maxHeartbeats 1000000 in
theorem heads_any (w : World) : Calls Try.prog 36 #[] w fun e w' => e = .returned (.bool true) ∧ Below w.heap.size w w' := by
  obtain ⟨X, hX⟩ : ∃ X : ByteArray, X = sealS [83, 89, 3, 4, -1 + 1] := ⟨_, rfl⟩
  have HH : Hid (∀ W : World, Calls Try.prog 38 #[.agg #[.int .i64 3, .int .i64 4, .int .i64 (-1)]] W fun e w' => e = .returned (.tuple #[.string X, .nilIface]) ∧ Below W.heap.size W w') := fun W => by rw [hX]; exact head_yes 3 4 (-1) W (by decide)
  have HR : Hid (∀ W : World, Calls Try.prog 40 #[.string X] W fun e w' => e = .returned (.tuple #[.agg #[.int .i64 3, .int .i64 4, .int .i64 (-1)], .nilIface]) ∧ Below W.heap.size W w') := fun W => readHead_text 3 4 (-1) W (by decide) X hX
  have HS : Hid (∀ W : World, Calls Try.prog 19 #[.nilIface, .int .i64 0] W fun e w' => e = .returned (.bool true) ∧ w' = W) := fun W => errSame_nil 0 W
  clear hX
  go_enter Try.func36, Try.ntmps36
  go_wp2_with fail
  refine (HH.out _).mono ?_
  rintro e w1 ⟨rfl, hb1⟩
  go_wp2_with fail
  refine (HR.out _).mono ?_
  rintro e w2 ⟨rfl, hb2⟩
  go_wp2_with (go_at_call 19; refine (HS.out _).mono ?_; rintro e w' ⟨rfl, hw⟩; have hw' := hw.symm; subst hw'; clear hw)
  go_ret
  exact ⟨rfl, (hb1.trans (hb2.mono hb1.size)).alloc (Nat.le_trans hb1.size hb2.size) _⟩

theorem step_append {P : Program} {w w' : World} {ops : Array Oper} {rest : List Oper} {o : Oper} {a : Act} {Q : Exit → Act → World → Prop} (hgd : o.guard = none) (s x : Operand) (t ty : TypeId)
    (ho : o.op = .call { callee := .builtin .append, args := #[s, x], argTypes := #[t, t] }) (hty : o.type = ty) {v xv v' : Value} (hs : a.eval s = v) (hx : a.eval x = xv)
    (hr : (Builtin.append_ #[t, t] ty #[v, xv]).run P w = .ok v' w') (h : wpList P ops Q rest (a.put o.dst v') w') : wpList P ops Q (o :: rest) a w := by
  refine wpList_plain hgd fun K hK => ?_
  unfold Oper.wp execOp
  simp only [ho, resolve, invoke, builtin, Sem.run_bind, Sem.run_pure, Result.andThen_ok, List.map_toArray, List.map_cons, List.map_nil, hs, hx, hty, hr]
  exact hK _ _ h

theorem own_ents (ws : World) (la : Option Addr) (len cap : Nat) (ts : List (Int × Int)) (hT : Ents ws la len ts) (hnil : la = none → cap = 0) (h50 : len ≤ 50) :
    ∃ v1 w1 g cap2 w2, (Builtin.append_ #[68, 68] 68 #[.slice none 0 0, .slice la len cap]).run Try.prog ws = .ok v1 w1 ∧
      (Builtin.append_ #[68, 68] 68 #[v1, .slice (some ⟨w1.heap.size, 0, none⟩) 1 1]).run Try.prog (w1.alloc (.cells #[.int .i64 77, .int .i64 0] 78)) = .ok (.slice (some ⟨g, 0, none⟩) (len + 1) cap2) w2 ∧
      Below ws.heap.size ws w2 ∧ len + 1 ≤ cap2 ∧ cap2 ≤ maxLen ∧ Ents w2 (some ⟨g, 0, none⟩) len ts := by
  obtain ⟨i0, hi, hz0, hz1, hz2⟩ := info_parts info_ent
  have hlen := hT.1
  have h1 : ∃ v1 w1, (Builtin.append_ #[68, 68] 68 #[.slice none 0 0, .slice la len cap]).run Try.prog ws = .ok v1 w1 ∧ w1.ownsRow ws.heap.size 78 2 v1 len (entV ts) ∧ ws.grownBy w1 none := by
    cases la with
    | none =>
      have hl0 : len = 0 := by
        by_cases h : 0 < len
        · obtain ⟨b, off, e, _⟩ := hT.2 0 h
          cases e
        · omega
      subst hl0
      have : ts = [] := List.length_eq_zero_iff.1 hlen
      subst this
      rw [hnil rfl]
      exact ⟨_, _, run_append_owned_none (P := Try.prog) ws ws.heap.size 68 68 78 i0 2 Try.underlying68 hi _ 0 [] (World.ownsRow_nil _ _ _ _), World.ownsRow_nil _ _ _ _, ⟨rfl, rfl, rfl, Nat.le_refl _, fun _ _ _ => rfl⟩⟩
    | some a =>
      by_cases hp : 0 < len
      · obtain ⟨b, off, e, _⟩ := hT.2 0 hp
        cases e
        obtain ⟨v1, w1, hr, ho, hg, _⟩ := run_append_own (P := Try.prog) ws ws.heap.size 68 68 78 i0 (.agg #[.int .i64 0, .int .i64 0]) 2 16 Try.underlying68 hi hz0 hz1 hz2 rfl (by decide) (.slice none 0 0) 0 [] (World.ownsRow_nil _ _ _ _) ⟨b, off, none⟩ len cap (entV ts) (by rw [entV_len, hlen]) hT.src (entV_one ts) (by unfold maxLen; omega) (by omega) (Nat.le_refl _)
        exact ⟨v1, w1, hr, by simpa using ho, hg⟩
      · have hl0 : len = 0 := by omega
        subst hl0
        have : ts = [] := List.length_eq_zero_iff.1 hlen
        subst this
        obtain ⟨v1, w1, hr, ho, hg, _⟩ := run_append_own (P := Try.prog) ws ws.heap.size 68 68 78 i0 (.agg #[.int .i64 0, .int .i64 0]) 2 16 Try.underlying68 hi hz0 hz1 hz2 rfl (by decide) (.slice none 0 0) 0 [] (World.ownsRow_nil _ _ _ _) a 0 cap [] rfl (fun j u hj => by simp at hj) (fun u hu => by simp at hu) (by unfold maxLen; omega) (by omega) (Nat.le_refl _)
        exact ⟨v1, w1, hr, by simpa [entV] using ho, hg⟩
  obtain ⟨v1, w1, hr1, ho1, hg1⟩ := h1
  obtain ⟨v2, w2, hr2, ho2, hg2, hn2⟩ := run_append_own (P := Try.prog) (w1.alloc (.cells #[.int .i64 77, .int .i64 0] 78)) ws.heap.size 68 68 78 i0 (.agg #[.int .i64 0, .int .i64 0]) 2 16 Try.underlying68 hi hz0 hz1 hz2 rfl (by decide) v1 len (entV ts) (ho1.alloc _) ⟨w1.heap.size, 0, none⟩ 1 1 [.int .i64 77, .int .i64 0] rfl (two_news _ _ _ _) (fun u hu => by simp at hu; rcases hu with rfl | rfl <;> rfl) (by unfold maxLen; omega) (by omega) (by have := hg1.size; simp; omega)
  have hb1 : Below ws.heap.size ws w1 := (Below.refl _ _).grown hg1 (Nat.le_refl _) (fun k e => by cases e)
  have hb2 : Below ws.heap.size ws w2 := (hb1.alloc hg1.size _).grown hg2 (by have := hg1.size; simp; omega) (fun k e => (ho1.lt k e).1)
  rcases ho2.2 with ⟨_, h0⟩ | ⟨g, cap2, cur, hv, hbg, hh, hnc, hcm, hcs, htk⟩
  · omega
  · subst hv
    refine ⟨v1, w1, g, cap2, w2, hr1, hr2, hb2, hnc, hcm, ents_of_owns ho2 len ?_ (by omega) hlen⟩
    rw [List.take_append_of_le_length (by rw [entV_len]; omega), List.take_of_length_le (by rw [entV_len]; omega)]
end Go.Proofs.Ytmallmchibdkgaa
