/-
What DevSays' rounds lean on: the act in a block of its own, one write by either device, what a round leaves.
-/
import Derived.Test.YtmallmchibdkgaaDevSays0
import Derived.Laws.AppendOwnNone
namespace Go.Proofs.Ytmallmchibdkgaa
open Go.RowKit
attribute [local go_sem ↓] Go.wp_at_zero Go.wp_at_succ

theorem size_act : (Try.prog.info? 47).map (·.size) = some 7 := by kernel_rfl
theorem act_one (x : ActV) : ∀ v ∈ x.cells.toArray.toList, v.oneCell' = true := by
  intro v hv
  simp only [ActV.cells, List.mem_cons, List.not_mem_nil, or_false] at hv
  rcases hv with rfl | rfl | rfl | rfl | rfl | rfl | rfl <;> rfl

/- The round's own act, laid in a block of its own beside the two devices. -/
structure Boxed (w wr W : World) (h : Hd) (q : Rh) (d : DV) (x : ActV) (N : Nat) : Prop where
  cs : W.cell? ⟨N, 0, none⟩ = some (.string x.kind) ∧ W.cell? ⟨N, 1, none⟩ = some (.int .i64 x.a) ∧ W.cell? ⟨N, 5, none⟩ = some (.string x.s) ∧ W.cell? ⟨N, 6, none⟩ = some (.slice x.ka x.kl x.kc)
  bel : Below w.heap.size w W
  hd : IsDev w.heap.size W h d
  hr : IsRef w.heap.size W q d
  n1 : ∀ k, h.fp k → k ≠ N
  n2 : ∀ k, q.fp k → k ≠ N
  n3 : w.heap.size ≤ N
  n4 : N < W.heap.size
  up : Below wr.heap.size wr W

theorem boxed {w wr : World} {h : Hd} {q : Rh} {d : DV} (x : ActV) (hd : IsDev w.heap.size wr h d) (hr : IsRef w.heap.size wr q d) (hb : Below w.heap.size w wr) :
    Boxed w wr (wr.alloc (.cells x.cells.toArray 47)) h q d x wr.heap.size := by
  have hup : Below wr.heap.size wr (wr.alloc (.cells x.cells.toArray 47)) := (Below.refl _ _).alloc (Nat.le_refl _) _
  have hblk := heap_alloc_new wr (.cells x.cells.toArray 47)
  refine ⟨⟨?_, ?_, ?_, ?_⟩, hb.trans (hup.mono hb.size), hd.keep (fun k hk => hup.block k (hd.lt k hk).2), hr.keep (fun k hk => hup.block k (hr.lt k hk).2), fun k hk => Nat.ne_of_lt (hd.lt k hk).2, fun k hk => Nat.ne_of_lt (hr.lt k hk).2, hb.size, lt_of_some hblk, hup⟩ <;> (rw [cell_of_row _ _ _ _ _ _ hblk]; rfl)

/- What a round leaves. -/
def Left (w : World) (n k : Nat) (vd vm : Value) (wx : World) : Prop :=
  ∃ (h : Hd) (q : Rh) (d : DV), vd = .pointer (some ⟨h.p, 0, none⟩) ∧ vm = .pointer (some ⟨q.p, 0, none⟩) ∧
    IsDev w.heap.size wx h d ∧ IsRef w.heap.size wx q d ∧ d.sn ∧ d.wr ≤ k ∧ d.fl.length = n ∧ Below w.heap.size w wx

/- A cell of another block. -/
theorem Kept.cell {S : Nat → Prop} {a b : World} (h : Kept S a b) {N j : Nat} (hN : N < a.heap.size) (hS : ¬ S N) : b.cell? ⟨N, j, none⟩ = a.cell? ⟨N, j, none⟩ := by
  unfold World.cell?
  rw [h.block N hN hS]

/- Two worlds that part in what they drew alone. -/
structure Same (a b : World) : Prop where
  heap : b.heap = a.heap
  os : b.os = a.os
  tape : b.tape = a.tape
  output : b.output = a.output

theorem Same.kept {S : Nat → Prop} {a b : World} (h : Same a b) : Kept S a b := ⟨h.os, h.tape, h.output, by rw [h.heap]; exact Nat.le_refl _, fun k _ _ => by rw [h.heap]⟩

/- One write, as the document has it. -/
def DV.doWrite (d : DV) (at_ : Int) (s : ByteArray) : DV × Int :=
  if d.has at_ = false ∨ s.size ≠ 16 then (d, 1) else if d.fail = 0 then (d.failing (-1), 7) else (d.ticked.wrote at_.toNat s.data.toList, 0)

def errV (f : Int) : Value := if f = 0 then .nilIface else .iface 102 (.int .i64 f)

theorem doWrite_sn {d : DV} (h : d.sn) (at_ : Int) (s : ByteArray) : (d.doWrite at_ s).1.sn := by
  unfold DV.doWrite
  split
  · exact h
  · split
    · exact failing_sn h _
    · exact wrote_sn (ticked_sn h) _ _
theorem doWrite_wr (d : DV) (at_ : Int) (s : ByteArray) : (d.doWrite at_ s).1.wr ≤ d.wr + 1 := by
  unfold DV.doWrite
  split
  · exact Nat.le_succ _
  · split
    · exact Nat.le_succ _
    · show d.ticked.wr + 1 ≤ _
      rw [DV.ticked_wr]; exact Nat.le_refl _
theorem doWrite_fl (d : DV) (at_ : Int) (s : ByteArray) : (d.doWrite at_ s).1.fl = d.fl := by
  unfold DV.doWrite
  split
  · rfl
  · split
    · rfl
    · show d.ticked.fl = _
      rw [DV.ticked_fl]
theorem doWrite_f (d : DV) (at_ : Int) (s : ByteArray) : 0 ≤ (d.doWrite at_ s).2 := by
  unfold DV.doWrite
  split
  · show (0 : Int) ≤ 1; decide
  · split
    · show (0 : Int) ≤ 7; decide
    · show (0 : Int) ≤ 0; decide

theorem has_nat {d : DV} {at_ : Int} (h : ¬ (d.has at_ = false)) : at_ = (at_.toNat : Int) ∧ at_.toNat < d.fl.length := by
  unfold DV.has at h
  simp only [decide_eq_false_iff_not, Classical.not_not] at h
  omega

theorem write_all {B : Nat} {h : Hd} {d : DV} (at_ : Int) (s : ByteArray) (w : World) (hd : IsDev B w h d) (hB : B ≤ w.heap.size) (hw : d.wr < 1000000000) :
    Calls Try.prog 24 #[.pointer (some ⟨h.p, 0, none⟩), .int .i64 at_, .string s] w fun e w' =>
      ∃ v : Value, e = .returned (errV (d.doWrite at_ s).2) ∧ IsDev B w' { h with v2 := v } (d.doWrite at_ s).1 ∧ Kept h.fp w w' ∧ ∀ k, v.ownBlock = some k → h.v2.ownBlock = some k ∨ w.heap.size ≤ k := by
  unfold DV.doWrite
  by_cases h1 : d.has at_ = false ∨ s.size ≠ 16
  · rw [if_pos h1]
    refine (write_bound at_ s w hd h1).mono ?_
    rintro e w' ⟨rfl, rfl⟩
    exact ⟨h.v2, rfl, hd, Kept.refl _ _, fun k e => .inl e⟩
  · rw [if_neg h1]
    have h2 : ¬ (d.has at_ = false) := fun e => h1 (.inl e)
    have h3 : s.size = 16 := Classical.byContradiction fun e => h1 (.inr e)
    by_cases h4 : d.fail = 0
    · rw [if_pos h4]
      refine (write_io at_ s w hd h3 (by simpa using h2) h4).mono ?_
      rintro e w' ⟨rfl, hd', hk⟩
      exact ⟨h.v2, rfl, hd', hk, fun k e => .inl e⟩
    · rw [if_neg h4]
      obtain ⟨e1, e2⟩ := has_nat h2
      have := write_ok at_.toNat s w hd hB h3 e2 hw h4
      rw [← e1] at this
      refine this.mono ?_
      rintro e w' ⟨v, rfl, hd', hk, hv⟩
      exact ⟨v, rfl, hd', hk, hv⟩

theorem refWrite_all {B : Nat} {q : Rh} {d : DV} (at_ : Int) (s : ByteArray) (w : World) (hd : IsRef B w q d) (hok : d.ok) (hB : B ≤ w.heap.size) (hw : d.wr < 1000000000) :
    Calls Try.prog 25 #[.pointer (some ⟨q.p, 0, none⟩), .int .i64 at_, .string s] w fun e w' =>
      ∃ q' : Rh, e = .returned (.int .i64 (d.doWrite at_ s).2) ∧ q'.p = q.p ∧ IsRef B w' q' (d.doWrite at_ s).1 ∧ Kept q.fp w w' := by
  unfold DV.doWrite
  by_cases h1 : d.has at_ = false ∨ s.size ≠ 16
  · rw [if_pos h1]
    refine (refWrite_bound at_ s w hd h1).mono ?_
    rintro e w' ⟨rfl, rfl⟩
    exact ⟨q, rfl, rfl, hd, Kept.refl _ _⟩
  · rw [if_neg h1]
    have h2 : ¬ (d.has at_ = false) := fun e => h1 (.inl e)
    have h3 : s.size = 16 := Classical.byContradiction fun e => h1 (.inr e)
    obtain ⟨e1, e2⟩ := has_nat h2
    by_cases h4 : d.fail = 0
    · rw [if_pos h4]
      have := refWrite_io at_.toNat s w hd h3 e2 h4
      rw [← e1] at this
      refine this.mono ?_
      rintro e w' ⟨rfl, hd', hk⟩
      exact ⟨q, rfl, rfl, hd', hk⟩
    · rw [if_neg h4]
      have := refWrite_ok at_.toNat s w hd hB h3 e2 h4 hok.f1 hok.f2 hok.few hw
      rw [← e1] at this
      refine this.mono ?_
      rintro e w' ⟨q', rfl, hp, hd', hk⟩
      exact ⟨q', rfl, hp, hd', hk⟩

theorem same_all (f : Int) (w : World) (h : 0 ≤ f) : Calls Try.prog 19 #[errV f, .int .i64 f] w fun e w' => e = .returned (.bool true) ∧ w' = w := by
  unfold errV
  by_cases e : f = 0
  · rw [if_pos e]
    refine (same_nil f w).mono ?_
    rintro e' w' ⟨rfl, rfl⟩
    refine ⟨?_, rfl⟩
    rw [e]; rfl
  · rw [if_neg e]
    exact same_err f w (by omega)

/- The flags of a crash, copied ahead of it. -/
theorem info_bool : (Try.prog.info? 4).map (fun i => (i.zero, i.size, i.bytes)) = some (some (.bool false), 1, 1) := by kernel_rfl

theorem keep_run (W : World) (ka : Option Addr) (kl kc : Nat) (ks : List Bool) (hK : Bools W ka kl ks) (hn : ka = none → kc = 0) (h3 : kl ≤ 300) :
    ∃ a1 c1 W1, (Builtin.append_ #[45, 45] 45 #[.slice none 0 0, .slice ka kl kc]).run Try.prog W = .ok (.slice a1 kl c1) W1 ∧ Bools W1 a1 kl ks ∧ Below W.heap.size W W1 := by
  obtain ⟨i0, hi, hz0, hz1, hz2⟩ := info_parts info_bool
  have hlen := hK.1
  cases ka with
  | none =>
    have hl0 : kl = 0 := by
      by_cases h : 0 < kl
      · obtain ⟨b, off, e, _⟩ := hK.2 0 h
        cases e
      · omega
    subst hl0
    rw [hn rfl]
    exact ⟨none, 0, W, run_append_owned_none (P := Try.prog) W W.heap.size 45 45 4 i0 1 Try.underlying45 hi _ 0 [] (World.ownsRow_nil _ _ _ _), hK, Below.refl _ _⟩
  | some a =>
    obtain ⟨v1, w1, hr, ho, hg, _⟩ := run_append_own (P := Try.prog) W W.heap.size 45 45 4 i0 (.bool false) 1 1 Try.underlying45 hi hz0 hz1 hz2 rfl (by decide) (.slice none 0 0) 0 [] (World.ownsRow_nil _ _ _ _) a kl kc (ks.map .bool) (by simp [hlen]) (fun j u hj => by
      have hjl : j < ks.length := by
        rcases Nat.lt_or_ge j ks.length with h | h
        · exact h
        · simp [List.getElem?_eq_none (show (ks.map Value.bool).length ≤ j by simpa using h)] at hj
      obtain ⟨b, off, e, hc⟩ := hK.2 j (by omega)
      cases e
      rw [Go.WideShapes.add_plain, hc]
      simp [List.getElem?_eq_getElem hjl] at hj
      subst hj
      simp [List.getD, List.getElem?_eq_getElem hjl]) (fun u hu => by
      obtain ⟨s, _, rfl⟩ := List.mem_map.1 hu
      rfl) (by unfold maxLen; omega) (by omega) (Nat.le_refl _)
    have ho' : w1.ownsRow W.heap.size 4 1 v1 kl (ks.map .bool) := by simpa using ho
    obtain ⟨a1, c1, rfl⟩ := ownsRow_shape ho'
    refine ⟨a1, c1, w1, hr, ⟨hlen, fun j hj => ?_⟩, (Below.refl _ _).grown hg (Nat.le_refl _) (fun k e => by cases e)⟩
    obtain ⟨g, cap, hv, hc, _⟩ := ownsRow_cell ho' j hj
    cases hv
    refine ⟨g, 0, rfl, ?_⟩
    rw [Nat.zero_add, hc]
    have hjl : j < ks.length := by omega
    simp [List.getD, List.getElem?_eq_getElem hjl]

theorem wpList_append_run {P : Program} {w w' : World} {ops : Array Oper} {rest : List Oper} {o : Oper} {a : Act} {Q : Exit → Act → World → Prop} (hgd : o.guard = none) (s x : Operand) (t ty : TypeId)
    (ho : o.op = .call { callee := .builtin .append, args := #[s, x], argTypes := #[t, t] }) (hty : o.type = ty) {v xv v' : Value} (hs : a.eval s = v) (hx : a.eval x = xv)
    (hr : (Builtin.append_ #[t, t] ty #[v, xv]).run P w = .ok v' w') (h : wpList P ops Q rest (a.put o.dst v') w') : wpList P ops Q (o :: rest) a w := by
  refine wpList_plain hgd fun K hK => ?_
  unfold Oper.wp execOp
  simp only [ho, resolve, invoke, builtin, Sem.run_bind, Sem.run_pure, Result.andThen_ok, List.map_toArray, List.map_cons, List.map_nil, hs, hx, hty, hr]
  exact hK _ _ h
end Go.Proofs.Ytmallmchibdkgaa
