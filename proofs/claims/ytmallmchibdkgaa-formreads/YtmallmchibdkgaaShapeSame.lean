/-
Two tables held against each other; an error, told by its number; a list of entries with one more behind it.
-/
import Derived.Test.YtmallmchibdkgaaShapeRow2
import Derived.Laws.AppendOwnNone
namespace Go.Proofs.Ytmallmchibdkgaa
open Go.RowKit
attribute [local go_sem ↓] Go.wp_at_zero Go.wp_at_succ

set_option maxRecDepth 100000 in
set_option maxHeartbeats 400000 in
theorem errSame_nil (f : Int) (w : World) : Calls Try.prog 19 #[.nilIface, .int .i64 f] w fun e w' => e = .returned (.bool (f == 0)) ∧ w' = w := by
  go_enter Try.func19, Try.ntmps19
  go_wp2
  go_ret
  exact ⟨rfl, rfl⟩

set_option maxRecDepth 100000 in
set_option maxHeartbeats 400000 in
theorem errSame_err (n : Int) (w : World) (h0 : 0 < n) : Calls Try.prog 19 #[.iface 102 (.int .i64 n), .int .i64 n] w fun e w' => e = .returned (.bool true) ∧ w' = w := by
  have hta : ∀ w : World, (Instr.typeAssert (.iface 102 (.int .i64 n)) 36 102 true).run Try.prog w = .ok (.tuple #[.int .i64 n, .bool true]) w := fun _ => by kernel_rfl
  go_enter Try.func19, Try.ntmps19
  go_wp2
  go_ret
  exact ⟨rfl, rfl⟩

theorem errSame (f : Int) (w : World) (h : 0 ≤ f) : Calls Try.prog 19 #[erV f, .int .i64 f] w fun e w' => e = .returned (.bool true) ∧ w' = w := by
  by_cases h0 : f = 0
  · subst h0
    rw [erV_0]
    exact errSame_nil 0 w
  · have e : erV f = .iface 102 (.int .i64 f) := by unfold erV; rw [if_neg h0]
    rw [e]
    exact errSame_err f w (by omega)

set_option maxRecDepth 100000 in
set_option maxHeartbeats 400000 in
theorem sameTable_any (la lb : Option Addr) (len cap cap' : Nat) (ts : List (Int × Int)) (w : World) (ha : Ents w la len ts) (hb : Ents w lb len ts) (hn : len ≤ 50) :
    Calls Try.prog 44 #[.slice la len cap, .slice lb len cap'] w fun e w' => e = .returned (.bool true) ∧ Below w.heap.size w w' := by
  have HT := toHid ha
  have HC := toHid hb
  clear ha hb
  go_enter Try.func44, Try.ntmps44
  go_wp2
  go_loopw [5] (fun i wr => ∃ k : Nat, k ≤ len ∧ i = .int .i64 k ∧ Below w.heap.size w wr) (fun i _ => len - (intOf i).toNat)
  case atStart => exact ⟨0, Nat.zero_le _, rfl, Below.refl _ _⟩
  case round =>
    obtain ⟨k, hk, rfl, hbel⟩ := hrel
    by_cases hlt : k < len
    · obtain ⟨b, off, rfl, h1, h2⟩ := HT.out.2 k hlt
      obtain ⟨b', off', rfl, h3, h4⟩ := HC.out.2 k hlt
      rw [← hbel.cell (World.block_lt_of_cell? w _ h1)] at h1
      rw [← hbel.cell (World.block_lt_of_cell? w _ h2)] at h2
      rw [← hbel.cell (World.block_lt_of_cell? w _ h3)] at h3
      rw [← hbel.cell (World.block_lt_of_cell? w _ h4)] at h4
      generalize (ts.getD k (0, 0)).1 = x at h1 h3
      generalize (ts.getD k (0, 0)).2 = y at h2 h4
      have j0 : (0 : Int) ≤ (k : Int) := by omega
      have j1 : (k : Int) < (len : Int) := by omega
      go_wp2
      go_quiet (fail)
      go_wp2
      go_roundw
      case rel =>
        have fin : ∃ k1 : Nat, k1 ≤ len ∧ Value.int .i64 ((k : Int) + 1) = .int .i64 k1 ∧ Below w.heap.size w (wr.drewN nq) := ⟨k + 1, by omega, by go_num, below_drewN hbel _⟩
        first | exact fin | ((repeat apply Exists.intro); exact ⟨fin, rfl⟩)
      case measure => simp [intOf]; omega
    · go_wp2
      go_ret
      exact ⟨rfl, hbel⟩

def entV (ts : List (Int × Int)) : List Value := ts.flatMap fun e => [.int .i64 e.1, .int .i64 e.2]

theorem entV_len (ts : List (Int × Int)) : (entV ts).length = ts.length * 2 := by
  induction ts with
  | nil => rfl
  | cons e ts ih => simp only [entV, List.flatMap_cons, List.length_append, List.length_cons, List.length_nil] at ih ⊢; omega

theorem entV_one (ts : List (Int × Int)) : ∀ u ∈ entV ts, u.oneCell' = true := by
  intro u hu
  obtain ⟨e, _, h⟩ := List.mem_flatMap.1 hu
  simp at h
  rcases h with rfl | rfl <;> rfl

theorem entV_at (ts : List (Int × Int)) (k : Nat) (hk : k < ts.length) : (entV ts)[k * 2]? = some (.int .i64 (ts.getD k (0, 0)).1) ∧ (entV ts)[k * 2 + 1]? = some (.int .i64 (ts.getD k (0, 0)).2) := by
  induction ts generalizing k with
  | nil => simp at hk
  | cons e ts ih =>
    cases k with
    | zero => exact ⟨rfl, rfl⟩
    | succ k =>
      have h := ih k (by simpa using hk)
      have e1 : entV (e :: ts) = [.int .i64 e.1, .int .i64 e.2] ++ entV ts := rfl
      rw [e1, show (k + 1) * 2 = 2 + k * 2 by omega, show 2 + k * 2 + 1 = 2 + (k * 2 + 1) by omega, List.getElem?_append_right (by simp), List.getElem?_append_right (by simp)]
      simpa [show 2 + k * 2 - 2 = k * 2 by omega, show 2 + (k * 2 + 1) - 2 = k * 2 + 1 by omega] using h

theorem info_ent : (Try.prog.info? 78).map (fun i => (i.zero, i.size, i.bytes)) = some (some (.agg #[.int .i64 0, .int .i64 0]), 2, 16) := by kernel_rfl

/- The cells of a table that lies somewhere, as one list. -/
theorem Ents.src {w : World} {b off len : Nat} {ts : List (Int × Int)} (h : Ents w (some ⟨b, off, none⟩) len ts) : ∀ j u, (entV ts)[j]? = some u → w.cell? ((⟨b, off, none⟩ : Addr).add j) = some u := by
  intro j u hj
  have hjl : j < ts.length * 2 := by
    rcases Nat.lt_or_ge j (ts.length * 2) with h1 | h1
    · exact h1
    · rw [List.getElem?_eq_none (by rw [entV_len]; exact h1)] at hj; cases hj
  obtain ⟨b', off', e, h1, h2⟩ := h.2 (j / 2) (by rw [← h.1]; omega)
  cases e
  have ha := entV_at ts (j / 2) (by omega)
  rw [Go.WideShapes.add_plain]
  by_cases e2 : j % 2 = 0
  · have ej : j = j / 2 * 2 := by omega
    rw [ej] at hj ⊢
    rw [ha.1] at hj
    rw [h1]; exact hj
  · have ej : j = j / 2 * 2 + 1 := by omega
    rw [ej] at hj ⊢
    rw [ha.2] at hj
    rw [← Nat.add_assoc, h2]; exact hj

/- A row of entries that the call owns, read as a table. -/
theorem ents_of_owns {w : World} {B g n cap : Nat} {ts : List (Int × Int)} {xs : List Value} (ho : w.ownsRow B 78 2 (.slice (some ⟨g, 0, none⟩) n cap) n xs) (k : Nat) (hx : xs.take (k * 2) = entV ts) (hk : k ≤ n) (hl : ts.length = k) : Ents w (some ⟨g, 0, none⟩) k ts := by
  refine ⟨hl, fun i hi => ⟨g, 0, rfl, ?_, ?_⟩⟩
  · have ha := (entV_at ts i (by omega)).1
    rw [← hx, List.getElem?_take_of_lt (by omega)] at ha
    rw [Nat.zero_add, ho.cellAt (i * 2) (by omega)]; exact ha
  · have ha := (entV_at ts i (by omega)).2
    rw [← hx, List.getElem?_take_of_lt (by omega)] at ha
    rw [Nat.zero_add, ho.cellAt (i * 2 + 1) (by omega)]; exact ha
end Go.Proofs.Ytmallmchibdkgaa
