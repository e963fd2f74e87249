/-
Names answers true: the numbers and errors of package api are those that the document names (Z1 of api). The listed tables of Go's library are laid as the program's text lays them; the card ties them; the project beside this card is the pruned copy.
-/
import Derived.Test.YtlfecjgmmhbanaaDoorRows
import Derived.WalkKit
import Derived.WalkSpells
import Derived.WalkLawsBesides
import Derived.Deep.QuietTactic
import Derived.BigQuiet
namespace Go.Proofs.YtlfecjgmmhbanaaDoor
open Go.RowKit

set_option maxHeartbeats 400000 in
theorem same_yes (n : Int) (w : World) (h0 : 0 < n) :
    Calls Tryd.prog 5 #[.iface 23 (.int .i64 n), .int .i64 n] w fun e w' => e = .returned (.bool true) ∧ w' = w := by
  have hta : ∀ w : World, (Instr.typeAssert (.iface 23 (.int .i64 n)) 27 23 true).run Tryd.prog w = .ok (.tuple #[.int .i64 n, .bool true]) w := fun _ => by kernel_rfl
  go_enter Tryd.func5, Tryd.ntmps5
  go_wp2
  go_ret
  exact ⟨rfl, rfl⟩

set_option maxHeartbeats 400000 in
set_option maxRecDepth 100000 in
theorem small_11 (w : World) : Calls Tryd.prog 30 #[.int .i64 11] w fun e w' => e = .returned (.string ⟨#[49, 49]⟩) ∧ w' = w := by
  go_enter Tryd.func30, Tryd.ntmps30
  go_wp2
  go_ret
  exact ⟨rfl, rfl⟩

set_option maxHeartbeats 400000 in
theorem err_text (w : World) :
    Calls Tryd.prog 7 #[.int .i64 11] w fun e w' => e = .returned (.string ⟨#[115, 116, 97, 99, 107, 121, 97, 114, 100, 58, 32, 101, 114, 114, 111, 114, 32, 49, 49]⟩) ∧ w' = w := by
  go_enter Tryd.func7, Tryd.ntmps7
  go_wp2_with (first | (go_at_call 30; refine (small_11 _).mono ?_; rintro e w' ⟨rfl, rfl⟩) | go_in)
  go_ret
  exact ⟨rfl, rfl⟩

set_option maxHeartbeats 400000 in
theorem sameNumbers_any (b1 b2 n : Nat) (zs : List Int) (w : World) (hn : n ≤ 1000)
    (hc1 : ∀ k, k < n → w.cell? ⟨b1, k, none⟩ = some (.int .i64 (zs.getD k 0))) (hc2 : ∀ k, k < n → w.cell? ⟨b2, k, none⟩ = some (.int .i64 (zs.getD k 0))) :
    Calls Tryd.prog 6 #[.slice (some ⟨b1, 0, none⟩) n n, .slice (some ⟨b2, 0, none⟩) n n] w fun e w' => e = .returned (.bool true) ∧ Below w.heap.size w w' := by
  have HC1 : Hid (∀ k, k < n → w.cell? ⟨b1, k, none⟩ = some (.int .i64 (zs.getD k 0))) := hc1
  have HC2 : Hid (∀ k, k < n → w.cell? ⟨b2, k, none⟩ = some (.int .i64 (zs.getD k 0))) := hc2
  clear hc1 hc2
  go_enter Tryd.func6, Tryd.ntmps6
  go_wp2
  go_loopw [5] (fun i wr => ∃ k : Nat, k ≤ n ∧ i = .int .i64 k ∧ Below w.heap.size w wr) (fun i _ => n - (intOf i).toNat)
  case atStart => exact ⟨0, Nat.zero_le _, rfl, Below.refl _ _⟩
  case round =>
    obtain ⟨k, hk, rfl, hbel⟩ := hrel
    by_cases hlt : k < n
    · have hcell := HC1.out k hlt
      have hcell2 := HC2.out k hlt
      rw [← hbel.cell (p := ⟨b1, k, none⟩) (World.block_lt_of_cell? w _ hcell)] at hcell
      rw [← hbel.cell (p := ⟨b2, k, none⟩) (World.block_lt_of_cell? w _ hcell2)] at hcell2
      generalize zs.getD k 0 = s at hcell hcell2
      go_wp2
      go_quiet (fail)
      go_wp2
      go_roundw
      case rel =>
        have fin : ∃ k1 : Nat, k1 ≤ n ∧ Value.int .i64 ((k : Int) + 1) = .int .i64 k1 ∧ Below w.heap.size w (wr.drewN nq) := ⟨k + 1, by omega, by go_num, below_drewN hbel _⟩
        first | exact fin | ((repeat apply Exists.intro); exact ⟨fin, rfl⟩)
      case measure => simp [intOf]; omega
    · go_wp2
      go_ret
      exact ⟨rfl, hbel⟩

def nums : List Int := [16, 4, 200, 32, 40, 5, 64, 1000, 100000, 80, 200, 0, 1, 2, 1, 2, 3, 0, 1, 2, 3, 4, 5]

theorem cell_new (w : World) (c : Array Value) (t : TypeId) (j : Nat) : (w.alloc (.cells c t)).cell? ⟨w.heap.size, j, none⟩ = c[j]? := by
  simp [World.cell?, World.alloc, -World.alloc_eq]

theorem cell_old (w : World) (o : Obj) (b j : Nat) (h : b < w.heap.size) : (w.alloc o).cell? ⟨b, j, none⟩ = w.cell? ⟨b, j, none⟩ :=
  World.cell?_of_block (Below.heap_alloc w o b h)

theorem nums_at (j : Nat) (h : j < 23) : (nums.map (Value.int .i64)).toArray[j]? = some (.int .i64 (nums.getD j 0)) := by
  have : j < nums.length := h
  simp [List.getD, List.getElem?_eq_getElem this]

def errs : List Value := (List.range 11).map fun (j : Nat) => .iface 23 (.int .i64 ((j : Int) + 1))

theorem errs_at (j : Nat) (h : j < 11) : errs.toArray[j]? = some (.iface 23 (.int .i64 ((j : Int) + 1))) := by
  simp [errs, h]

theorem wide (w : World) (c1 c2 c3 : Array Value) (e1 : c1 = (nums.map (Value.int .i64)).toArray) (e2 : c2 = (nums.map (Value.int .i64)).toArray) (e3 : c3 = errs.toArray) :
    Below w.heap.size w (((w.alloc (.cells c1 3)).alloc (.cells c2 3)).alloc (.cells c3 27)) ∧ (∀ j, j < 11 → (((w.alloc (.cells c1 3)).alloc (.cells c2 3)).alloc (.cells c3 27)).cell? ⟨w.heap.size + 1 + 1, j, none⟩ = some (.iface 23 (.int .i64 ((j : Int) + 1)))) ∧ (∀ j, j < 23 → (((w.alloc (.cells c1 3)).alloc (.cells c2 3)).alloc (.cells c3 27)).cell? ⟨w.heap.size, j, none⟩ = some (.int .i64 (nums.getD j 0))) ∧ ∀ j, j < 23 → (((w.alloc (.cells c1 3)).alloc (.cells c2 3)).alloc (.cells c3 27)).cell? ⟨w.heap.size + 1, j, none⟩ = some (.int .i64 (nums.getD j 0)) := by
  generalize h1 : w.alloc (.cells c1 3) = w1
  generalize h2 : w1.alloc (.cells c2 3) = w2
  have s1 : w1.heap.size = w.heap.size + 1 := by subst h1; simp
  have s2 : w2.heap.size = w.heap.size + 1 + 1 := by subst h2; simp [s1]
  refine ⟨?_, fun j hj => ?_, fun j hj => ?_, fun j hj => ?_⟩
  · subst h2 h1
    exact (((Below.refl _ _).alloc (Nat.le_refl _) _).alloc (by simp) _).alloc (by simp; omega) _
  · rw [← s2, cell_new, e3, errs_at j hj]
  · rw [cell_old _ _ _ _ (by omega), ← h2, cell_old _ _ _ _ (by omega), ← h1, cell_new, e1, nums_at j hj]
  · rw [cell_old _ _ _ _ (by omega), ← h2, ← s1, cell_new, e2, nums_at j hj]

set_option maxHeartbeats 1000000 in
set_option maxRecDepth 100000 in
theorem names_walk (w : World) : Calls Tryd.prog 3 #[] w fun e w' => e = .returned (.bool true) ∧ Below w.heap.size w w' := by
  go_enter Tryd.func3, Tryd.ntmps3
  go_wp2
  go_loopw [4] (fun i wr => ∃ k : Nat, k ≤ 11 ∧ i = .int .i64 k ∧ Below w.heap.size w wr ∧ (∀ j, j < 11 → wr.cell? ⟨w.heap.size + 1 + 1, j, none⟩ = some (.iface 23 (.int .i64 ((j : Int) + 1)))) ∧ (∀ j, j < 23 → wr.cell? ⟨w.heap.size, j, none⟩ = some (.int .i64 (nums.getD j 0))) ∧ ∀ j, j < 23 → wr.cell? ⟨w.heap.size + 1, j, none⟩ = some (.int .i64 (nums.getD j 0))) (fun i _ => 11 - (intOf i).toNat)
  case atStart => exact ⟨0, by omega, rfl, wide w _ _ _ rfl rfl rfl⟩
  case round =>
    obtain ⟨k, hk, rfl, hbel, hc1, hc2, hc3⟩ := hrel
    have HC : Hid ((∀ j, j < 11 → wr.cell? ⟨w.heap.size + 1 + 1, j, none⟩ = some (.iface 23 (.int .i64 ((j : Int) + 1)))) ∧ (∀ j, j < 23 → wr.cell? ⟨w.heap.size, j, none⟩ = some (.int .i64 (nums.getD j 0))) ∧ ∀ j, j < 23 → wr.cell? ⟨w.heap.size + 1, j, none⟩ = some (.int .i64 (nums.getD j 0))) := ⟨hc1, hc2, hc3⟩
    have HS : Hid (Calls Tryd.prog 6 #[.slice (some ⟨w.heap.size, 0, none⟩) 23 23, .slice (some ⟨w.heap.size + 1, 0, none⟩) 23 23] wr fun e w' => e = .returned (.bool true) ∧ Below wr.heap.size wr w') :=
      sameNumbers_any w.heap.size (w.heap.size + 1) 23 nums wr (by omega) hc2 hc3
    by_cases hlt : k < 11
    · have hcell := hc1 k hlt
      clear hc1 hc2 hc3
      go_wp2_with (go_at_call 5; refine (same_yes _ _ (by omega)).mono ?_; rintro e w' ⟨rfl, hw⟩; have hw' := hw.symm; subst hw'; clear hw)
      go_roundw
      case rel =>
        have fin : ∃ k1 : Nat, k1 ≤ 11 ∧ Value.int .i64 ((k : Int) + 1) = .int .i64 k1 ∧ Below w.heap.size w wr ∧ (∀ j, j < 11 → wr.cell? ⟨w.heap.size + 1 + 1, j, none⟩ = some (.iface 23 (.int .i64 ((j : Int) + 1)))) ∧ (∀ j, j < 23 → wr.cell? ⟨w.heap.size, j, none⟩ = some (.int .i64 (nums.getD j 0))) ∧ ∀ j, j < 23 → wr.cell? ⟨w.heap.size + 1, j, none⟩ = some (.int .i64 (nums.getD j 0)) := ⟨k + 1, by omega, by go_num, hbel, HC.out⟩
        first | exact fin | ((repeat apply Exists.intro); exact ⟨fin, rfl⟩)
      case measure => simp [intOf]; omega
    · clear hc1 hc2 hc3
      go_wp2_with fail
      refine HS.out.mono ?_
      rintro e w2 ⟨rfl, hb2⟩
      go_wp2_with fail
      refine (err_text _).mono ?_
      rintro e w' ⟨rfl, rfl⟩
      go_wp2
      go_ret
      exact ⟨rfl, hbel.trans (hb2.mono hbel.size)⟩
end Go.Proofs.YtlfecjgmmhbanaaDoor
