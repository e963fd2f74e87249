/-
A table of rows (C2), in the program: what ReadTable gives.
-/
import Derived.Test.YtncjnjlakhohgaaQTabRead
namespace Go.Proofs.Ytncjnjlakhohgaa
open Go.RowKit
attribute [local go_sem ↓] Go.wp_at_zero Go.wp_at_succ

theorem tab_setRow (w : World) (g o : Nat) (vs : List Value) (cur : Array Value) (t : TypeId) (hg : w.heap[g]? = some (.cells cur t (0, 0))) (hfit : o + vs.length ≤ cur.size) (h1 : ∀ v ∈ vs, v.oneCell' = true) :
    w.setCells g o vs = w.setRow g (cur.toList.take o ++ vs ++ cur.toList.drop (o + vs.length)).toArray := by
  have a := run_storeCells_at (P := Try.prog) g o t vs 0 cur w hg (by omega) h1
  have b := run_storeCells_cells (P := Try.prog) g o vs 0 w (fun j hj => by rw [Nat.add_zero, cell_of_row _ _ _ _ _ _ hg]; simp; omega) (fun j _ => frozen_of_row _ _ _ _ _ hg) h1
  rw [a] at b
  simp only [Nat.add_zero] at b
  injection b with _ b
  exact b.symm

theorem tab_there (w : World) (c : Array Value) (t : TypeId) (n : Nat) (h : c.size = n) : (w.alloc (.cells c t)).there w.heap.size 0 n := by
  intro j hj
  rw [Nat.zero_add, cell_of_row _ _ _ _ _ _ (heap_alloc_new w _), frozen_of_row _ _ _ _ _ (heap_alloc_new w _)]
  exact ⟨by simp; omega, rfl⟩

theorem tab_setNew (w : World) (c : Array Value) (t : TypeId) (vs : List Value) (h : c.size = vs.length) (h1 : ∀ v ∈ vs, v.oneCell' = true) : (w.alloc (.cells c t)).setCells w.heap.size 0 vs = w.alloc (.cells vs.toArray t) := by
  have e : List.take 0 c.toList ++ vs ++ List.drop (0 + vs.length) c.toList = vs := by
    rw [List.take_zero, List.nil_append, List.drop_of_length_le (by simp; omega), List.append_nil]
  rw [tab_setRow _ _ _ _ c t (heap_alloc_new w _) (by omega) h1, World.setRow_alloc_new, e]

/- A whole value into a block that was just made. -/
theorem tab_store {P : Program} {ops : Array Oper} {rest : List Oper} {op : Oper} {a : Act} {w : World} {Q : Exit → Act → World → Prop} (hgd : op.guard = none) (ty t : TypeId) (x y : Operand) (ho : op.op = .store ty x y)
    (c cells : Array Value) (hx : a.eval x = .pointer (some ⟨w.heap.size, 0, none⟩)) (hy : a.eval y = .agg cells)
    (hc : c.size = cells.size) (hi : (P.info? ty).map (·.size) = some cells.size) (h1 : ∀ v ∈ cells.toList, v.oneCell' = true)
    (h : wpList P ops Q rest (a.put op.dst undef) (w.alloc (.cells cells t))) : wpList P ops Q (op :: rest) a (w.alloc (.cells c t)) := by
  refine wpList_store_mid hgd ty x y ho w.heap.size 0 cells hx hy (tab_there w c t _ hc) hi (by have := all_oneCell_toArray h1; simpa using this) ?_
  rw [tab_setNew w c t cells.toList (by simpa using hc) h1]
  simpa using h

theorem tableF_no {h : HV} {rows : List ByteArray} (hi : tableIn h rows = false) : tableF h rows = 1 ∧ tableT h rows = [] := by
  unfold tableF tableT
  rw [if_neg (by rw [hi]; decide), if_neg (by rw [hi]; decide)]
  exact ⟨rfl, rfl⟩

theorem tableF_yes {h : HV} {rows : List ByteArray} (hi : tableIn h rows = true) : tableF h rows = (tabTo h rows rows.length).2 ∧ tableT h rows = (tabTo h rows rows.length).1 := by
  unfold tableF tableT
  rw [if_pos hi, if_pos hi]
  exact ⟨rfl, rfl⟩

theorem size_tab : (Try.prog.info? 136).map (·.size) = some 44 := by kernel_rfl

theorem tab_one (c p b : Int) : ∀ v ∈ [Value.int .i64 c, .int .i64 p, .int .i64 b, .slice none 0 0, .bool false, .bool false, .bool false, .bool false, .bool false, .bool false, .bool false, .bool false, .bool false, .bool false, .bool false, .bool false, .bool false, .bool false, .bool false, .bool false, .bool false, .bool false, .bool false, .bool false, .bool false, .bool false, .bool false, .bool false, .bool false, .bool false, .bool false, .bool false, .bool false, .bool false, .bool false, .bool false, .bool false, .bool false, .bool false, .bool false, .bool false, .bool false, .bool false, .bool false], v.oneCell' = true := by
  intro v hv
  have e : [Value.int .i64 c, .int .i64 p, .int .i64 b, .slice none 0 0, .bool false, .bool false, .bool false, .bool false, .bool false, .bool false, .bool false, .bool false, .bool false, .bool false, .bool false, .bool false, .bool false, .bool false, .bool false, .bool false, .bool false, .bool false, .bool false, .bool false, .bool false, .bool false, .bool false, .bool false, .bool false, .bool false, .bool false, .bool false, .bool false, .bool false, .bool false, .bool false, .bool false, .bool false, .bool false, .bool false, .bool false, .bool false, .bool false, .bool false] = [Value.int .i64 c, .int .i64 p, .int .i64 b, .slice none 0 0] ++ List.replicate 40 (.bool false) := rfl
  rw [e] at hv
  rcases List.mem_append.1 hv with h | h
  · simp only [List.mem_cons, List.not_mem_nil, or_false] at h
    rcases h with rfl | rfl | rfl | rfl <;> rfl
  · rw [(List.mem_replicate.1 h).2]; rfl

theorem ents_nil (w : World) : Ents w none 0 [] := ⟨rfl, fun k hk => by omega⟩

/- A table that was read: its entries, in a row of the reader's own. -/
def TabO (B : Nat) (w : World) (lt : Option Addr) (cp : Nat) (ts : List (Int × Int)) : Prop :=
  Ents w lt ts.length ts ∧ w.ownsRow B 78 2 (.slice lt ts.length cp) ts.length (entV ts)
theorem tabO_nil (B : Nat) (w : World) : TabO B w none 0 [] := ⟨ents_nil w, World.ownsRow_nil _ _ _ _⟩

set_option maxRecDepth 100000 in
set_option maxHeartbeats 1000000 in
theorem readTable_head (c p b : Int) (la : Option Addr) (len cap : Nat) (rows : List ByteArray) (w : World) (hk : HV.ok ⟨c, p, b⟩ = false) :
    Calls Try.prog 55 #[.agg #[.int .i64 c, .int .i64 p, .int .i64 b], .slice la len cap] w fun e w' =>
      ∃ lt cp, e = .returned (.tuple #[.slice lt (tableT ⟨c, p, b⟩ rows).length cp, erV (tableF ⟨c, p, b⟩ rows)]) ∧ TabO w.heap.size w' lt cp (tableT ⟨c, p, b⟩ rows) ∧ Below w.heap.size w w' := by
  have hi : tableIn ⟨c, p, b⟩ rows = false := by unfold tableIn; rw [hk]; rfl
  obtain ⟨e1, e2⟩ := tableF_no hi
  rw [e1, e2, erV_1]
  have ef : HV.fault ⟨c, p, b⟩ = 1 := if_neg (by rw [hk]; decide)
  have HC : Hid (∀ W : World, Calls Try.prog 40 #[.agg #[.int .i64 c, .int .i64 p, .int .i64 b]] W fun e w' => e = .returned (.iface 112 (.int .i64 1)) ∧ Below W.heap.size W w') := fun W => by have := checkHead_any c p b W; rw [ef, erV_1] at this; exact this
  clear hk hi e1 e2 ef
  go_enter Try.func55, Try.ntmps55
  go_wp2_with fail
  refine (HC.out _).mono ?_
  rintro e w1 ⟨rfl, hb1⟩
  go_wp2
  go_ret2
  exact ⟨none, 0, rfl, tabO_nil _ _, ((Below.refl _ _).alloc (Nat.le_refl _) _).trans (hb1.mono (by simp))⟩

set_option maxRecDepth 100000 in
set_option maxHeartbeats 1000000 in
theorem readTable_rows (c p b : Int) (la : Option Addr) (len cap : Nat) (rows : List ByteArray) (w : World) (hT : Texts w la len rows) (hk : HV.ok ⟨c, p, b⟩ = true) (hr : len ≠ rowsN c.toNat) :
    Calls Try.prog 55 #[.agg #[.int .i64 c, .int .i64 p, .int .i64 b], .slice la len cap] w fun e w' =>
      ∃ lt cp, e = .returned (.tuple #[.slice lt (tableT ⟨c, p, b⟩ rows).length cp, erV (tableF ⟨c, p, b⟩ rows)]) ∧ TabO w.heap.size w' lt cp (tableT ⟨c, p, b⟩ rows) ∧ Below w.heap.size w w' := by
  have hi : tableIn ⟨c, p, b⟩ rows = false := by unfold tableIn; rw [hk, hT.1, decide_eq_false hr]; rfl
  obtain ⟨e1, e2⟩ := tableF_no hi
  rw [e1, e2, erV_1]
  have ef : HV.fault ⟨c, p, b⟩ = 0 := if_pos hk
  have HC : Hid (∀ W : World, Calls Try.prog 40 #[.agg #[.int .i64 c, .int .i64 p, .int .i64 b]] W fun e w' => e = .returned .nilIface ∧ Below W.heap.size W w') := fun W => by have := checkHead_any c p b W; rw [ef, erV_0] at this; exact this
  obtain ⟨g1, g2, _⟩ := HV.of_ok hk
  simp only at g1 g2
  have HR : Hid (∀ W : World, Calls Try.prog 46 #[.int .i64 c] W fun e w' => e = .returned (.int .i64 (rowsN c.toNat : Int)) ∧ w' = W) := fun W => by have := rows_any c.toNat W (by omega); rw [show ((c.toNat : Nat) : Int) = c by omega] at this; exact this
  have hne : ((len : Int) != (rowsN c.toNat : Int)) = true := by simp; omega
  generalize rowsN c.toNat = rn at HR hne
  clear hk hi e1 e2 ef hT hr g1 g2
  go_enter Try.func55, Try.ntmps55
  go_wp2_with fail
  refine (HC.out _).mono ?_
  rintro e w1 ⟨rfl, hb1⟩
  have x0 := new_cell hb1 0 _ rfl
  go_wp2_with (go_at_call 46; refine (HR.out _).mono ?_; rintro e w' ⟨rfl, hw⟩; have hw' := hw.symm; subst hw'; clear hw)
  go_ret2
  exact ⟨none, 0, rfl, tabO_nil _ _, ((Below.refl _ _).alloc (Nat.le_refl _) _).trans (hb1.mono (by simp))⟩

set_option maxRecDepth 100000 in
set_option maxHeartbeats 2000000 in
theorem readTable_in (c p b : Int) (la : Option Addr) (len cap : Nat) (rows : List ByteArray) (w : World) (hT : Texts w la len rows) (hlen : len ≤ 20) (hk : HV.ok ⟨c, p, b⟩ = true) (hr : len = rowsN c.toNat) :
    Calls Try.prog 55 #[.agg #[.int .i64 c, .int .i64 p, .int .i64 b], .slice la len cap] w fun e w' =>
      ∃ lt cp, e = .returned (.tuple #[.slice lt (tableT ⟨c, p, b⟩ rows).length cp, erV (tableF ⟨c, p, b⟩ rows)]) ∧ TabO w.heap.size w' lt cp (tableT ⟨c, p, b⟩ rows) ∧ Below w.heap.size w w' := by
  have hi : tableIn ⟨c, p, b⟩ rows = true := by unfold tableIn; rw [hk, hT.1, decide_eq_true hr]; rfl
  have ef : HV.fault ⟨c, p, b⟩ = 0 := if_pos hk
  have HC : Hid (∀ W : World, Calls Try.prog 40 #[.agg #[.int .i64 c, .int .i64 p, .int .i64 b]] W fun e w' => e = .returned .nilIface ∧ Below W.heap.size W w') := fun W => by have := checkHead_any c p b W; rw [ef, erV_0] at this; exact this
  obtain ⟨g1, g2, _⟩ := HV.of_ok hk
  simp only at g1 g2
  have HR : Hid (∀ W : World, Calls Try.prog 46 #[.int .i64 c] W fun e w' => e = .returned (.int .i64 (len : Int)) ∧ w' = W) := fun W => by have := rows_any c.toNat W (by omega); rw [show ((c.toNat : Nat) : Int) = c by omega, ← hr] at this; exact this
  have HT := toHid hT
  have HK := toHid hk
  have HI := toHid hi
  clear hk hi ef hT hr
  have HI2 : Hid ((Try.prog.info? 136).map (·.size) = some (#[.int .i64 c, .int .i64 p, .int .i64 b, .slice none 0 0, .bool false, .bool false, .bool false, .bool false, .bool false, .bool false, .bool false, .bool false, .bool false, .bool false, .bool false, .bool false, .bool false, .bool false, .bool false, .bool false, .bool false, .bool false, .bool false, .bool false, .bool false, .bool false, .bool false, .bool false, .bool false, .bool false, .bool false, .bool false, .bool false, .bool false, .bool false, .bool false, .bool false, .bool false, .bool false, .bool false, .bool false, .bool false, .bool false, .bool false] : Array Value).size) := size_tab
  have HZ : Hid (∀ v ∈ (#[.int .i64 c, .int .i64 p, .int .i64 b, .slice none 0 0, .bool false, .bool false, .bool false, .bool false, .bool false, .bool false, .bool false, .bool false, .bool false, .bool false, .bool false, .bool false, .bool false, .bool false, .bool false, .bool false, .bool false, .bool false, .bool false, .bool false, .bool false, .bool false, .bool false, .bool false, .bool false, .bool false, .bool false, .bool false, .bool false, .bool false, .bool false, .bool false, .bool false, .bool false, .bool false, .bool false, .bool false, .bool false, .bool false, .bool false] : Array Value).toList, v.oneCell' = true) := tab_one c p b
  have hok := HK.out
  go_enter Try.func55, Try.ntmps55
  go_wp2_with fail
  refine (HC.out _).mono ?_
  rintro e w1 ⟨rfl, hb1⟩
  have x0 := new_cell hb1 0 _ rfl
  have x1 := new_cell hb1 1 _ rfl
  have x2 := new_cell hb1 2 _ rfl
  have HB1 : Hid (Below w.heap.size w w1) := ((Below.refl _ _).alloc (Nat.le_refl _) _).trans (hb1.mono (by simp))
  have htab : IsTab w.heap.size (w1.alloc (.cells #[.int .i64 c, .int .i64 p, .int .i64 b, .slice none 0 0, .bool false, .bool false, .bool false, .bool false, .bool false, .bool false, .bool false, .bool false, .bool false, .bool false, .bool false, .bool false, .bool false, .bool false, .bool false, .bool false, .bool false, .bool false, .bool false, .bool false, .bool false, .bool false, .bool false, .bool false, .bool false, .bool false, .bool false, .bool false, .bool false, .bool false, .bool false, .bool false, .bool false, .bool false, .bool false, .bool false, .bool false, .bool false, .bool false, .bool false] 136)) w1.heap.size ⟨c, p, b⟩ (.slice none 0 0) [] (tkOf []) := by
    rw [tkOf_nil]
    exact ⟨heap_alloc_new w1 _, World.ownsRow_nil _ _ _ _, HB1.out.size, by simp⟩
  have HTAB := toHid htab
  clear hb1 htab
  go_wp2_with (first
    | (go_at_call 46; refine (HR.out _).mono ?_; rintro e w' ⟨rfl, hw⟩; have hw' := hw.symm; subst hw'; clear hw)
    | (refine tab_store (by rfl) 136 136 (.tmp 7) (.tmp 24) (by rfl) _ #[.int .i64 c, .int .i64 p, .int .i64 b, .slice none 0 0, .bool false, .bool false, .bool false, .bool false, .bool false, .bool false, .bool false, .bool false, .bool false, .bool false, .bool false, .bool false, .bool false, .bool false, .bool false, .bool false, .bool false, .bool false, .bool false, .bool false, .bool false, .bool false, .bool false, .bool false, .bool false, .bool false, .bool false, .bool false, .bool false, .bool false, .bool false, .bool false, .bool false, .bool false, .bool false, .bool false, .bool false, .bool false, .bool false, .bool false] (by rfl) (by rfl) rfl HI2.out HZ.out ?_))
  clear x0 x1 x2 HI2 HZ HC HR
  have HBT : Hid (Below w.heap.size w (w1.alloc (.cells #[.int .i64 c, .int .i64 p, .int .i64 b, .slice none 0 0, .bool false, .bool false, .bool false, .bool false, .bool false, .bool false, .bool false, .bool false, .bool false, .bool false, .bool false, .bool false, .bool false, .bool false, .bool false, .bool false, .bool false, .bool false, .bool false, .bool false, .bool false, .bool false, .bool false, .bool false, .bool false, .bool false, .bool false, .bool false, .bool false, .bool false, .bool false, .bool false, .bool false, .bool false, .bool false, .bool false, .bool false, .bool false, .bool false, .bool false] 136))) := HB1.out.alloc HB1.out.size _
  generalize w1.alloc (.cells #[.int .i64 c, .int .i64 p, .int .i64 b, .slice none 0 0, .bool false, .bool false, .bool false, .bool false, .bool false, .bool false, .bool false, .bool false, .bool false, .bool false, .bool false, .bool false, .bool false, .bool false, .bool false, .bool false, .bool false, .bool false, .bool false, .bool false, .bool false, .bool false, .bool false, .bool false, .bool false, .bool false, .bool false, .bool false, .bool false, .bool false, .bool false, .bool false, .bool false, .bool false, .bool false, .bool false, .bool false, .bool false, .bool false, .bool false] 136) = wt at HTAB HBT ⊢
  generalize w1.heap.size = N at HTAB ⊢
  have HB0 : Hid (w.heap.size ≤ w.heap.size) := Nat.le_refl _
  have HLN : Hid (rows.length = len) := HT.out.1
  have HFT : Hid (∀ (j : Nat) (f : Int), f ≠ 0 → j ≤ len → tabTo ⟨c, p, b⟩ rows j = ([], f) → tableT ⟨c, p, b⟩ rows = [] ∧ tableF ⟨c, p, b⟩ rows = f) := fun j f hf hj e => by
    obtain ⟨e1, e2⟩ := tableF_yes HI.out
    have e3 := tabTo_fault hf e rows.length (by rw [HLN.out]; exact hj)
    rw [e1, e2, e3]
    exact ⟨rfl, rfl⟩
  go_loopw [27] (fun i wr => ∃ (j : Nat) (v : Value), j ≤ len ∧ i = .int .i64 j ∧ (tabTo ⟨c, p, b⟩ rows j).2 = 0 ∧ (((tabTo ⟨c, p, b⟩ rows j).1.length : Nat) : Int) ≤ c ∧ IsTab w.heap.size wr N ⟨c, p, b⟩ v (tabTo ⟨c, p, b⟩ rows j).1 (tkOf (tabTo ⟨c, p, b⟩ rows j).1) ∧ Below w.heap.size w wr) (fun i _ => len - (intOf i).toNat)
  case atStart => exact ⟨0, .slice none 0 0, Nat.zero_le _, rfl, rfl, (by show (0 : Int) ≤ c; omega), HTAB.out, HBT.out⟩
  case round =>
    obtain ⟨j, v, hj, rfl, hf0, hl, ht, hbel⟩ := hrel
    by_cases hlt : j < len
    · obtain ⟨bb, off, rfl, hcell, hsz⟩ := HT.out.2 j hlt
      rw [← hbel.cell (World.block_lt_of_cell? w _ hcell)] at hcell
      have j0 : (0 : Int) ≤ (j : Int) := by omega
      have j1 : (j : Int) < (len : Int) := by omega
      have HBL := toHid hbel
      by_cases hs : (rows.getD j ByteArray.empty).size = 16
      · have HRR := toHid (readRow_any (rows.getD j ByteArray.empty) wr hs ht hok hl)
        cases hx : rowSt ⟨c, p, b⟩ (tabTo ⟨c, p, b⟩ rows j).1 (rows.getD j ByteArray.empty) 8 with
        | none =>
          obtain ⟨e1, e2⟩ := HFT.out (j + 1) 2 (by decide) (by omega) (tabTo_bad hf0 hs hx)
          have HE1 := toHid e1
          have HE2 : Hid (erV (tableF ⟨c, p, b⟩ rows) = .iface 112 (.int .i64 2)) := by unfold Hid; rw [e2]; exact erV_2
          have er : rowErr ⟨c, p, b⟩ (tabTo ⟨c, p, b⟩ rows j).1 (rows.getD j ByteArray.empty) = .iface 112 (.int .i64 2) := by unfold rowErr; rw [hx]; rfl
          rw [er] at HRR
          clear er e1 e2 hx hs hsz hf0 hl ht hbel HFT
          generalize rows.getD j ByteArray.empty = s at hcell HRR
          go_wp2_with fail
          refine HRR.out.mono ?_
          rintro e w2 ⟨v2, rfl, _, hb2⟩
          go_wp2
          go_ret2
          exact ⟨none, 0, by rw [HE1.out, HE2.out]; rfl, by rw [HE1.out]; exact tabO_nil _ _, HBL.out.trans hb2⟩
        | some a2 =>
          have hg := tabTo_good hf0 hs hx
          have hl2 := rowSt_len (h := ⟨c, p, b⟩) hl 8 a2 hx
          have HGG := toHid hg
          have er : rowErr ⟨c, p, b⟩ (tabTo ⟨c, p, b⟩ rows j).1 (rows.getD j ByteArray.empty) = .nilIface := by unfold rowErr; rw [hx]; rfl
          rw [er, hx] at HRR
          clear er hg hx hs hsz hf0 hl ht hbel HFT
          generalize rows.getD j ByteArray.empty = s at hcell HRR
          go_wp2_with fail
          refine HRR.out.mono ?_
          rintro e w2 ⟨v2, rfl, ht2, hb2⟩
          have HT2 := toHid (ht2 a2 rfl)
          clear ht2 HRR
          go_wp2
          go_roundw
          case rel =>
            have fin : ∃ (j1 : Nat) (v3 : Value), j1 ≤ len ∧ Value.int .i64 ((j : Int) + 1) = .int .i64 j1 ∧ (tabTo ⟨c, p, b⟩ rows j1).2 = 0 ∧ (((tabTo ⟨c, p, b⟩ rows j1).1.length : Nat) : Int) ≤ c ∧ IsTab w.heap.size w2 N ⟨c, p, b⟩ v3 (tabTo ⟨c, p, b⟩ rows j1).1 (tkOf (tabTo ⟨c, p, b⟩ rows j1).1) ∧ Below w.heap.size w w2 := by
              refine ⟨j + 1, v2, by omega, by go_num, ?_, ?_, ?_, HBL.out.trans hb2⟩
              · rw [HGG.out]
              · rw [HGG.out]; exact hl2
              · rw [HGG.out]; exact HT2.out
            first | exact fin | ((repeat apply Exists.intro); exact ⟨fin, rfl⟩)
          case measure => simp [intOf]; omega
      · obtain ⟨e1, e2⟩ := HFT.out (j + 1) 1 (by decide) (by omega) (tabTo_short hf0 hs)
        have HE1 := toHid e1
        have HE2 : Hid (erV (tableF ⟨c, p, b⟩ rows) = .iface 112 (.int .i64 1)) := by unfold Hid; rw [e2]; exact erV_1
        have HRR := toHid (readRow_short (N := N) (rows.getD j ByteArray.empty) wr hs)
        clear e1 e2 hs hsz hf0 hl ht hbel HFT
        generalize rows.getD j ByteArray.empty = s at hcell HRR
        go_wp2_with (go_at_call 82; refine HRR.out.mono ?_; rintro e w' ⟨rfl, hw⟩; have hw' := hw.symm; subst hw'; clear hw)
        go_ret2
        exact ⟨none, 0, by rw [HE1.out, HE2.out]; rfl, by rw [HE1.out]; exact tabO_nil _ _, HBL.out⟩
    · have hjl : j = rows.length := by rw [HLN.out]; omega
      obtain ⟨e1, e2⟩ := tableF_yes HI.out
      rw [← hjl] at e1 e2
      obtain ⟨c0, c1, c3, f3⟩ := ht.cells
      obtain ⟨a, cp, hv⟩ := ht.form
      rw [hv] at c3
      have HEN : Hid (TabO w.heap.size wr a cp (tabTo ⟨c, p, b⟩ rows j).1) := by
        refine ⟨?_, hv ▸ ht.own⟩
        have ho := ht.own
        rw [hv] at ho
        rcases ho.2 with ⟨h0, hn⟩ | ⟨g, cp2, cur, hv2, _⟩
        · have ea : a = none := by injection h0
          rw [ea, List.length_eq_zero_iff.1 hn]; exact ents_nil _
        · have ea : a = some ⟨g, 0, none⟩ := by injection hv2
          rw [ea] at ho ⊢
          exact ents_of_owns ho _ (by rw [List.take_of_length_le (by rw [entV_len]; exact Nat.le_refl _)]) (Nat.le_refl _) rfl
      have HE2 : Hid (erV (tableF ⟨c, p, b⟩ rows) = .nilIface) := by unfold Hid; rw [e1, hf0]; exact erV_0
      have HE1 := toHid e2
      have HBL := toHid hbel
      clear ht hbel hf0 hl e1 e2 c0 c1 f3 hv HFT hjl
      go_wp2
      go_ret2
      exact ⟨a, cp, by rw [HE1.out, HE2.out]; rfl, by rw [HE1.out]; exact HEN.out, HBL.out⟩

theorem readTable_any (c p b : Int) (la : Option Addr) (len cap : Nat) (rows : List ByteArray) (w : World) (hT : Texts w la len rows) (hlen : len ≤ 20) :
    Calls Try.prog 55 #[.agg #[.int .i64 c, .int .i64 p, .int .i64 b], .slice la len cap] w fun e w' =>
      ∃ lt cp, e = .returned (.tuple #[.slice lt (tableT ⟨c, p, b⟩ rows).length cp, erV (tableF ⟨c, p, b⟩ rows)]) ∧ TabO w.heap.size w' lt cp (tableT ⟨c, p, b⟩ rows) ∧ Below w.heap.size w w' := by
  cases hk : HV.ok ⟨c, p, b⟩ with
  | false => exact readTable_head c p b la len cap rows w hk
  | true =>
    by_cases hr : len = rowsN c.toNat
    · exact readTable_in c p b la len cap rows w hT hlen hk hr
    · exact readTable_rows c p b la len cap rows w hT hk hr
end Go.Proofs.Ytncjnjlakhohgaa
