/-
So many noughts, of the document.
An act on a yard that its guest knows of: a write, a wipe, a flush.
A guest in memory: two tables of rows of texts, what each sector may be now and behind a crash; how a row is set.
-/
import Derived.Test.YtonhoahnieoebabGreatDoorQImgCreate
import Derived.Test.YtonhoahnieoebabGreatDoorQTopDid1
import Derived.Test.YtonhoahnieoebabGreatDoorQShapeEnt
namespace Go.Proofs.YtonhoahnieoebabGreatDoor
open Go.RowKit Go.Maps
attribute [local go_sem ↓] Go.wp_at_zero Go.wp_at_succ

theorem noughtsM_any (n : Nat) (w : World) (hn : n ≤ 10000) :
    Calls Tryz.prog 72 #[.int .i64 (n : Int)] w fun e w' => e = .returned (.string (bytesOf (List.replicate n 0))) ∧ Below w.heap.size w w' := by
  obtain ⟨i0, hi0, hz0, hz1, hz2⟩ := info_parts info_byte
  obtain ⟨w1, hmk, hown, hgr⟩ := run_make_full (P := Tryz.prog) w w.heap.size 206 5 i0 (.int .u8 0) 1 Tryz.underlying206 hi0 hz0 hz1 .i64 .i64 n (by rw [hz2]; omega) (by unfold maxLen; omega) (Nat.le_refl _)
  have hb : Below w.heap.size w w1 := (Below.refl _ _).grown hgr (Nat.le_refl _) (fun k e => by cases e)
  have hr : w1.rangeAt w.heap.size 0 (secV (List.replicate n 0)) := fun j v hv => by
    have hj : j < n := by
      rcases Nat.lt_or_ge j n with q | q
      · exact q
      · rw [List.getElem?_eq_none (by rw [secV_len, List.length_replicate]; exact q)] at hv; cases hv
    rw [Nat.zero_add, hown.cellAt j (by omega)]
    have e : (madeCells (Value.int .u8 0).cells (n * 1)).toList = secV (List.replicate n 0) := by
      rw [Nat.mul_one]
      show (madeCells #[Value.int .u8 0] n).toList = _
      rw [toList_madeCells_one]; simp [secV]
    rw [e]; exact hv
  have hcv := conv_sec n n (by simp) hr
  have HB : Hid (Below w.heap.size w w1) := hb
  clear hr hown hgr hb hi0 hz0 hz1 hz2
  generalize bytesOf (List.replicate n 0) = S at hcv ⊢
  go_enter Tryz.func72, Tryz.ntmps72
  go_wp2
  go_ret
  exact ⟨rfl, HB.out⟩
end Go.Proofs.YtonhoahnieoebabGreatDoor

namespace Go.Proofs.YtonhoahnieoebabGreatDoor
open Go.RowKit Go.Maps
attribute [local go_sem ↓] Go.wp_at_zero Go.wp_at_succ

set_option maxRecDepth 100000 in
set_option maxHeartbeats 1000000 in
theorem is_one (F : Int) (w : World) : Calls Tryz.prog 55 #[erV F, .int .i64 1] w fun e w' => e = .returned (.bool (decide (F = 1))) ∧ w' = w := by
  by_cases h0 : F = 0
  · rw [h0, erV_0]
    go_enter Tryz.func55, Tryz.ntmps55
    go_wp2
    go_ret
    exact ⟨rfl, rfl⟩
  · rw [erV_some h0]
    have he : decide (F = 1) = (F == 1) := by
      by_cases e : F = 1
      · rw [e]; rfl
      · rw [decide_eq_false e]; symm; simpa using e
    rw [he]
    have hta : ∀ w : World, (Instr.typeAssert (.iface 127 (.int .i64 F)) 33 127 true).run Tryz.prog w = .ok (.tuple #[.int .i64 F, .bool true]) w := fun _ => by kernel_rfl
    clear he h0
    go_enter Tryz.func55, Tryz.ntmps55
    go_wp2
    go_ret
    exact ⟨rfl, rfl⟩

set_option maxRecDepth 100000 in
set_option maxHeartbeats 2000000 in
theorem did_write {yp gp : Nat} {P Q : World → Prop} {F : Int} (x : ActV) (w : World) (hk : x.kind.toList = [119, 114, 105, 116, 101])
    (HC : ∀ W : World, W = w.alloc (actBox x) → Calls Tryz.prog 99 #[.pointer (some ⟨yp, 0, none⟩), .int .i64 x.a, .string x.s] W fun e w' => e = .returned (erV F) ∧ P w' ∧ ActAt w' w.heap.size x)
    (HN : F = 1 → ∀ W, P W → Q W) (HW : F ≠ 1 → ∀ W : World, P W → Calls Tryz.prog 141 #[.pointer (some ⟨gp, 0, none⟩), .int .i64 x.a, .string x.s, .bool (decide (F = 0))] W.drew fun e w' => e = .returned (.tuple #[]) ∧ Q w' ∧ ActAt w' w.heap.size x) :
    Calls Tryz.prog 42 #[.pointer (some ⟨yp, 0, none⟩), .pointer (some ⟨gp, 0, none⟩), actG x] w fun e w' => e = .returned (.tuple #[]) ∧ Q w' := by
  have g0 : (x.kind.toList == [119, 114, 105, 116, 101]) = true := by rw [hk]; rfl
  have HC1 := toHid (HC _ rfl)
  have HIS := toHid (fun W => is_one F W)
  unfold actBox at HC1
  unfold actG
  clear HC hk
  by_cases h1 : F = 1
  · rw [decide_eq_true h1] at HIS
    have HN1 := toHid (HN h1)
    clear HN HW
    generalize erV F = E at HC1 HIS
    go_enter Tryz.func42, Tryz.ntmps42
    go_wp2_with fail
    refine HC1.out.mono ?_
    rintro e w1 ⟨rfl, hp, _⟩
    have HQ := toHid (HN1.out _ hp)
    clear hp HC1 HN1
    go_wp2_with fail
    refine (HIS.out _).mono ?_
    rintro e w' ⟨rfl, hw⟩
    have hw' := hw.symm
    subst hw'
    clear hw HIS
    go_wp2
    go_end0
    exact ⟨rfl, HQ.out⟩
  · rw [decide_eq_false h1] at HIS
    have HW1 := toHid (HW h1)
    clear HN HW
    have hE : (erV F = .nilIface ∧ decide (F = 0) = true) ∨ (erV F = .iface 127 (.int .i64 F) ∧ decide (F = 0) = false) := by
      by_cases h0 : F = 0
      · exact .inl ⟨by rw [h0, erV_0], decide_eq_true h0⟩
      · exact .inr ⟨erV_some h0, decide_eq_false h0⟩
    rcases hE with ⟨hE, hD⟩ | ⟨hE, hD⟩ <;> rw [hE] at HC1 HIS <;> rw [hD] at HW1 <;> clear hE hD
    all_goals
      go_enter Tryz.func42, Tryz.ntmps42
      go_wp2_with fail
      refine HC1.out.mono ?_
      rintro e w1 ⟨rfl, hp, ha⟩
      have HW2 := toHid (HW1.out _ hp)
      obtain ⟨z1, z2, z5⟩ := ha.cells
      have HS1 : Hid (w1.drew.cell? ⟨w.heap.size, 1, none⟩ = some (.int .i64 x.a) ∧ w1.drew.cell? ⟨w.heap.size, 5, none⟩ = some (.string x.s)) := ⟨z1, z5⟩
      clear hp ha HC1 HW1 z1 z2 z5
      go_wp2_with fail
      refine (HIS.out _).mono ?_
      rintro e w' ⟨rfl, hw⟩
      have hw' := hw.symm
      subst hw'
      clear hw HIS
      go_upto_region 6 with fail
      go_region_held3 (fun W => W.cell? ⟨w.heap.size, 1, none⟩ = some (.int .i64 x.a) ∧ W.cell? ⟨w.heap.size, 5, none⟩ = some (.string x.s))
        (first | (exact HS1.out) | assumption)
        (first
          | (go_at_call 141; refine HW2.out.mono ?_; rintro e w2 ⟨rfl, hq, ha2⟩; have HQ := toHid hq; have hS2 : w2.cell? ⟨w.heap.size, 1, none⟩ = some (.int .i64 x.a) ∧ w2.cell? ⟨w.heap.size, 5, none⟩ = some (.string x.s) := ⟨ha2.cells.1, ha2.cells.2.2⟩; clear hq ha2))
      go_wp2
      go_end0
      exact ⟨rfl, HQ.out⟩

set_option maxRecDepth 100000 in
set_option maxHeartbeats 2000000 in
theorem did_wipe {yp gp : Nat} {P Q : World → Prop} {F : Int} (x : ActV) (w : World) (hk : x.kind.toList = [119, 105, 112, 101])
    (HC : ∀ W : World, W = w.alloc (actBox x) → Calls Tryz.prog 111 #[.pointer (some ⟨yp, 0, none⟩), .int .i64 x.a, .int .i64 x.b] W fun e w' => e = .returned (erV F) ∧ P w' ∧ ActAt w' w.heap.size x)
    (HN : F = 1 → ∀ W, P W → Q W) (HB : F ≠ 1 → 0 ≤ x.b ∧ x.b ≤ 200) (HW : F ≠ 1 → ∀ W W' : World, P W → Below W.heap.size W W' → Calls Tryz.prog 141 #[.pointer (some ⟨gp, 0, none⟩), .int .i64 x.a, .string (noughtB (x.b.toNat * 16)), .bool (decide (F = 0))] W' fun e w' => e = .returned (.tuple #[]) ∧ Q w' ∧ ActAt w' w.heap.size x) :
    Calls Tryz.prog 42 #[.pointer (some ⟨yp, 0, none⟩), .pointer (some ⟨gp, 0, none⟩), actG x] w fun e w' => e = .returned (.tuple #[]) ∧ Q w' := by
  have g0 : (x.kind.toList == [119, 114, 105, 116, 101]) = false := by rw [hk]; rfl
  have g1 : (x.kind.toList == [119, 105, 112, 101]) = true := by rw [hk]; rfl
  have HC1 := toHid (HC _ rfl)
  have HIS := toHid (fun W => is_one F W)
  unfold actBox at HC1
  unfold actG
  clear HC hk
  by_cases h1 : F = 1
  · rw [decide_eq_true h1] at HIS
    have HN1 := toHid (HN h1)
    clear HN HW HB
    generalize erV F = E at HC1 HIS
    go_enter Tryz.func42, Tryz.ntmps42
    go_wp2_with fail
    refine HC1.out.mono ?_
    rintro e w1 ⟨rfl, hp, _⟩
    have HQ := toHid (HN1.out _ hp)
    clear hp HC1 HN1
    go_wp2_with fail
    refine (HIS.out _).mono ?_
    rintro e w' ⟨rfl, hw⟩
    have hw' := hw.symm
    subst hw'
    clear hw HIS
    go_wp2
    go_end0
    exact ⟨rfl, HQ.out⟩
  · rw [decide_eq_false h1] at HIS
    have HW1 := toHid (HW h1)
    obtain ⟨nb, hnb⟩ : ∃ nb : Nat, x.b = (nb : Int) := ⟨x.b.toNat, by have := HB h1; omega⟩
    have hnb2 : nb ≤ 200 := by have := HB h1; omega
    have HNO : Hid (∀ W : World, Calls Tryz.prog 72 #[.int .i64 (16 * x.b)] W fun e w' => e = .returned (.string (noughtB (x.b.toNat * 16))) ∧ Below W.heap.size W w') := fun W => by
      have := noughtsM_any (16 * nb) W (by omega)
      rw [show ((16 * nb : Nat) : Int) = 16 * (nb : Int) by omega] at this
      rw [hnb, show ((nb : Int)).toNat * 16 = 16 * nb by omega]
      exact this
    have kw : IntKind.i64.wrap (16 * x.b) = 16 * x.b := IntWalk.i64_in _ (by omega)
    clear hnb hnb2
    generalize noughtB (x.b.toNat * 16) = T at HW1 HNO
    clear HN HW HB
    have hE : (erV F = .nilIface ∧ decide (F = 0) = true) ∨ (erV F = .iface 127 (.int .i64 F) ∧ decide (F = 0) = false) := by
      by_cases h0 : F = 0
      · exact .inl ⟨by rw [h0, erV_0], decide_eq_true h0⟩
      · exact .inr ⟨erV_some h0, decide_eq_false h0⟩
    rcases hE with ⟨hE, hD⟩ | ⟨hE, hD⟩ <;> rw [hE] at HC1 HIS <;> rw [hD] at HW1 <;> clear hE hD
    all_goals
      go_enter Tryz.func42, Tryz.ntmps42
      go_wp2_with fail
      refine HC1.out.mono ?_
      rintro e w1 ⟨rfl, hp, ha⟩
      have HW2 := toHid (fun W' hb => HW1.out w1 W' hp hb)
      have HA1 : Hid (ActAt w1 w.heap.size x) := ha
      obtain ⟨z1, z2, z5⟩ := ha.cells
      have HS1 : Hid (w1.drew.cell? ⟨w.heap.size, 1, none⟩ = some (.int .i64 x.a) ∧ w1.drew.cell? ⟨w.heap.size, 2, none⟩ = some (.int .i64 x.b)) := ⟨z1, z2⟩
      clear hp ha HC1 HW1 z1 z2 z5
      go_wp2_with fail
      refine (HIS.out _).mono ?_
      rintro e w' ⟨rfl, hw⟩
      have hw' := hw.symm
      subst hw'
      clear hw HIS
      go_upto_region 10 with fail
      go_region_held3 (fun W => W.cell? ⟨w.heap.size, 1, none⟩ = some (.int .i64 x.a) ∧ W.cell? ⟨w.heap.size, 2, none⟩ = some (.int .i64 x.b))
        (first | (exact HS1.out) | assumption)
        (first
          | (go_at_call 72; refine (HNO.out _).mono ?_; rintro e w3 ⟨rfl, hb3⟩; have hb3' : Below w1.heap.size w1 w3 := ⟨hb3.os, hb3.tape, hb3.output, hb3.size, hb3.block⟩; have HW3 := toHid (HW2.out w3 hb3'); have ha3 : ActAt w3 w.heap.size x := ⟨(hb3'.block _ (lt_of_some HA1.out.blk)).trans HA1.out.blk⟩; have hS3 : w3.cell? ⟨w.heap.size, 1, none⟩ = some (.int .i64 x.a) ∧ w3.cell? ⟨w.heap.size, 2, none⟩ = some (.int .i64 x.b) := ⟨ha3.cells.1, ha3.cells.2.1⟩; clear hb3 hb3' ha3)
          | (go_at_call 141; refine HW3.out.mono ?_; rintro e w2 ⟨rfl, hq, ha2⟩; have HQ := toHid hq; have hS2 : w2.cell? ⟨w.heap.size, 1, none⟩ = some (.int .i64 x.a) ∧ w2.cell? ⟨w.heap.size, 2, none⟩ = some (.int .i64 x.b) := ⟨ha2.cells.1, ha2.cells.2.1⟩; clear hq ha2))
      go_wp2
      go_end0
      exact ⟨rfl, HQ.out⟩

set_option maxRecDepth 100000 in
set_option maxHeartbeats 2000000 in
theorem did_flush {yp gp : Nat} {P Q : World → Prop} (x : ActV) (w : World) (hk : x.kind.toList = [102, 108, 117, 115, 104])
    (HC : ∀ W : World, Below w.heap.size w W → Calls Tryz.prog 112 #[.pointer (some ⟨yp, 0, none⟩)] W fun e w' => e = .returned (.tuple #[]) ∧ P w')
    (HW : ∀ W : World, P W → Calls Tryz.prog 142 #[.pointer (some ⟨gp, 0, none⟩)] W fun e w' => e = .returned (.tuple #[]) ∧ Q w') :
    Calls Tryz.prog 42 #[.pointer (some ⟨yp, 0, none⟩), .pointer (some ⟨gp, 0, none⟩), actG x] w fun e w' => e = .returned (.tuple #[]) ∧ Q w' := by
  have g0 : (x.kind.toList == [119, 114, 105, 116, 101]) = false := by rw [hk]; rfl
  have g1 : (x.kind.toList == [119, 105, 112, 101]) = false := by rw [hk]; rfl
  have g2 : (x.kind.toList == [102, 108, 117, 115, 104]) = true := by rw [hk]; rfl
  have HB0 : Hid (Below w.heap.size w (w.alloc (actBox x))) := (Below.refl _ _).alloc (Nat.le_refl _) _
  have HC1 := toHid (HC _ HB0.out)
  have HW1 := toHid HW
  unfold actBox at HC1 HB0
  unfold actG
  clear HC HW hk
  go_enter Tryz.func42, Tryz.ntmps42
  go_wp2_with fail
  refine HC1.out.mono ?_
  rintro e w1 ⟨rfl, hp⟩
  have HW2 := toHid (HW1.out _ hp)
  clear hp HC1 HW1
  go_wp2_with fail
  refine HW2.out.mono ?_
  rintro e w2 ⟨rfl, hq⟩
  have HQ := toHid hq
  clear hq HW2
  go_wp2
  go_end0
  exact ⟨rfl, HQ.out⟩
end Go.Proofs.YtonhoahnieoebabGreatDoor

namespace Go.Proofs.YtonhoahnieoebabGreatDoor
open Go.RowKit Go.Maps

abbrev Rw := List (List UInt8)
def setV (vs : Nat → Value) (k : Nat) (v : Value) : Nat → Value := fun j => if j = k then v else vs j
def setR (rows : Nat → Rw) (k : Nat) (l : Rw) : Nat → Rw := fun j => if j = k then l else rows j

/- A table: a row of rows, each in a block of its own. -/
structure IsT (w : World) (v : Value) (n : Nat) (vs : Nat → Value) (rows : Nat → Rw) : Prop where
  own : w.ownsRow 0 202 1 v n ((List.range n).map vs)
  row : ∀ k, k < n → w.ownsRow 0 9 1 (vs k) (rows k).length (flS (rows k))
  inj : ∀ i j, i < n → j < n → i ≠ j → ∀ b, (vs i).ownBlock = some b → (vs j).ownBlock ≠ some b
def fpT (v : Value) (n : Nat) (vs : Nat → Value) (k : Nat) : Prop := v.ownBlock = some k ∨ ∃ i, i < n ∧ (vs i).ownBlock = some k

theorem IsT.lt {w : World} {v : Value} {n : Nat} {vs : Nat → Value} {rows : Nat → Rw} (h : IsT w v n vs rows) {k : Nat} (hk : fpT v n vs k) : k < w.heap.size := by
  rcases hk with hk | ⟨i, hi, hk⟩
  · exact (h.own.lt k hk).2
  · exact ((h.row i hi).lt k hk).2
theorem IsT.keep {w w' : World} {v : Value} {n : Nat} {vs : Nat → Value} {rows : Nat → Rw} (h : IsT w v n vs rows) (hk : ∀ k, fpT v n vs k → w'.heap[k]? = w.heap[k]?) : IsT w' v n vs rows :=
  ⟨ownsRow_keep h.own fun k e => hk k (.inl e), fun i hi => ownsRow_keep (h.row i hi) fun k e => hk k (.inr ⟨i, hi, e⟩), h.inj⟩
/- The kinds of its blocks. -/
theorem IsT.kind {w : World} {v : Value} {n : Nat} {vs : Nat → Value} {rows : Nat → Rw} (h : IsT w v n vs rows) {k : Nat} (hk : fpT v n vs k) : ∃ cur t, w.heap[k]? = some (.cells cur t (0, 0)) ∧ (t = 202 ∨ t = 9) := by
  rcases hk with hk | ⟨i, hi, hk⟩
  · obtain ⟨c, e⟩ := ownsRow_kind h.own k hk; exact ⟨c, _, e, .inl rfl⟩
  · obtain ⟨c, e⟩ := ownsRow_kind (h.row i hi) k hk; exact ⟨c, _, e, .inr rfl⟩
theorem IsT.rowNot {w : World} {v : Value} {n : Nat} {vs : Nat → Value} {rows : Nat → Rw} (h : IsT w v n vs rows) {i b : Nat} (hi : i < n) (hb : (vs i).ownBlock = some b) : v.ownBlock ≠ some b := fun e => by
  obtain ⟨c, e1⟩ := ownsRow_kind h.own b e
  obtain ⟨c2, e2⟩ := ownsRow_kind (h.row i hi) b hb
  rw [e1] at e2; cases e2
theorem IsT.cell {w : World} {v : Value} {n : Nat} {vs : Nat → Value} {rows : Nat → Rw} (h : IsT w v n vs rows) {k : Nat} (hk : k < n) : ∃ g cap, v = .slice (some ⟨g, 0, none⟩) n cap ∧ w.cell? ⟨g, k, none⟩ = some (vs k) ∧ w.frozen? ⟨g, k, none⟩ = false := by
  obtain ⟨g, cap, h1, h2, _, h4⟩ := ownsRow_cell h.own k hk
  refine ⟨g, cap, h1, ?_, h4⟩
  rw [h2, List.getElem?_map, List.getElem?_range hk]; rfl

theorem map_set (vs : Nat → Value) (n i : Nat) (u : Value) : (List.range n).map (setV vs i u) = ((List.range n).map vs).set i u := by
  refine List.ext_getElem? fun k => ?_
  rw [List.getElem?_map, List.getElem?_set, List.getElem?_map, List.length_map, List.length_range]
  unfold setV
  by_cases hk : k < n
  · rw [List.getElem?_range hk]
    by_cases e : i = k
    · subst e; simp [hk]
    · simp [e, Ne.symm e]
  · rw [List.getElem?_eq_none (by simp; omega)]
    by_cases e : i = k
    · subst e; simp [hk]
    · simp [e]

/- A row is set: of the others nothing has turned. -/
theorem IsT.set {w w1 : World} {v : Value} {n : Nat} {vs : Nat → Value} {rows : Nat → Rw} (h : IsT w v n vs rows) {i g cap : Nat} (hv : v = .slice (some ⟨g, 0, none⟩) n cap) (hg : w1.heap[g]? = w.heap[g]?) (hr : ∀ j, j < n → j ≠ i → ∀ b, (vs j).ownBlock = some b → w1.heap[b]? = w.heap[b]?)
    {u : Value} {l : Rw} (ho : w1.ownsRow 0 9 1 u l.length (flS l)) (hu : ∀ j, j < n → j ≠ i → ∀ b, (vs j).ownBlock = some b → u.ownBlock ≠ some b) :
    IsT (w1.setCell ⟨g, i, none⟩ u) v n (setV vs i u) (setR rows i l) := by
  subst hv
  have hown : w1.ownsRow 0 202 1 (.slice (some ⟨g, 0, none⟩) n cap) n ((List.range n).map vs) := ownsRow_keep h.own fun k e => by
    have : g = k := by simpa [Value.ownBlock] using e
    subst this; exact hg
  obtain ⟨cg, hgk⟩ := ownsRow_kind hown g rfl
  have hne : ∀ b c, w1.heap[b]? = some (.cells c 9 (0, 0)) → b ≠ g := fun b c e e2 => by rw [e2, hgk] at e; cases e
  refine ⟨?_, fun k hk => ?_, fun a b ha hb hab c e => ?_⟩
  · rw [map_set]; exact (hown.stored i u).1
  · unfold setV setR
    by_cases e : k = i
    · rw [if_pos e, if_pos e]
      refine ownsRow_keep ho fun b hb => ?_
      obtain ⟨c2, hc2⟩ := ownsRow_kind ho b hb
      exact heap_setCell_other _ _ _ _ (hne b c2 hc2)
    · rw [if_neg e, if_neg e]
      have hrow := ownsRow_keep (w' := w1) (h.row k hk) fun b hb => hr k hk e b hb
      refine ownsRow_keep hrow fun b hb => ?_
      obtain ⟨c2, hc2⟩ := ownsRow_kind hrow b hb
      exact heap_setCell_other _ _ _ _ (hne b c2 hc2)
  · unfold setV at e ⊢
    by_cases ea : a = i
    · have eb : b ≠ i := fun e => hab (by rw [ea, e])
      rw [if_pos ea] at e
      rw [if_neg eb]
      exact fun e2 => hu b hb eb c e2 e
    · rw [if_neg ea] at e
      by_cases eb : b = i
      · rw [if_pos eb]; exact hu a ha ea c e
      · rw [if_neg eb]; exact h.inj a b ha hb hab c e

/- A guest: what its sectors may be now, and behind a crash. -/
structure Gh where
  vn : Value
  vc : Value
  rn : Nat → Value
  rc : Nat → Value
structure GV where
  now : Nat → Rw
  cr : Nat → Rw

def fpG (gp : Nat) (G : Gh) (n : Nat) (k : Nat) : Prop := k = gp ∨ fpT G.vn n G.rn k ∨ fpT G.vc n G.rc k
structure IsG (w : World) (gp : Nat) (G : Gh) (n : Nat) (g : GV) : Prop where
  blk : w.heap[gp]? = some (.cells #[G.vn, G.vc] 200 (0, 0))
  now : IsT w G.vn n G.rn g.now
  cr : IsT w G.vc n G.rc g.cr
  apart : ∀ k, fpT G.vn n G.rn k → ¬ fpT G.vc n G.rc k

theorem IsG.lt {w : World} {gp : Nat} {G : Gh} {n : Nat} {g : GV} (h : IsG w gp G n g) {k : Nat} (hk : fpG gp G n k) : k < w.heap.size := by
  rcases hk with rfl | hk | hk
  · exact lt_of_some h.blk
  · exact h.now.lt hk
  · exact h.cr.lt hk
theorem IsG.kind {w : World} {gp : Nat} {G : Gh} {n : Nat} {g : GV} (h : IsG w gp G n g) {k : Nat} (hk : fpG gp G n k) : ∃ cur t, w.heap[k]? = some (.cells cur t (0, 0)) ∧ (t = 200 ∨ t = 202 ∨ t = 9) := by
  rcases hk with rfl | hk | hk
  · exact ⟨_, _, h.blk, .inl rfl⟩
  · obtain ⟨c, t, e, p⟩ := h.now.kind hk; exact ⟨c, t, e, .inr p⟩
  · obtain ⟨c, t, e, p⟩ := h.cr.kind hk; exact ⟨c, t, e, .inr p⟩
theorem IsG.keep {w w' : World} {gp : Nat} {G : Gh} {n : Nat} {g : GV} (h : IsG w gp G n g) (hk : ∀ k, fpG gp G n k → w'.heap[k]? = w.heap[k]?) : IsG w' gp G n g :=
  ⟨by rw [hk _ (.inl rfl)]; exact h.blk, h.now.keep fun k e => hk k (.inr (.inl e)), h.cr.keep fun k e => hk k (.inr (.inr e)), h.apart⟩
theorem IsG.below {w w' : World} {gp : Nat} {G : Gh} {n : Nat} {g : GV} (h : IsG w gp G n g) (hb : Below w.heap.size w w') : IsG w' gp G n g := h.keep fun _ hk => hb.block _ (h.lt hk)
theorem IsG.beside {S S' : Nat → Prop} {w w' : World} {gp : Nat} {G : Gh} {n : Nat} {g : GV} (h : IsG w gp G n g) (hm : Moved S w S' w') (hs : ∀ k, fpG gp G n k → ¬ S k) : IsG w' gp G n g := h.keep fun k hk => hm.block (h.lt hk) (hs k hk)
theorem IsG.gpNot {w : World} {gp : Nat} {G : Gh} {n : Nat} {g : GV} (h : IsG w gp G n g) : ¬ fpT G.vn n G.rn gp ∧ ¬ fpT G.vc n G.rc gp := by
  have hb := h.blk
  constructor
  · intro e
    obtain ⟨c, t, e1, p⟩ := h.now.kind e
    rw [hb] at e1
    cases e1
    rcases p with p | p <;> cases p
  · intro e
    obtain ⟨c, t, e1, p⟩ := h.cr.kind e
    rw [hb] at e1
    cases e1
    rcases p with p | p <;> cases p
theorem IsG.cells {w : World} {gp : Nat} {G : Gh} {n : Nat} {g : GV} (h : IsG w gp G n g) : w.cell? ⟨gp, 0, none⟩ = some G.vn ∧ w.cell? ⟨gp, 1, none⟩ = some G.vc := by
  refine ⟨?_, ?_⟩ <;> rw [cell_of_row w gp _ _ _ _ h.blk] <;> rfl

/- A row of the table of what is now is set; one of that behind a crash. -/
theorem IsG.setNow {w w1 : World} {gp : Nat} {G : Gh} {n : Nat} {g : GV} (h : IsG w gp G n g) {i b cap : Nat} (hi : i < n) (hv : G.vn = .slice (some ⟨b, 0, none⟩) n cap) (hk : Kept (fun k => (G.rn i).ownBlock = some k) w w1) {u : Value} {l : Rw} (ho : w1.ownsRow 0 9 1 u l.length (flS l)) (hu : ∀ k, u.ownBlock = some k → (G.rn i).ownBlock = some k ∨ w.heap.size ≤ k) :
    IsG (w1.setCell ⟨b, i, none⟩ u) gp { G with rn := setV G.rn i u } n { g with now := setR g.now i l } ∧ Moved (fpG gp G n) w (fpG gp { G with rn := setV G.rn i u } n) (w1.setCell ⟨b, i, none⟩ u) := by
  have hbb : G.vn.ownBlock = some b := by rw [hv]; rfl
  have hbl := h.now.lt (.inl hbb)
  have hin : ∀ k, (G.rn i).ownBlock = some k → fpT G.vn n G.rn k := fun k e => .inr ⟨i, hi, e⟩
  have hT := h.now.set (w1 := w1) (i := i) hv (hk.block b hbl fun e => h.now.rowNot hi e hbb) (fun j hj hji k e => hk.block k ((h.now.row j hj).lt k e).2 fun e2 => h.now.inj j i hj hi hji k e e2) ho (fun j hj hji k e e2 => by
    rcases hu k e2 with e3 | e3
    · exact h.now.inj j i hj hi hji k e e3
    · have := ((h.now.row j hj).lt k e).2; omega)
  have hset : ∀ k, k < w.heap.size → ¬ (G.rn i).ownBlock = some k → k ≠ b → (w1.setCell ⟨b, i, none⟩ u).heap[k]? = w.heap[k]? := fun k h1 h2 h3 => by rw [heap_setCell_other _ _ _ _ h3]; exact hk.block k h1 h2
  have hfp : ∀ k, fpT G.vn n (setV G.rn i u) k → fpT G.vn n G.rn k ∨ w.heap.size ≤ k := fun k e => by
    rcases e with e | ⟨j, hj, e⟩
    · exact .inl (.inl e)
    · unfold setV at e
      by_cases ej : j = i
      · rw [if_pos ej] at e
        rcases hu k e with e2 | e2
        · exact .inl (hin k e2)
        · exact .inr e2
      · rw [if_neg ej] at e; exact .inl (.inr ⟨j, hj, e⟩)
  refine ⟨⟨?_, hT, ?_, fun k e e2 => ?_⟩, ⟨?_, fun k e => ?_⟩⟩
  · rw [hset gp (lt_of_some h.blk) (fun e => h.gpNot.1 (hin _ e)) (fun e => h.gpNot.1 (by rw [e]; exact .inl hbb))]; exact h.blk
  · exact h.cr.keep fun k e => hset k (h.cr.lt e) (fun e2 => h.apart k (hin k e2) e) (fun e2 => h.apart k (by rw [e2]; exact .inl hbb) e)
  · rcases hfp k e with e3 | e3
    · exact h.apart k e3 e2
    · have := h.cr.lt e2; omega
  · refine ⟨hk.os, hk.tape, hk.output, by simpa [World.setCell] using hk.size, fun k h1 h2 => hset k h1 (fun e => h2 (.inr (.inl (hin k e)))) (fun e => h2 (.inr (.inl (by rw [e]; exact .inl hbb))))⟩
  · rcases e with e | e | e
    · exact .inl (.inl e)
    · rcases hfp k e with e2 | e2
      · exact .inl (.inr (.inl e2))
      · exact .inr e2
    · exact .inl (.inr (.inr e))

theorem IsG.setCr {w w1 : World} {gp : Nat} {G : Gh} {n : Nat} {g : GV} (h : IsG w gp G n g) {i b cap : Nat} (hi : i < n) (hv : G.vc = .slice (some ⟨b, 0, none⟩) n cap) (hk : Kept (fun k => (G.rc i).ownBlock = some k) w w1) {u : Value} {l : Rw} (ho : w1.ownsRow 0 9 1 u l.length (flS l)) (hu : ∀ k, u.ownBlock = some k → (G.rc i).ownBlock = some k ∨ w.heap.size ≤ k) :
    IsG (w1.setCell ⟨b, i, none⟩ u) gp { G with rc := setV G.rc i u } n { g with cr := setR g.cr i l } ∧ Moved (fpG gp G n) w (fpG gp { G with rc := setV G.rc i u } n) (w1.setCell ⟨b, i, none⟩ u) := by
  have hbb : G.vc.ownBlock = some b := by rw [hv]; rfl
  have hbl := h.cr.lt (.inl hbb)
  have hin : ∀ k, (G.rc i).ownBlock = some k → fpT G.vc n G.rc k := fun k e => .inr ⟨i, hi, e⟩
  have hT := h.cr.set (w1 := w1) (i := i) hv (hk.block b hbl fun e => h.cr.rowNot hi e hbb) (fun j hj hji k e => hk.block k ((h.cr.row j hj).lt k e).2 fun e2 => h.cr.inj j i hj hi hji k e e2) ho (fun j hj hji k e e2 => by
    rcases hu k e2 with e3 | e3
    · exact h.cr.inj j i hj hi hji k e e3
    · have := ((h.cr.row j hj).lt k e).2; omega)
  have hset : ∀ k, k < w.heap.size → ¬ (G.rc i).ownBlock = some k → k ≠ b → (w1.setCell ⟨b, i, none⟩ u).heap[k]? = w.heap[k]? := fun k h1 h2 h3 => by rw [heap_setCell_other _ _ _ _ h3]; exact hk.block k h1 h2
  have hfp : ∀ k, fpT G.vc n (setV G.rc i u) k → fpT G.vc n G.rc k ∨ w.heap.size ≤ k := fun k e => by
    rcases e with e | ⟨j, hj, e⟩
    · exact .inl (.inl e)
    · unfold setV at e
      by_cases ej : j = i
      · rw [if_pos ej] at e
        rcases hu k e with e2 | e2
        · exact .inl (hin k e2)
        · exact .inr e2
      · rw [if_neg ej] at e; exact .inl (.inr ⟨j, hj, e⟩)
  refine ⟨⟨?_, ?_, hT, fun k e e2 => ?_⟩, ⟨?_, fun k e => ?_⟩⟩
  · rw [hset gp (lt_of_some h.blk) (fun e => h.gpNot.2 (hin _ e)) (fun e => h.gpNot.2 (by rw [e]; exact .inl hbb))]; exact h.blk
  · exact h.now.keep fun k e => hset k (h.now.lt e) (fun e2 => h.apart k e (hin k e2)) (fun e2 => h.apart k e (by rw [e2]; exact .inl hbb))
  · rcases hfp k e2 with e3 | e3
    · exact h.apart k e e3
    · have := h.now.lt e; omega
  · refine ⟨hk.os, hk.tape, hk.output, by simpa [World.setCell] using hk.size, fun k h1 h2 => hset k h1 (fun e => h2 (.inr (.inr (hin k e)))) (fun e => h2 (.inr (.inr (by rw [e]; exact .inl hbb))))⟩
  · rcases e with e | e | e
    · exact .inl (.inl e)
    · exact .inl (.inr (.inl e))
    · rcases hfp k e with e2 | e2
      · exact .inl (.inr (.inr e2))
      · exact .inr e2

/- One text in a row of its own. -/
theorem one_row (w : World) (s : List UInt8) : (w.alloc (.cells #[.string (bytesOf s)] 9)).ownsRow 0 9 1 (.slice (some ⟨w.heap.size, 0, none⟩) 1 1) [s].length (flS [s]) :=
  ⟨rfl, .inr ⟨w.heap.size, 1, #[.string (bytesOf s)], rfl, Nat.zero_le _, heap_alloc_new w _, Nat.le_refl _, by unfold maxLen; decide, rfl, rfl⟩⟩
theorem IsG.oneNow {w : World} {gp : Nat} {G : Gh} {n : Nat} {g : GV} (h : IsG w gp G n g) {i b cap : Nat} (hi : i < n) (hv : G.vn = .slice (some ⟨b, 0, none⟩) n cap) (s : List UInt8) :
    IsG ((w.alloc (.cells #[.string (bytesOf s)] 9)).setCell ⟨b, i, none⟩ (.slice (some ⟨w.heap.size, 0, none⟩) 1 1)) gp { G with rn := setV G.rn i (.slice (some ⟨w.heap.size, 0, none⟩) 1 1) } n { g with now := setR g.now i [s] } ∧ Moved (fpG gp G n) w (fpG gp { G with rn := setV G.rn i (.slice (some ⟨w.heap.size, 0, none⟩) 1 1) } n) ((w.alloc (.cells #[.string (bytesOf s)] 9)).setCell ⟨b, i, none⟩ (.slice (some ⟨w.heap.size, 0, none⟩) 1 1)) :=
  h.setNow hi hv ((Kept.refl _ w).alloc _) (one_row w s) fun k e => by
    have : w.heap.size = k := by simpa [Value.ownBlock] using e
    exact .inr (by omega)
end Go.Proofs.YtonhoahnieoebabGreatDoor
