/-
BitsSays: its loop.
-/
import Derived.Test.YtlfecjgmmhbanaaDoorQBitsSays1
namespace Go.Proofs.YtlfecjgmmhbanaaDoor.S4
open Go.RowKit Go.Shelf
attribute [local go_sem ↓] Go.wp_at_zero Go.wp_at_succ
attribute [local go_sem] Oper.semAt_some

theorem rset_new (w : World) (n : Nat) (hc : (#[.int .i64 (n : Int)] ++ Array.replicate 64 (.bool false) : Array Value).size = 65) : IsRset (w.alloc (.cells (#[.int .i64 (n : Int)] ++ Array.replicate 64 (.bool false)) 39)) w.heap.size n 0 := by
  refine ⟨_, newB w _, hc, by simp, fun j hj => ?_⟩
  rw [Array.getElem?_append_right (by simp)]
  simp [Array.getElem?_replicate]
  omega

set_option maxRecDepth 100000 in
theorem rset_lit (w : World) (n : Nat) : IsRset (w.alloc (.cells ((.int .i64 (n : Int) :: Value.bool false :: Value.bool false :: Value.bool false :: Value.bool false :: Value.bool false :: Value.bool false :: Value.bool false :: Value.bool false :: Value.bool false :: Value.bool false :: Value.bool false :: Value.bool false :: Value.bool false :: Value.bool false :: Value.bool false :: Value.bool false :: Value.bool false :: Value.bool false :: Value.bool false :: Value.bool false :: Value.bool false :: Value.bool false :: Value.bool false :: Value.bool false :: Value.bool false :: Value.bool false :: Value.bool false :: Value.bool false :: Value.bool false :: Value.bool false :: Value.bool false :: Value.bool false :: Value.bool false :: Value.bool false :: Value.bool false :: Value.bool false :: Value.bool false :: Value.bool false :: Value.bool false :: Value.bool false :: Value.bool false :: Value.bool false :: Value.bool false :: Value.bool false :: Value.bool false :: Value.bool false :: Value.bool false :: Value.bool false :: Value.bool false :: Value.bool false :: Value.bool false :: Value.bool false :: Value.bool false :: Value.bool false :: Value.bool false :: Value.bool false :: Value.bool false :: Value.bool false :: Value.bool false :: Value.bool false :: Value.bool false :: Value.bool false :: Value.bool false :: Value.bool false :: [] : List Value).toArray) 39)) w.heap.size n 0 := by
  have e : ((.int .i64 (n : Int) :: Value.bool false :: Value.bool false :: Value.bool false :: Value.bool false :: Value.bool false :: Value.bool false :: Value.bool false :: Value.bool false :: Value.bool false :: Value.bool false :: Value.bool false :: Value.bool false :: Value.bool false :: Value.bool false :: Value.bool false :: Value.bool false :: Value.bool false :: Value.bool false :: Value.bool false :: Value.bool false :: Value.bool false :: Value.bool false :: Value.bool false :: Value.bool false :: Value.bool false :: Value.bool false :: Value.bool false :: Value.bool false :: Value.bool false :: Value.bool false :: Value.bool false :: Value.bool false :: Value.bool false :: Value.bool false :: Value.bool false :: Value.bool false :: Value.bool false :: Value.bool false :: Value.bool false :: Value.bool false :: Value.bool false :: Value.bool false :: Value.bool false :: Value.bool false :: Value.bool false :: Value.bool false :: Value.bool false :: Value.bool false :: Value.bool false :: Value.bool false :: Value.bool false :: Value.bool false :: Value.bool false :: Value.bool false :: Value.bool false :: Value.bool false :: Value.bool false :: Value.bool false :: Value.bool false :: Value.bool false :: Value.bool false :: Value.bool false :: Value.bool false :: Value.bool false :: [] : List Value).toArray) = (#[.int .i64 (n : Int)] ++ Array.replicate 64 (.bool false) : Array Value) := by kernel_rfl
  rw [e]
  exact rset_new w n (by simp)

set_option maxRecDepth 100000 in
theorem zero_set (w : World) : (zeroValue 39).run Tryd.prog w = .ok (.agg ((.int .i64 0 :: Value.bool false :: Value.bool false :: Value.bool false :: Value.bool false :: Value.bool false :: Value.bool false :: Value.bool false :: Value.bool false :: Value.bool false :: Value.bool false :: Value.bool false :: Value.bool false :: Value.bool false :: Value.bool false :: Value.bool false :: Value.bool false :: Value.bool false :: Value.bool false :: Value.bool false :: Value.bool false :: Value.bool false :: Value.bool false :: Value.bool false :: Value.bool false :: Value.bool false :: Value.bool false :: Value.bool false :: Value.bool false :: Value.bool false :: Value.bool false :: Value.bool false :: Value.bool false :: Value.bool false :: Value.bool false :: Value.bool false :: Value.bool false :: Value.bool false :: Value.bool false :: Value.bool false :: Value.bool false :: Value.bool false :: Value.bool false :: Value.bool false :: Value.bool false :: Value.bool false :: Value.bool false :: Value.bool false :: Value.bool false :: Value.bool false :: Value.bool false :: Value.bool false :: Value.bool false :: Value.bool false :: Value.bool false :: Value.bool false :: Value.bool false :: Value.bool false :: Value.bool false :: Value.bool false :: Value.bool false :: Value.bool false :: Value.bool false :: Value.bool false :: Value.bool false :: [] : List Value).toArray)) w := by kernel_rfl

structure AlikeW (a b : World) : Prop where
  heap : b.heap = a.heap
  os : b.os = a.os
  tape : b.tape = a.tape
  output : b.output = a.output

theorem St.alikeW {w W W1 : World} {R p mb q n x y : Nat} {ds : List Nat} (h : St w W R p mb q n x y ds) (ha : AlikeW W W1) : St w W1 R p mb q n x y ds := h.alike ⟨ha.heap, ha.os, ha.tape, ha.output⟩
theorem Box.alikeW {W W1 : World} {N : Nat} {a : ActV} (h : Box W N a) (ha : AlikeW W W1) : Box W1 N a := ⟨by rw [ha.heap]; exact h.blk⟩

/- What a round reads again and again. -/
def Sees (W : World) (N mb q : Nat) (a : ActV) : Prop := W.cell? ⟨N, 1, none⟩ = some (.int .i64 a.a) ∧ W.cell? ⟨N, 2, none⟩ = some (.int .i64 a.b) ∧ W.cell? ⟨mb, 0, none⟩ = some (.pointer (some ⟨q, 0, none⟩))

theorem St.sees {w W : World} {R p mb q n x y N : Nat} {ds : List Nat} {a : ActV} (h : St w W R p mb q n x y ds) (hb : Box W N a) : W.cell? ⟨N, 1, none⟩ = some (.int .i64 a.a) ∧ W.cell? ⟨N, 2, none⟩ = some (.int .i64 a.b) ∧ W.cell? ⟨mb, 0, none⟩ = some (.pointer (some ⟨q, 0, none⟩)) := ⟨hb.cells.2.1, hb.cells.2.2.1, h.box.cell⟩

/- A number is put into both, or taken out. -/
theorem put_two {w W : World} {R p mb q n x N : Nat} {ds : List Nat} {a : ActV} (h : St w W R p mb q n x x ds) (hb : Box W N a) (i : Int) (b : Bool) :
    ∀ W' : World, AlikeW W W' → Calls Tryd.prog 11 #[.pointer (some ⟨p, 0, none⟩), .int .i64 i, .bool b] W' fun e w1 => e = .returned (.bool (putB n x i b)) ∧ (w1.cell? ⟨N, 1, none⟩ = some (.int .i64 a.a) ∧ w1.cell? ⟨N, 2, none⟩ = some (.int .i64 a.b) ∧ w1.cell? ⟨mb, 0, none⟩ = some (.pointer (some ⟨q, 0, none⟩))) ∧
      ∀ W'' : World, AlikeW w1 W'' → Calls Tryd.prog 12 #[.pointer (some ⟨q, 0, none⟩), .int .i64 i, .bool b] W'' fun e w2 => e = .returned (.bool (putB n x i b)) ∧ (w2.cell? ⟨N, 1, none⟩ = some (.int .i64 a.a) ∧ w2.cell? ⟨N, 2, none⟩ = some (.int .i64 a.b) ∧ w2.cell? ⟨mb, 0, none⟩ = some (.pointer (some ⟨q, 0, none⟩))) ∧
        ∀ W3 : World, AlikeW w2 W3 → St w W3 R p mb q n (putV n x i b) (putV n x i b) ds ∧ Box W3 N a := by
  intro W' ha
  have h0 := h.alikeW ha
  have b0 := hb.alikeW ha
  refine (sput_any i b W' h0.one h0.ok1).mono ?_
  rintro e w1 ⟨rfl, h1, hk1⟩
  have h2 := h0.turn1 h1 (putV_ok h0.ok1 i b) hk1
  have b2 := b0.kept hk1 (b0.ne1 h0.one)
  refine ⟨rfl, h2.sees b2, fun W'' ha' => ?_⟩
  have h3 := h2.alikeW ha'
  have b3 := b2.alikeW ha'
  refine (rput_any i b W'' h3.two h3.ok2.n1).mono ?_
  rintro e w2 ⟨rfl, h4, hk2⟩
  have h5 := h3.turn2 h4 (putV_ok h3.ok2 i b) hk2
  have b5 := b3.kept hk2 (b3.ne2 h3.two)
  exact ⟨rfl, h5.sees b5, fun W3 ha3 => ⟨h5.alikeW ha3, b5.alikeW ha3⟩⟩

theorem alikeN (W : World) (m : Nat) : AlikeW W (W.drewN m) := ⟨rfl, rfl, rfl, rfl⟩

set_option maxRecDepth 100000 in
set_option maxHeartbeats 4000000 in
theorem bits_front (n : Nat) (la : Option Addr) (len cap : Nat) (xs : List ActV) (w : World) (hT : Acts w la len xs) (hlen : len ≤ maxLen) (h2 : lightB xs 80 = true) (hn : n ≤ 64) (hTab : Tab w) :
    Calls Tryd.prog 4 #[.int .i64 (n : Int), .slice la len cap] w fun e w' => e = .returned (.bool true) ∧ Below w.heap.size w w' := by
  have HT0 : Hid (Acts w la len xs) := hT
  have HTB := toHid hTab
  have hw0 : 0 < w.heap.size := World.block_lt_of_cell? w _ (hTab 0 (by decide))
  have hl80 : len ≤ 80 := by
    unfold lightB at h2
    simp only [decide_eq_true_eq] at h2
    have := HT0.out.1
    omega
  clear hT hTab
  have g1 : decide ((n : Int) < 0) = false := decide_eq_false (by omega)
  have g2 : decide (64 < (n : Int)) = false := decide_eq_false (by omega)
  refine (callsIn_wide (n := 9)).1 (callsIn_of_wp_marks Tryd.func4 rfl trivial (wpIn_wide.2 ?_) rfl)
  simp only [Tryd.ntmps4, List.size_toArray, List.length_cons, List.length_nil, Nat.reduceAdd, Nat.reduceSub, Array.replicate_succ, Array.replicate_zero, List.push_toArray, List.append_toArray, List.nil_append, List.cons_append]
  have HR : Hid (Boxed (w.alloc (.cells #[.bool false] 4)) w.heap.size 4 (.bool false)) := Boxed.new w _ _
  have HB : Hid (Below w.heap.size w (w.alloc (.cells #[.bool false] 4))) := (Below.refl _ w).alloc (Nat.le_refl _) _
  go_wp2_with fail
  generalize w.alloc (.cells #[.bool false] 4) = w0 at HR HB ⊢
  refine (counts_any w0).mono ?_
  rintro e w1 ⟨rfl, hb1⟩
  have HR1 : Hid (Boxed w1 w.heap.size 4 (.bool false)) := (hb1.block _ HR.out.lt).trans HR.out
  have HB1 : Hid (Below w.heap.size w w1) := HB.out.trans (hb1.mono HB.out.size)
  clear hb1 HR HB
  go_wp2_with fail
  refine (light_any la len cap 80 xs w1 (HT0.out.below HB1.out) hlen (by omega)).mono ?_
  rintro e w' ⟨he, hw⟩
  have hw' := hw.symm
  subst hw'
  clear hw
  rw [h2] at he
  subst he
  clear h2 hlen
  go_wp2_with fail
  refine (snew_good n w1 hn).mono ?_
  rintro e w2 ⟨rfl, h3, hb2⟩
  have HS2 := toHid h3
  have HR2 : Hid (Boxed w2 w.heap.size 4 (.bool false)) := (hb2.block _ HR1.out.lt).trans HR1.out
  have HB2 : Hid (Below w.heap.size w w2) := HB1.out.trans (hb2.mono HB1.out.size)
  clear h3 hb2 HR1
  have hz := zero_set w2
  have HQ := toHid (rset_lit w2 n)
  have HSt : Hid (St w ((w2.alloc (.cells ((.int .i64 (n : Int) :: Value.bool false :: Value.bool false :: Value.bool false :: Value.bool false :: Value.bool false :: Value.bool false :: Value.bool false :: Value.bool false :: Value.bool false :: Value.bool false :: Value.bool false :: Value.bool false :: Value.bool false :: Value.bool false :: Value.bool false :: Value.bool false :: Value.bool false :: Value.bool false :: Value.bool false :: Value.bool false :: Value.bool false :: Value.bool false :: Value.bool false :: Value.bool false :: Value.bool false :: Value.bool false :: Value.bool false :: Value.bool false :: Value.bool false :: Value.bool false :: Value.bool false :: Value.bool false :: Value.bool false :: Value.bool false :: Value.bool false :: Value.bool false :: Value.bool false :: Value.bool false :: Value.bool false :: Value.bool false :: Value.bool false :: Value.bool false :: Value.bool false :: Value.bool false :: Value.bool false :: Value.bool false :: Value.bool false :: Value.bool false :: Value.bool false :: Value.bool false :: Value.bool false :: Value.bool false :: Value.bool false :: Value.bool false :: Value.bool false :: Value.bool false :: Value.bool false :: Value.bool false :: Value.bool false :: Value.bool false :: Value.bool false :: Value.bool false :: Value.bool false :: Value.bool false :: [] : List Value).toArray) 39)).alloc (.cells #[.pointer (some ⟨w2.heap.size, 0, none⟩)] 36)) w.heap.size w1.heap.size (w2.heap.size + 1) w2.heap.size n 0 0 []) := by
    have hq := HQ.out
    have b3 : Below w2.heap.size w2 (w2.alloc (.cells ((.int .i64 (n : Int) :: Value.bool false :: Value.bool false :: Value.bool false :: Value.bool false :: Value.bool false :: Value.bool false :: Value.bool false :: Value.bool false :: Value.bool false :: Value.bool false :: Value.bool false :: Value.bool false :: Value.bool false :: Value.bool false :: Value.bool false :: Value.bool false :: Value.bool false :: Value.bool false :: Value.bool false :: Value.bool false :: Value.bool false :: Value.bool false :: Value.bool false :: Value.bool false :: Value.bool false :: Value.bool false :: Value.bool false :: Value.bool false :: Value.bool false :: Value.bool false :: Value.bool false :: Value.bool false :: Value.bool false :: Value.bool false :: Value.bool false :: Value.bool false :: Value.bool false :: Value.bool false :: Value.bool false :: Value.bool false :: Value.bool false :: Value.bool false :: Value.bool false :: Value.bool false :: Value.bool false :: Value.bool false :: Value.bool false :: Value.bool false :: Value.bool false :: Value.bool false :: Value.bool false :: Value.bool false :: Value.bool false :: Value.bool false :: Value.bool false :: Value.bool false :: Value.bool false :: Value.bool false :: Value.bool false :: Value.bool false :: Value.bool false :: Value.bool false :: Value.bool false :: Value.bool false :: [] : List Value).toArray) 39)) := (Below.refl _ w2).alloc (Nat.le_refl _) _
    have e3 : (w2.alloc (.cells ((.int .i64 (n : Int) :: Value.bool false :: Value.bool false :: Value.bool false :: Value.bool false :: Value.bool false :: Value.bool false :: Value.bool false :: Value.bool false :: Value.bool false :: Value.bool false :: Value.bool false :: Value.bool false :: Value.bool false :: Value.bool false :: Value.bool false :: Value.bool false :: Value.bool false :: Value.bool false :: Value.bool false :: Value.bool false :: Value.bool false :: Value.bool false :: Value.bool false :: Value.bool false :: Value.bool false :: Value.bool false :: Value.bool false :: Value.bool false :: Value.bool false :: Value.bool false :: Value.bool false :: Value.bool false :: Value.bool false :: Value.bool false :: Value.bool false :: Value.bool false :: Value.bool false :: Value.bool false :: Value.bool false :: Value.bool false :: Value.bool false :: Value.bool false :: Value.bool false :: Value.bool false :: Value.bool false :: Value.bool false :: Value.bool false :: Value.bool false :: Value.bool false :: Value.bool false :: Value.bool false :: Value.bool false :: Value.bool false :: Value.bool false :: Value.bool false :: Value.bool false :: Value.bool false :: Value.bool false :: Value.bool false :: Value.bool false :: Value.bool false :: Value.bool false :: Value.bool false :: Value.bool false :: [] : List Value).toArray) 39)).heap.size = w2.heap.size + 1 := by simp
    generalize w2.alloc (.cells ((.int .i64 (n : Int) :: Value.bool false :: Value.bool false :: Value.bool false :: Value.bool false :: Value.bool false :: Value.bool false :: Value.bool false :: Value.bool false :: Value.bool false :: Value.bool false :: Value.bool false :: Value.bool false :: Value.bool false :: Value.bool false :: Value.bool false :: Value.bool false :: Value.bool false :: Value.bool false :: Value.bool false :: Value.bool false :: Value.bool false :: Value.bool false :: Value.bool false :: Value.bool false :: Value.bool false :: Value.bool false :: Value.bool false :: Value.bool false :: Value.bool false :: Value.bool false :: Value.bool false :: Value.bool false :: Value.bool false :: Value.bool false :: Value.bool false :: Value.bool false :: Value.bool false :: Value.bool false :: Value.bool false :: Value.bool false :: Value.bool false :: Value.bool false :: Value.bool false :: Value.bool false :: Value.bool false :: Value.bool false :: Value.bool false :: Value.bool false :: Value.bool false :: Value.bool false :: Value.bool false :: Value.bool false :: Value.bool false :: Value.bool false :: Value.bool false :: Value.bool false :: Value.bool false :: Value.bool false :: Value.bool false :: Value.bool false :: Value.bool false :: Value.bool false :: Value.bool false :: Value.bool false :: [] : List Value).toArray) 39) = W3 at hq b3 e3 ⊢
    have b4 : Below W3.heap.size W3 (W3.alloc (.cells #[.pointer (some ⟨w2.heap.size, 0, none⟩)] 36)) := (Below.refl _ W3).alloc (Nat.le_refl _) _
    have b24 : Below w2.heap.size w2 (W3.alloc (.cells #[.pointer (some ⟨w2.heap.size, 0, none⟩)] 36)) := b3.trans (b4.mono b3.size)
    refine ⟨HB2.out.trans (b24.mono HB2.out.size), ⟨Nat.le_refl _, HB1.out.size, by have := HB2.out.size; omega, HB2.out.size⟩, (b24.block _ HR2.out.lt).trans HR2.out, ?_, HS2.out.below b24, hq.below b4, set_start n hn, set_start n hn, fun D h => (by cases h), List.nodup_nil⟩
    rw [← e3]; exact Boxed.new W3 _ _
  go_wp2_with fail
  generalize (w2.alloc (.cells ((.int .i64 (n : Int) :: Value.bool false :: Value.bool false :: Value.bool false :: Value.bool false :: Value.bool false :: Value.bool false :: Value.bool false :: Value.bool false :: Value.bool false :: Value.bool false :: Value.bool false :: Value.bool false :: Value.bool false :: Value.bool false :: Value.bool false :: Value.bool false :: Value.bool false :: Value.bool false :: Value.bool false :: Value.bool false :: Value.bool false :: Value.bool false :: Value.bool false :: Value.bool false :: Value.bool false :: Value.bool false :: Value.bool false :: Value.bool false :: Value.bool false :: Value.bool false :: Value.bool false :: Value.bool false :: Value.bool false :: Value.bool false :: Value.bool false :: Value.bool false :: Value.bool false :: Value.bool false :: Value.bool false :: Value.bool false :: Value.bool false :: Value.bool false :: Value.bool false :: Value.bool false :: Value.bool false :: Value.bool false :: Value.bool false :: Value.bool false :: Value.bool false :: Value.bool false :: Value.bool false :: Value.bool false :: Value.bool false :: Value.bool false :: Value.bool false :: Value.bool false :: Value.bool false :: Value.bool false :: Value.bool false :: Value.bool false :: Value.bool false :: Value.bool false :: Value.bool false :: Value.bool false :: [] : List Value).toArray) 39)).alloc (.cells #[.pointer (some ⟨w2.heap.size, 0, none⟩)] 36) = W0 at HSt ⊢
  generalize w1.heap.size = p at HSt ⊢
  generalize w2.heap.size + 1 = mb at HSt ⊢
  generalize w2.heap.size = q at HSt ⊢
  clear HS2 HR2 HB2 HB1 HQ hz
  refine wp_loop (fun a W => ∃ (k x : Nat) (ds : List Nat), k ≤ len ∧ Fr n la len cap w.heap.size p mb k a.tmps ∧ a.defers = ds.map (fun D => { target := .collected D, args := #[] }) ∧ St w W w.heap.size p mb q n x x ds) (fun a _ => len - (intOf (a.tmps.getD 9 undef)).toNat) ?start ?round
  case start => exact ⟨0, 0, [], Nat.zero_le _, Fr.mk .., rfl, HSt.out⟩
  case round =>
    clear HSt
    rintro ⟨T, Df⟩ W ⟨k, x, ds, hk, hfr, hdf, hst⟩
    dsimp only at hfr hdf
    subst hdf
    cases hfr
    have HSt := toHid hst
    clear hst
    by_cases hlt : k < len
    · obtain ⟨blk, off, hla, hrg, hok⟩ := (HT0.out.below HSt.out.bel).2 k hlt
      have hokw : ActOk w (xs.getD k ActV.none_) := by
        obtain ⟨_, _, _, _, h⟩ := HT0.out.2 k hlt
        exact h
      generalize xs.getD k ActV.none_ = a at hrg hok hokw
      subst hla
      have HRG : Hid (W.rangeAt blk (off + k * 7) a.cells) := hrg
      have HI : Hid ((Tryd.prog.info? 42).map (·.size) = some a.cells.length) := size_act
      have HI2 : Hid ((Tryd.prog.info? 42).map (·.size) = some a.cells.toArray.size) := size_act
      have HO1 : Hid (∀ v ∈ a.cells.toArray.toList, v.oneCell' = true) := act_one a
      have ha1 := hok.a1
      have HKW := toHid hokw.keep
      have hkl1 := hok.kl1
      unfold maxLen at hkl1
      clear hrg hok hokw
      go_upto_region 14 with (first
        | (refine wpList_load_mid (by rfl) 42 (.tmp 65) (by rfl) blk (off + k * 7) (by rfl) a.cells _ HRG.out Tryd.underlying42 rfl HI.out ?_)
        | (refine wpList_store_new (by rfl) 42 42 (.tmp 10) (.tmp 66) (by rfl) _ a.cells.toArray (by rfl) (by rfl) rfl HI2.out HO1.out ?_))
      rename_i K2 hK2 K1 hK1 K0 hK0
      have hbx : Box (W.alloc (.cells a.cells.toArray 42)) W.heap.size a := ⟨newB _ _⟩
      have HBX := toHid hbx
      have HS1 := toHid (HSt.out.alloc (.cells a.cells.toArray 42))
      clear hbx HRG HI HI2 HO1 HSt
      generalize W.alloc (.cells a.cells.toArray 42) = W1 at HBX HS1 ⊢
      generalize W.heap.size = N at HBX ⊢
      have key2 : ∀ (T : Array Value) (W' : World) (x' : Nat) (ds' : List Nat), Fr n (some ⟨blk, off, none⟩) len cap w.heap.size p mb k T → St w W' w.heap.size p mb q n x' x' ds' → K2 { tmps := T, defers := ds'.map (fun D => { target := .collected D, args := #[] }) } W' := by
        as_aux_lemma =>
          intro T W' x' ds' hfr hst
          cases hfr
          refine hK2 _ _ ?_
          have e : Hid ((k : Int) + 1 = ((k + 1 : Nat) : Int)) := by unfold Hid; omega
          have HSt := toHid hst
          clear hst HBX HS1 hK0 hK1
          go_wp2
          refine ⟨⟨k + 1, x', ds', by omega, ?_, rfl, HSt.out⟩, ?_⟩
          · rw [e.out]; exact Fr.mk ..
          · simp [intOf]; omega
      clear hK2
      have key1 : ∀ (T : Array Value) (W' : World) (x' : Nat) (ds' : List Nat), Fs n (some ⟨blk, off, none⟩) len cap w.heap.size p mb k N T → St w W' w.heap.size p mb q n x' x' ds' → Box W' N a → K1 { tmps := T, defers := ds'.map (fun D => { target := .collected D, args := #[] }) } W' := by
        as_aux_lemma =>
          intro T W' x' ds' hfr hst hbx
          cases hfr
          refine hK1 _ _ ?_
          obtain ⟨s1, s2, s3⟩ := hst.sees hbx
          have C1 : Hid (∀ m, Calls Tryd.prog 19 #[.pointer (some ⟨p, 0, none⟩), .int .i64 a.a] (W'.drewN m) fun e w' => e = .returned (.bool (hasB n x' a.a)) ∧ w' = W'.drewN m) := fun m => shas_any _ _ (hst.alikeW (alikeN W' m)).one hst.ok1
          have C2 : Hid (∀ m, Calls Tryd.prog 17 #[.pointer (some ⟨q, 0, none⟩), .int .i64 a.a] (W'.drewN m) fun e w' => e = .returned (.bool (hasB n x' a.a)) ∧ w' = W'.drewN m) := fun m => rhas_any _ _ (hst.alikeW (alikeN W' m)).two hst.ok1.n1
          have C3 : Hid (∀ m, Calls Tryd.prog 20 #[.pointer (some ⟨p, 0, none⟩)] (W'.drewN m) fun e w' => e = .returned (.int .i64 (cnt x' 64 : Nat)) ∧ w' = W'.drewN m) := fun m => scount_any _ (hst.alikeW (alikeN W' m)).one hst.ok1
          have C4 : Hid (∀ m, Calls Tryd.prog 18 #[.pointer (some ⟨q, 0, none⟩)] (W'.drewN m) fun e w' => e = .returned (.int .i64 (cnt x' 64 : Nat)) ∧ w' = W'.drewN m) := fun m => rcount_any _ (hst.alikeW (alikeN W' m)).two
          have C5 : Hid (∀ m, Calls Tryd.prog 21 #[.pointer (some ⟨p, 0, none⟩)] (W'.drewN m) fun e w' => e = .returned (.int .i64 (n : Int)) ∧ w' = W'.drewN m) := fun m => ssize_any _ (hst.alikeW (alikeN W' m)).one
          have HSt := toHid hst
          have hb0 : ∀ b : Bool, (b != b) = false := fun b => by cases b <;> rfl
          clear hst hbx HBX HS1 hK0
          generalize hasB n x' a.a = hb at C1 C2
          generalize cnt x' 64 = cc at C3 C4
          go_wp2_with fail
          go_quiet (first
            | (go_at_call 19; exact Calls.quiet_of_same (C1.out _))
            | (go_at_call 17; exact Calls.quiet_of_same (C2.out _))
            | (go_at_call 20; exact Calls.quiet_of_same (C3.out _))
            | (go_at_call 18; exact Calls.quiet_of_same (C4.out _))
            | (go_at_call 21; exact Calls.quiet_of_same (C5.out _)))
          go_wp2
          exact key2 _ _ x' ds' (Fr.mk ..) (HSt.out.alikeW (alikeN _ _))
      clear hK1
      obtain ⟨c0, c1, c2, c6⟩ := HBX.out.cells
      by_cases gp : a.kind.toList = [112, 117, 116]
      · have gp' : (a.kind.toList == [112, 117, 116]) = true := beq_iff_eq.2 gp
        clear gp key2
        as_aux_lemma =>
          have HP2 := toHid (put_two HS1.out HBX.out a.a (decide (0 < a.b)))
          have c3 := HS1.out.box.cell
          generalize putB n x a.a (decide (0 < a.b)) = pb at HP2
          go_wp2_with fail
          go_region_held3 (fun W' => W'.cell? ⟨N, 1, none⟩ = some (.int .i64 a.a) ∧ W'.cell? ⟨N, 2, none⟩ = some (.int .i64 a.b) ∧ W'.cell? ⟨mb, 0, none⟩ = some (.pointer (some ⟨q, 0, none⟩)))
            (first | (exact ⟨c1, c2, c3⟩) | assumption)
            (first
              | (go_at_call 11; refine (HP2.out _ ?_).mono ?_; (· exact ⟨rfl, rfl, rfl, rfl⟩); rintro e Wa ⟨rfl, hA1, href⟩; have HREF := toHid href; clear href)
              | (go_at_call 12; refine (HREF.out _ ?_).mono ?_; (· exact ⟨rfl, rfl, rfl, rfl⟩); rintro e Wb ⟨rfl, hA2, hlf⟩; have HLF := toHid hlf; clear hlf))
          have hb0 : (pb != pb) = false := by cases pb <;> rfl
          have hfin := HLF.out Wb ⟨rfl, rfl, rfl, rfl⟩
          have HFS := toHid hfin.1
          have HFB := toHid hfin.2
          clear hfin HLF HP2
          go_wp2
          first | exact key1 _ _ _ ds (Fs.mk ..) HFS.out HFB.out | exact key1 _ _ _ ds (Fs.mk ..) (HFS.out.alikeW ⟨rfl, rfl, rfl, rfl⟩) (HFB.out.alikeW ⟨rfl, rfl, rfl, rfl⟩)
      · have gp' : (a.kind.toList == [112, 117, 116]) = false := beq_eq_false_iff_ne.2 gp
        clear gp
        by_cases gn : a.kind.toList = [110, 101, 120, 116]
        · have gn' : (a.kind.toList == [110, 101, 120, 116]) = true := beq_iff_eq.2 gn
          clear gn key2
          as_aux_lemma =>
            obtain ⟨es, hes⟩ : ∃ es, ElOf x es := ⟨_, ⟨rfl⟩⟩
            have HES := toHid hes
            clear hes
            have HN1 := toHid (snext_any es HES.out a.a W1 HS1.out.one HS1.out.ok1 (HTB.out.below HS1.out.bel hw0))
            go_wp2_with fail
            refine HN1.out.mono ?_
            rintro e W2 ⟨rfl, hb2⟩
            have HS2 := toHid (HS1.out.below hb2)
            have HBX2 := toHid (HBX.out.below hb2)
            obtain ⟨_, d1, _, _⟩ := HBX2.out.cells
            have d3 := HS2.out.box.cell
            have HN2 := toHid (rnext_any es HES.out a.a W2 HS2.out.two HS2.out.ok1)
            clear hb2 HN1
            generalize nextI es a.a = ni at HN2 ⊢
            generalize nextB es = nb at HN2 ⊢
            go_wp2_with fail
            refine HN2.out.mono ?_
            rintro e w' ⟨rfl, hw⟩
            have hw' := hw.symm
            subst hw'
            clear hw HN2
            have hb0 : (nb != nb) = false := by cases nb <;> rfl
            go_wp2
            exact key1 _ _ _ ds (Fs.mk ..) HS2.out HBX2.out
        · have gn' : (a.kind.toList == [110, 101, 120, 116]) = false := beq_eq_false_iff_ne.2 gn
          clear gn
          by_cases gj : a.kind.toList = [106, 111, 105, 110]
          · have gj' : (a.kind.toList == [106, 111, 105, 110]) = true := beq_iff_eq.2 gj
            clear gj
            by_cases hbad : a.a < 0 ∨ 64 < a.a
            · clear key1
              as_aux_lemma =>
                go_wp2_with fail
                refine (snew_bad a.a W1 hbad).mono ?_
                rintro e w' ⟨rfl, hw⟩
                have hw' := hw.symm
                subst hw'
                clear hw
                go_wp2
                exact key2 _ _ x ds (Fr.mk ..) HS1.out
            · clear key2
              as_aux_lemma =>
                obtain ⟨no, hno⟩ : ∃ no : Nat, a.a = no := ⟨a.a.toNat, by omega⟩
                have hno64 : no ≤ 64 := by omega
                have HNW := toHid (snew_good no W1 hno64)
                have HNO := toHid hno
                rw [hno] at c1
                clear hbad hno ha1
                go_wp2_with fail
                refine HNW.out.mono ?_
                rintro e W2 ⟨rfl, h3, hb2⟩
                have HJS : Hid (JS w W2 w.heap.size p mb q n x x N W1.heap.size no 0 0 ds a) := by
                  refine ⟨HS1.out.below hb2, HBX.out.below hb2, h3, set_start no hno64, ?_, HS1.out.bel.size, fun i _ => Nat.zero_testBit i, fun i => by rw [Nat.zero_testBit]; simp⟩
                  have := lt_of_some HS1.out.one
                  omega
                clear h3 hb2 HNW HBX HS1 c0 c1 c2 c6
                go_wp2_with fail
                generalize W1.heap.size = po at HJS ⊢
                go_loopw [17] (fun i wr => ∃ (j xo y : Nat), j ≤ a.kl ∧ i = .int .i64 j ∧ JS w wr w.heap.size p mb q n x y N po no xo j ds a) (fun i _ => a.kl - (intOf i).toNat)
                case atStart => exact ⟨0, 0, x, Nat.zero_le _, rfl, HJS.out⟩
                case round =>
                  clear HJS
                  obtain ⟨j, xo, y, hjk, rfl, hjs⟩ := hrel
                  have HJ := toHid hjs
                  clear hjs
                  obtain ⟨_, c1, _, c6⟩ := HJ.out.box.cells
                  rw [HNO.out] at c1
                  by_cases hj : j < a.kl
                  · clear key1
                    obtain ⟨b', off', hka, hkc⟩ := (HKW.out.below HJ.out.st.bel).2 j hj
                    rw [hka] at c6
                    have HPT := toHid (sput_any (j : Int) (a.ks.getD j false) wr HJ.out.o HJ.out.oko)
                    have hpb := putB_fresh (no := no) (b := a.ks.getD j false) (HJ.out.fresh j (Nat.le_refl _))
                    generalize hkeep : a.ks.getD j false = keep at HPT hpb hkc
                    rw [hpb] at HPT
                    clear hpb
                    have i0 : (0 : Int) ≤ (j : Int) := by omega
                    have i1 : (j : Int) < (a.kl : Int) := by omega
                    cases keep with
                    | true =>
                      by_cases hjn : j < no
                      · have g1 : decide ((j : Int) < (no : Int)) = true := decide_eq_true (by omega)
                        rw [show (decide (j < no) && true) = true by simp [hjn]] at HPT
                        as_aux_lemma =>
                          go_wp2_with fail
                          refine HPT.out.mono ?_
                          rintro e W3 ⟨rfl, h3, hk3⟩
                          have HIN := toHid (HJ.out.keptO hk3)
                          obtain ⟨_, d1, _, d6⟩ := HIN.out.2.cells
                          rw [HNO.out] at d1
                          rw [hka] at d6
                          have dk := (HKW.out.below HIN.out.1.bel).2 j hj
                          obtain ⟨b', off', hka', dk⟩ := dk
                          rw [hka] at hka'
                          cases hka'
                          rw [hkeep] at dk
                          have d3 := HIN.out.1.box.cell
                          have H3 := toHid h3
                          have HK3 := toHid hk3
                          clear h3 hk3 HPT c1 c6 hkc
                          have HRP := toHid (rput_any (j : Int) true W3 HIN.out.1.two HIN.out.1.ok1.n1)
                          go_wp2_with fail
                          refine HRP.out.mono ?_
                          rintro e W4 ⟨rfl, h4, hk4⟩
                          have HJ4 := toHid (HJ.out.did hjn H3.out HK3.out h4 hk4)
                          clear h4 hk4 HRP H3 HK3 HJ HIN d1 d6 dk d3
                          generalize putV n y (j : Int) true = y4 at HJ4
                          generalize putV no xo (j : Int) true = x4 at HJ4
                          generalize putB n y (j : Int) true = pb
                          go_wp2
                          go_roundw
                          case rel =>
                            have fin : ∃ (j' xo' y' : Nat), j' ≤ a.kl ∧ Value.int .i64 ((j : Int) + 1) = .int .i64 j' ∧ JS w W4 w.heap.size p mb q n x y' N po no xo' j' ds a := ⟨j + 1, x4, y4, by omega, by go_num, HJ4.out⟩
                            first | exact fin | ((repeat apply Exists.intro); exact ⟨fin, rfl⟩)
                          case measure => simp [intOf]; omega
                      · have g1 : decide ((j : Int) < (no : Int)) = false := decide_eq_false (by omega)
                        have hd0 : (decide (j < no) && true) = false := by simp; omega
                        have HD0 := toHid hd0
                        rw [hd0] at HPT
                        clear hd0
                        as_aux_lemma =>
                          go_wp2_with fail
                          refine HPT.out.mono ?_
                          rintro e W3 ⟨rfl, h3, hk3⟩
                          have HIN := toHid (HJ.out.keptO hk3)
                          obtain ⟨_, d1, _, d6⟩ := HIN.out.2.cells
                          rw [HNO.out] at d1
                          rw [hka] at d6
                          have dk := (HKW.out.below HIN.out.1.bel).2 j hj
                          obtain ⟨b', off', hka', dk⟩ := dk
                          rw [hka] at hka'
                          cases hka'
                          rw [hkeep] at dk
                          have HJ4 := toHid (HJ.out.skip HD0.out h3 hk3)
                          clear h3 hk3 HPT c1 c6 hkc HJ HIN
                          go_wp2
                          go_roundw
                          case rel =>
                            have fin : ∃ (j' xo' y' : Nat), j' ≤ a.kl ∧ Value.int .i64 ((j : Int) + 1) = .int .i64 j' ∧ JS w W3 w.heap.size p mb q n x y' N po no xo' j' ds a := ⟨j + 1, xo, y, by omega, by go_num, HJ4.out⟩
                            first | exact fin | ((repeat apply Exists.intro); exact ⟨fin, rfl⟩)
                          case measure => simp [intOf]; omega
                    | false =>
                      have hd0 : (decide (j < no) && false) = false := by simp
                      have HD0 := toHid hd0
                      rw [hd0] at HPT
                      clear hd0
                      as_aux_lemma =>
                        go_wp2_with fail
                        refine HPT.out.mono ?_
                        rintro e W3 ⟨rfl, h3, hk3⟩
                        have HIN := toHid (HJ.out.keptO hk3)
                        obtain ⟨_, d1, _, d6⟩ := HIN.out.2.cells
                        rw [HNO.out] at d1
                        rw [hka] at d6
                        have dk := (HKW.out.below HIN.out.1.bel).2 j hj
                        obtain ⟨b', off', hka', dk⟩ := dk
                        rw [hka] at hka'
                        cases hka'
                        rw [hkeep] at dk
                        have HJ4 := toHid (HJ.out.skip HD0.out h3 hk3)
                        clear h3 hk3 HPT c1 c6 hkc HJ HIN
                        go_wp2
                        go_roundw
                        case rel =>
                          have fin : ∃ (j' xo' y' : Nat), j' ≤ a.kl ∧ Value.int .i64 ((j : Int) + 1) = .int .i64 j' ∧ JS w W3 w.heap.size p mb q n x y' N po no xo' j' ds a := ⟨j + 1, xo, y, by omega, by go_num, HJ4.out⟩
                          first | exact fin | ((repeat apply Exists.intro); exact ⟨fin, rfl⟩)
                        case measure => simp [intOf]; omega
                  · as_aux_lemma =>
                      obtain ⟨es, hes⟩ : ∃ es, ElOf xo es := ⟨_, ⟨rfl⟩⟩
                      have HES := toHid hes
                      have HEND := toHid (HJ.out.end_ es hes)
                      have HJN := toHid (sjoin_any es hes wr HJ.out.st.one HJ.out.st.ok1 HJ.out.o HJ.out.oko (HTB.out.below HJ.out.st.bel hw0))
                      clear hes
                      go_wp2_with fail
                      refine HJN.out.mono ?_
                      rintro e W5 ⟨⟨v, rfl⟩, h5, hk5⟩
                      rw [HEND.out] at h5
                      have HS5 := toHid (HJ.out.st.turn1 h5 HJ.out.st.ok2 hk5)
                      have HB5 := toHid (HJ.out.box.kept hk5 (HJ.out.box.ne1 HJ.out.st.one))
                      clear h5 hk5 HJN HEND HJ
                      go_wp2
                      exact key1 _ _ _ ds (Fs.mk ..) HS5.out HB5.out
          · have gj' : (a.kind.toList == [106, 111, 105, 110]) = false := beq_eq_false_iff_ne.2 gj
            clear gj key2
            as_aux_lemma =>
              obtain ⟨es, hes⟩ : ∃ es, ElOf x es := ⟨_, ⟨rfl⟩⟩
              have HES := toHid hes
              have HLN : Hid (es.length = cnt x 64) := by unfold Hid; rw [hes.eq]; exact elemsTo_len x 64
              have HOK := toHid HS1.out.ok1
              have hx := HS1.out.ok1.lt
              have HD2 := toHid (DI.start HS1.out HBX.out)
              clear hes HS1 HBX c1 c2 c6
              go_wp2_with fail
              generalize (W1.alloc (.cells #[.int .i64 0] 3)).alloc (.cells #[.int .i64 (-1)] 3) = W2 at HD2 ⊢
              generalize W1.heap.size + 1 = ba at HD2 ⊢
              generalize W1.heap.size = bk at HD2 ⊢
              refine (sall_any W2 HD2.out.st.one).mono ?_
              rintro e w' ⟨rfl, hw⟩
              subst hw
              have HD3 := toHid (HD2.out.alloc (.cells #[.int .u64 (x : Int)] 54))
              have hB3 : Hid ((W2.alloc (.cells #[.int .u64 (x : Int)] 54)).cell? ⟨W2.heap.size, 0, none⟩ = some (.int .u64 (x : Int))) := (Boxed.new W2 _ _).cell
              clear HD2
              go_wp2_with fail
              generalize W2.alloc (.cells #[.int .u64 (x : Int)] 54) = W3 at HD3 hB3 ⊢
              generalize W2.heap.size = B3 at hB3 ⊢
              have HDS := toHid HD3.out.st.dlt
              have HSZ := toHid HD3.out.st.bel.size
              refine wpIn_wide.1 (wpIn_rangeFunc_ownH (F := Fence.wide) (n := 9) rfl (by omega) (gf := 25) (lb := #[.pointer (some ⟨B3, 0, none⟩)]) rfl trivial (enters_of Tryd.func25 (by kernel_rfl) rfl)
                (all_stops 8 B3 x es HES.out hx W3 hB3.out (HTB.out.below HD3.out.st.bel hw0)) keepTab_t (fun W l o o' _ h hc _ => keepTab_b W l o o' h hc) (Below.refl _ _) (fun _ => rfl)
                (fun pre W => DI w W w.heap.size p mb q n x N bk ba ds a pre.length (lastI pre))
                (fun c pre W => (c = .ret ∧ ∃ (pre' : List Nat) (y : Nat), pre = pre' ++ [y] ∧ ((y : Int) ≤ lastI pre' ∨ hasB n x (y : Int) = false)) ∨ (c = .exit 3 ∧ (pre.length : Int) = a.a ∧ DI w W w.heap.size p mb q n x N bk ba ds a pre.length (lastI pre)))
                (fun s A B row hs hg hr => hs.own HSZ.out HDS.out hg hr)
                (fun c s A B row hs hg hr => by
                  rcases hs with h | ⟨h1, h2, h3⟩
                  · exact .inl h
                  · exact .inr ⟨h1, h2, h3.own HSZ.out HDS.out hg hr⟩)
                HD3.out
                (fun y a' _ => Fb n (some ⟨blk, off, none⟩) len cap w.heap.size p mb k N bk ba y a'.tmps ∧ a'.defers = [])
                (fun y a' _ A B row hs _ _ => hs) ?assign ?body ?done ?stop)
              case assign =>
                rintro l pre y W K hi hK
                gi_wp2
                exact hK _ _ (KeepsFrom.refl _ _) (fun t => t) hi ⟨Fb.mk .., rfl⟩
              case body =>
                clear HD3 hB3 key1
                rintro l pre y ⟨T, Df⟩ W hl _ hi ⟨hfb, hdf⟩ hlen
                dsimp only at hfb hdf
                subst hdf
                cases hfb
                have HI := toHid hi
                have c1 := hi.b1.cell
                have c2 := hi.b2.cell
                have c3 := hi.st.box.cell
                have c4 := hi.st.res.cell
                have f1 := hi.b1.frozen
                have f2 := hi.b2.frozen
                have f4 := hi.st.res.frozen
                obtain ⟨_, c5, _, _⟩ := hi.box.cells
                have HH := toHid (rhas_any (y : Int) W hi.st.two HOK.out.n1)
                clear hi
                by_cases hy : (y : Int) ≤ lastI pre
                · have g : decide ((y : Int) ≤ lastI pre) = true := decide_eq_true hy
                  as_aux_lemma =>
                    gi_wp2_with fail
                    refine ⟨trivial, ?_⟩
                    gi_wp2
                    exact ⟨(KeepsOthers.setCell _ _ _).from _, .inl ⟨rfl, pre, y, rfl, .inl hy⟩⟩
                · have g : decide ((y : Int) ≤ lastI pre) = false := decide_eq_false hy
                  cases hh : hasB n x (y : Int) with
                  | false =>
                    as_aux_lemma =>
                      gi_wp2_with fail
                      refine ⟨trivial, (CallsIn.inRound l (callsIn_wide.2 HH.out)).mono ?_⟩
                      rintro e w' ⟨he, hw⟩
                      rw [hh] at he
                      subst he
                      have hw' := hw.symm
                      subst hw'
                      clear hw
                      gi_wp2
                      exact ⟨(KeepsOthers.setCell _ _ _).from _, .inl ⟨rfl, pre, y, rfl, .inr hh⟩⟩
                  | true =>
                    have hb0 : bk ≠ 0 := by have := HI.out.lo; omega
                    have ha0 : ba ≠ 0 := by have := HI.out.lo; omega
                    have d1 := (HI.out.b1.other HI.out.lo.2.2 (.int .i64 (y : Int))).cell
                    have d2 := (HI.out.b1.other HI.out.lo.2.2 (.int .i64 (y : Int))).frozen
                    have HP := toHid (HI.out.put y)
                    have ec : (((pre.length + 1 : Nat)) : Int) = (pre.length : Int) + 1 := by omega
                    have d3 := HP.out.b1.cell
                    obtain ⟨_, d4, _, _⟩ := HP.out.box.cells
                    rw [ec] at d3 d4
                    have HP2 : Hid (DI w ((W.setCell ⟨ba, 0, none⟩ (.int .i64 (y : Int))).setCell ⟨bk, 0, none⟩ (.int .i64 ((pre.length : Int) + 1))) w.heap.size p mb q n x N bk ba ds a (pre ++ [y]).length (lastI (pre ++ [y]))) := by
                      have := HP.out
                      rw [ec] at this
                      rw [lastI_snoc, List.length_append]; exact this
                    have HLL : Hid (((pre ++ [y]).length : Int) = (pre.length : Int) + 1) := by unfold Hid; simp
                    clear HP ec HI
                    have i9 : pre.length < 64 := hlen
                    by_cases hka : (pre.length : Int) + 1 = a.a
                    · have g2 : ((pre.length : Int) + 1 == a.a) = true := beq_iff_eq.2 hka
                      have HKA := toHid hka
                      clear hka
                      as_aux_lemma =>
                        gi_wp2_with fail
                        refine ⟨trivial, (CallsIn.inRound l (callsIn_wide.2 HH.out)).mono ?_⟩
                        rintro e w' ⟨he, hw⟩
                        rw [hh] at he
                        subst he
                        have hw' := hw.symm
                        subst hw'
                        clear hw
                        gi_wp2
                        exact ⟨((KeepsOthers.setCell _ _ _).trans (KeepsOthers.setCell _ _ _)).from _, .inr ⟨rfl, HLL.out.trans HKA.out, HP2.out⟩⟩
                    · have g2 : ((pre.length : Int) + 1 == a.a) = false := beq_eq_false_iff_ne.2 hka
                      as_aux_lemma =>
                        gi_wp2_with fail
                        refine ⟨trivial, (CallsIn.inRound l (callsIn_wide.2 HH.out)).mono ?_⟩
                        rintro e w' ⟨he, hw⟩
                        rw [hh] at he
                        subst he
                        have hw' := hw.symm
                        subst hw'
                        clear hw
                        gi_wp2
                        exact ⟨((KeepsOthers.setCell _ _ _).trans (KeepsOthers.setCell _ _ _)).from _, keepTab_t (tab_set ha0) (tab_set hb0), HP2.out⟩
              case done =>
                rintro D ys W hD hys hi hK
                subst hys
                as_aux_lemma =>
                  have hln := HLN.out
                  rw [hln] at hi
                  clear hln
                  have c1 := hi.b1.cell
                  have c3 := hi.st.box.cell
                  obtain ⟨_, c5, _, _⟩ := hi.box.cells
                  have C4 : Hid (∀ m, Calls Tryd.prog 18 #[.pointer (some ⟨q, 0, none⟩)] (W.drewN m) fun e w' => e = .returned (.int .i64 (cnt x 64 : Nat)) ∧ w' = W.drewN m) := fun m => rcount_any _ (hi.st.alikeW (alikeN W m)).two
                  have HST := toHid (hi.st.mark hK (by have := HSZ.out; omega) (fun E hE => by have := HDS.out E hE; omega))
                  have HBX := toHid hi.box
                  clear hi hK hD HD3 hB3
                  generalize cnt x 64 = cc at c1 C4
                  have hb0 : ((cc : Int) != (cc : Int)) = false := by simp
                  go_wp2_with fail
                  go_quiet (first | (go_at_call 18; exact Calls.quiet_of_same (C4.out _)))
                  go_wp2
                  exact key1 _ _ x (D :: ds) (Fs.mk ..) (HST.out.alikeW (alikeN _ _)) (HBX.out.alikeW (alikeN _ _))
              case stop =>
                rintro D c pre W hD hpre hix hK
                rcases hix with ⟨rfl, pre', y, rfl, hbad⟩ | ⟨rfl, hka, hi⟩
                · obtain ⟨g1, g2⟩ := goes_on HES.out HOK.out hpre
                  rcases hbad with h | h
                  · exact absurd h g1
                  · rw [g2] at h; cases h
                · refine wpIn_wide.2 ?_
                  have c1 := hi.b1.cell
                  have c3 := hi.st.box.cell
                  obtain ⟨_, c5, _, _⟩ := hi.box.cells
                  have C4 : Hid (∀ m, Calls Tryd.prog 18 #[.pointer (some ⟨q, 0, none⟩)] (W.drewN m) fun e w' => e = .returned (.int .i64 (cnt x 64 : Nat)) ∧ w' = W.drewN m) := fun m => rcount_any _ (hi.st.alikeW (alikeN W m)).two
                  have HST := toHid (hi.st.mark hK (by have := HSZ.out; omega) (fun E hE => by have := HDS.out E hE; omega))
                  have HBX := toHid hi.box
                  clear hi hK hD HD3 hB3
                  by_cases hkc : pre.length = cnt x 64
                  · as_aux_lemma =>
                      rw [hkc] at c1
                      clear hkc hka
                      generalize cnt x 64 = cc at c1 C4
                      have hb0 : ((cc : Int) != (cc : Int)) = false := by simp
                      go_wp2_with fail
                      go_quiet (first | (go_at_call 18; exact Calls.quiet_of_same (C4.out _)))
                      go_wp2
                      exact key1 _ _ x (D :: ds) (Fs.mk ..) (HST.out.alikeW (alikeN _ _)) (HBX.out.alikeW (alikeN _ _))
                  · as_aux_lemma =>
                      rw [← hka] at c5
                      have hb1 : ((pre.length : Int) != ((cnt x 64 : Nat) : Int)) = true := by simp; omega
                      generalize cnt x 64 = cc at C4 hb1
                      clear hkc hka
                      have hb0 : ((pre.length : Int) != (pre.length : Int)) = false := by simp
                      go_wp2_with fail
                      go_quiet (first | (go_at_call 18; exact Calls.quiet_of_same (C4.out _)))
                      go_wp2
                      exact key1 _ _ x (D :: ds) (Fs.mk ..) (HST.out.alikeW (alikeN _ _)) (HBX.out.alikeW (alikeN _ _))
    · have c1 := HSt.out.res.cell
      have f1 := HSt.out.res.frozen
      go_wp2
      refine says_leave ds _ rfl (fun D hD => ⟨mark_set (HSt.out.mrk D hD).1 (fun e => ?_), (HSt.out.mrk D hD).2⟩) HSt.out.nd (HSt.out.res.set _) rfl (HSt.out.bel.setCell (p := ⟨w.heap.size, 0, none⟩) (Nat.le_refl _) _)
      have h1 := (HSt.out.mrk D hD).1
      rw [e, show W.heap[w.heap.size]? = _ from HSt.out.res] at h1
      cases h1
end Go.Proofs.YtlfecjgmmhbanaaDoor.S4
