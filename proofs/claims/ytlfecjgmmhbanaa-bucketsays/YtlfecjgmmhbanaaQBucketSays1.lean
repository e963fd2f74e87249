/-
BucketSays: its walk.
-/
import Derived.Test.YtlfecjgmmhbanaaQBucketRef
namespace Go.Proofs.Ytlfecjgmmhbanaa.S4
open Go.RowKit
attribute [local go_sem ↓] Go.wp_at_zero Go.wp_at_succ

set_option maxRecDepth 100000 in
set_option maxHeartbeats 400000 in
theorem sameN (f : Int) (w : World) : Calls Try.prog 21 #[.nilIface, .int .i64 f] w fun e w' => e = .returned (.bool (f == 0)) ∧ w' = w := by
  go_enter Try.func21, Try.ntmps21
  go_wp2
  go_ret
  exact ⟨rfl, rfl⟩

set_option maxRecDepth 100000 in
set_option maxHeartbeats 400000 in
theorem sameE (n : Int) (w : World) (h0 : 0 < n) : Calls Try.prog 21 #[.iface 121 (.int .i64 n), .int .i64 n] w fun e w' => e = .returned (.bool true) ∧ w' = w := by
  have hta : ∀ w : World, (Instr.typeAssert (.iface 121 (.int .i64 n)) 36 121 true).run Try.prog w = .ok (.tuple #[.int .i64 n, .bool true]) w := fun _ => by kernel_rfl
  go_enter Try.func21, Try.ntmps21
  go_wp2
  go_ret
  exact ⟨rfl, rfl⟩

structure Alike (a b : World) : Prop where
  heap : b.heap = a.heap
  os : b.os = a.os
  tape : b.tape = a.tape
  output : b.output = a.output

theorem Alike.below {a b : World} (h : Alike a b) : Below a.heap.size a b := Kept.below (S := fun _ => False) ⟨h.os, h.tape, h.output, by rw [h.heap]; exact Nat.le_refl _, fun k _ _ => by rw [h.heap]⟩ (Nat.le_refl _) (fun _ => False.elim)

set_option maxRecDepth 100000 in
set_option maxHeartbeats 1000000 in
theorem flows_any (w : World) : Calls Try.prog 66 #[] w fun e w' => e = .returned (.bool true) ∧ Below w.heap.size w w' := by
  go_enter Try.func66, Try.ntmps66
  go_wp2_with fail
  refine (bnew_good 3 5 w (by decide) (by decide)).mono ?_
  rintro e w1 ⟨rfl, h3, hb1⟩
  have HT := toHid h3
  have HB := toHid hb1
  clear h3 hb1
  go_wp2_with fail
  refine (take_any 4 w1 HT.out (by omega)).mono ?_
  rintro e w2 ⟨he, h3, hk2⟩
  have e1 : inB 4 5 = true := by decide
  have e2 : takeV 5 4 = 1 := by decide
  rw [e1] at he
  rw [e2] at h3
  subst he
  have HT2 := toHid h3
  have HK2 := toHid hk2
  clear h3 hk2 e1 e2
  go_wp2_with fail
  refine (take_any 2 w2 HT2.out (by omega)).mono ?_
  rintro e w3 ⟨he, h3, hk3⟩
  have e1 : inB 2 1 = false := by decide
  have e2 : takeV 1 2 = 1 := by decide
  rw [e1] at he
  rw [e2] at h3
  subst he
  have HT3 := toHid h3
  have HK3 := toHid hk3
  clear h3 hk3 e1 e2
  go_wp2_with fail
  refine (level_any w3 HT3.out).mono ?_
  rintro e w' ⟨rfl, hw⟩
  have hw' := hw.symm
  subst hw'
  clear hw
  go_wp2
  go_ret
  exact ⟨rfl, HB.out.trans ((HK2.out.trans HK3.out).below HB.out.size (fun k e => Nat.le_of_eq e.symm))⟩

set_option maxRecDepth 100000 in
set_option maxHeartbeats 1000000 in
theorem buck_early (r b : Int) (la : Option Addr) (len cap : Nat) (xs : List ActV) (w : World) (hT : Acts w la len xs) (hlen : len ≤ maxLen) (h2 : lightB xs 80 = false) :
    Calls Try.prog 10 #[.int .i64 r, .int .i64 b, .slice la len cap] w fun e w' => e = .returned (.bool true) ∧ Below w.heap.size w w' := by
  have HT0 : Hid (Acts w la len xs) := hT
  clear hT
  go_enter Try.func10, Try.ntmps10
  go_wp2_with fail
  refine (flows_any w).mono ?_
  rintro e w1 ⟨rfl, hb1⟩
  go_wp2_with fail
  refine (light_any la len cap 80 xs w1 (HT0.out.below hb1) hlen (by omega)).mono ?_
  rintro e w' ⟨he, hw⟩
  have hw' := hw.symm
  subst hw'
  clear hw
  rw [h2] at he
  subst he
  go_wp2
  go_ret
  exact ⟨rfl, hb1⟩

set_option maxRecDepth 100000 in
set_option maxHeartbeats 2000000 in
theorem buck_bad (r b : Int) (la : Option Addr) (len cap : Nat) (xs : List ActV) (w : World) (hT : Acts w la len xs) (hlen : len ≤ maxLen) (h2 : lightB xs 80 = true) (h1 : (inB r 1000 && inB b 1000) = false) :
    Calls Try.prog 10 #[.int .i64 r, .int .i64 b, .slice la len cap] w fun e w' => e = .returned (.bool true) ∧ Below w.heap.size w w' := by
  have HT0 : Hid (Acts w la len xs) := hT
  clear hT
  go_enter Try.func10, Try.ntmps10
  go_wp2_with fail
  refine (flows_any w).mono ?_
  rintro e w1 ⟨rfl, hb1⟩
  go_wp2_with fail
  refine (light_any la len cap 80 xs w1 (HT0.out.below hb1) hlen (by omega)).mono ?_
  rintro e w' ⟨he, hw⟩
  have hw' := hw.symm
  subst hw'
  clear hw
  rw [h2] at he
  subst he
  go_wp2_with fail
  refine (bnew_bad r b w1 h1).mono ?_
  rintro e w' ⟨rfl, hw⟩
  have hw' := hw.symm
  subst hw'
  clear hw
  have h3 : r < 0 ∨ 1000 < r ∨ b < 0 ∨ 1000 < b := by
    unfold inB at h1
    simp at h1
    omega
  have HB := toHid hb1
  clear hb1 h1
  by_cases q1 : r < 0
  · have f1 : decide (r < 0) = true := decide_eq_true q1
    as_aux_lemma =>
      clear h3
      go_wp2_with fail
      refine (sameE 1 _ (by omega)).mono ?_
      rintro e w' ⟨rfl, hw⟩
      have hw' := hw.symm
      subst hw'
      clear hw
      go_wp2
      go_ret
      exact ⟨rfl, HB.out⟩
  · have f1 : decide (r < 0) = false := decide_eq_false q1
    by_cases q2 : 1000 < r
    · have f2 : decide (1000 < r) = true := decide_eq_true q2
      as_aux_lemma =>
        clear h3
        go_wp2_with fail
        refine (sameE 1 _ (by omega)).mono ?_
        rintro e w' ⟨rfl, hw⟩
        have hw' := hw.symm
        subst hw'
        clear hw
        go_wp2
        go_ret
        exact ⟨rfl, HB.out⟩
    · have f2 : decide (1000 < r) = false := decide_eq_false q2
      by_cases q3 : b < 0
      · have f3 : decide (b < 0) = true := decide_eq_true q3
        as_aux_lemma =>
          clear h3
          go_wp2_with fail
          refine (sameE 1 _ (by omega)).mono ?_
          rintro e w' ⟨rfl, hw⟩
          have hw' := hw.symm
          subst hw'
          clear hw
          go_wp2
          go_ret
          exact ⟨rfl, HB.out⟩
      · have f3 : decide (b < 0) = false := decide_eq_false q3
        have f4 : decide (1000 < b) = true := decide_eq_true (by omega)
        as_aux_lemma =>
          clear h3
          go_wp2_with fail
          refine (sameE 1 _ (by omega)).mono ?_
          rintro e w' ⟨rfl, hw⟩
          have hw' := hw.symm
          subst hw'
          clear hw
          go_wp2
          go_ret
          exact ⟨rfl, HB.out⟩

/- Two buckets that stand alike, and the round's act. -/
structure Bx (w W : World) (p q N : Nat) (x : ActV) (r b l l' : Int) : Prop where
  bel : Below w.heap.size w W
  pB : w.heap.size ≤ p ∧ w.heap.size ≤ q
  one : Three 156 W p r b l
  two : Three 115 W q r b l'
  box : Box W N x
  ne : N ≠ p ∧ N ≠ q

theorem Bx.alike {w W W' : World} {p q N : Nat} {x : ActV} {r b l l' : Int} (h : Bx w W p q N x r b l l') (ha : Alike W W') : Bx w W' p q N x r b l l' :=
  ⟨h.bel.trans (ha.below.mono h.bel.size), h.pB, h.one.below ha.below, h.two.below ha.below, ⟨(by rw [ha.heap]; exact h.box.blk)⟩, h.ne⟩

theorem kinds_ne : (156 : Nat) ≠ 115 := by decide

theorem Bx.turn1 {w W W1 : World} {p q N : Nat} {x : ActV} {r b l l' m : Int} (h : Bx w W p q N x r b l l') (h1 : Three 156 W1 p r b m) (hk : Kept (fun k => k = p) W W1) : Bx w W1 p q N x r b m l' :=
  ⟨h.bel.trans (hk.below h.bel.size (fun k e => by have := h.pB.1; omega)), h.pB, h1, h.two.kept hk (fun e => h.one.ne h.two kinds_ne e.symm), h.box.kept hk h.ne.1, h.ne⟩

theorem Bx.turn2 {w W W1 : World} {p q N : Nat} {x : ActV} {r b l l' m : Int} (h : Bx w W p q N x r b l l') (h1 : Three 115 W1 q r b m) (hk : Kept (fun k => k = q) W W1) : Bx w W1 p q N x r b l m :=
  ⟨h.bel.trans (hk.below h.bel.size (fun k e => by have := h.pB.2; omega)), h.pB, h.one.kept hk (fun e => h.one.ne h.two kinds_ne e), h1, h.box.kept hk h.ne.2, h.ne⟩

structure Bk (w W : World) (p q : Nat) (r b : Int) : Prop where
  bel : Below w.heap.size w W
  pB : w.heap.size ≤ p ∧ w.heap.size ≤ q
  lev : ∃ l, Three 156 W p r b l ∧ Three 115 W q r b l ∧ 0 ≤ l ∧ l ≤ b

theorem Bk.box {w W : World} {p q : Nat} {r b : Int} (h : Bk w W p q r b) (x : ActV) :
    ∃ l, Bx w (W.alloc (.cells x.cells.toArray 47)) p q W.heap.size x r b l l ∧ 0 ≤ l ∧ l ≤ b := by
  obtain ⟨l, h1, h2, h3⟩ := h.lev
  have hp : p < W.heap.size := lt_of_some h1
  have hq : q < W.heap.size := lt_of_some h2
  have hb : Below W.heap.size W (W.alloc (.cells x.cells.toArray 47)) := (Below.refl _ W).alloc (Nat.le_refl _) _
  exact ⟨l, ⟨h.bel.trans (hb.mono h.bel.size), h.pB, h1.below hb, h2.below hb, ⟨new_block _ _⟩, by omega, by omega⟩, h3⟩

theorem Bx.back {w W : World} {p q N : Nat} {x : ActV} {r b l : Int} (h : Bx w W p q N x r b l l) (h1 : 0 ≤ l ∧ l ≤ b) : Bk w W p q r b := ⟨h.bel, h.pB, l, h.one, h.two, h1⟩

theorem Bk.drew {w W : World} {p q : Nat} {r b : Int} (h : Bk w W p q r b) : Bk w W.drew p q r b := ⟨⟨h.bel.os, h.bel.tape, h.bel.output, h.bel.size, h.bel.block⟩, h.pB, h.lev⟩

theorem takeV_in {l n b : Int} (h : 0 ≤ l ∧ l ≤ b) : 0 ≤ takeV l n ∧ takeV l n ≤ b := by
  unfold takeV
  by_cases q : inB n l = true
  · have q' : 0 ≤ n ∧ n ≤ l := by unfold inB at q; simpa using q
    rw [if_pos q]; omega
  · rw [if_neg q]; exact h

/- Both are taken from. -/
theorem take_two {w W : World} {p q N : Nat} {x : ActV} {r b l : Int} (h : Bx w W p q N x r b l l) (n : Int) (hl : 0 ≤ l ∧ l ≤ 1000) :
    ∀ W' : World, Alike W W' → Calls Try.prog 70 #[.pointer (some ⟨p, 0, none⟩), .int .i64 n] W' fun e w1 => e = .returned (.bool (inB n l)) ∧ w1.cell? ⟨N, 1, none⟩ = some (.int .i64 x.a) ∧
      ∀ W'' : World, Alike w1 W'' → Calls Try.prog 71 #[.pointer (some ⟨q, 0, none⟩), .int .i64 n] W'' fun e w2 => e = .returned (.bool (inB n l)) ∧ w2.cell? ⟨N, 1, none⟩ = some (.int .i64 x.a) ∧
        ∀ W3 : World, Alike w2 W3 → Bx w W3 p q N x r b (takeV l n) (takeV l n) := by
  intro W' ha
  have h0 := h.alike ha
  refine (take_any n W' h0.one hl).mono ?_
  rintro e w1 ⟨rfl, h1, hk1⟩
  have h2 := h0.turn1 h1 hk1
  refine ⟨rfl, h2.box.cells.2.1, fun W'' ha' => ?_⟩
  have h3 := h2.alike ha'
  refine (rtake_any n W'' h3.two hl).mono ?_
  rintro e w2 ⟨rfl, h4, hk2⟩
  have h5 := h3.turn2 h4 hk2
  exact ⟨rfl, h5.box.cells.2.1, fun W3 ha3 => h5.alike ha3⟩

set_option maxRecDepth 100000 in
set_option maxHeartbeats 4000000 in
theorem buck_front (r b : Int) (la : Option Addr) (len cap : Nat) (xs : List ActV) (w : World) (hT : Acts w la len xs) (hlen : len ≤ maxLen) (e1 : inB r 1000 = true) (e2 : inB b 1000 = true) (h2 : lightB xs 80 = true) :
    Calls Try.prog 10 #[.int .i64 r, .int .i64 b, .slice la len cap] w fun e w' => e = .returned (.bool true) ∧ Below w.heap.size w w' := by
  have HT0 : Hid (Acts w la len xs) := hT
  clear hT
  have hr : 0 ≤ r ∧ r ≤ 1000 := by unfold inB at e1; simpa using e1
  have hbb : 0 ≤ b ∧ b ≤ 1000 := by unfold inB at e2; simpa using e2
  have f1 : decide (r < 0) = false := decide_eq_false (by omega)
  have f2 : decide (1000 < r) = false := decide_eq_false (by omega)
  have f3 : decide (b < 0) = false := decide_eq_false (by omega)
  have f4 : decide (1000 < b) = false := decide_eq_false (by omega)
  go_enter Try.func10, Try.ntmps10
  go_wp2_with fail
  refine (flows_any w).mono ?_
  rintro e w1 ⟨rfl, hb1⟩
  go_wp2_with fail
  refine (light_any la len cap 80 xs w1 (HT0.out.below hb1) hlen (by omega)).mono ?_
  rintro e w' ⟨he, hw⟩
  have hw' := hw.symm
  subst hw'
  clear hw
  rw [h2] at he
  subst he
  go_wp2_with fail
  refine (bnew_good r b w1 e1 e2).mono ?_
  rintro e w2 ⟨rfl, h3, hb2⟩
  have HS : Hid (Bk w (w2.alloc (.cells #[.int .i64 r, .int .i64 b, .int .i64 b] 115)) w1.heap.size w2.heap.size r b) := by
    have hb := hb1.trans (hb2.mono hb1.size)
    refine ⟨hb.alloc hb.size _, ⟨hb1.size, hb.size⟩, b, h3.below ((Below.refl _ w2).alloc (Nat.le_refl _) _), new_block _ _, by omega, by omega⟩
  have hl80 : len ≤ 80 := by
    unfold lightB at h2
    simp only [decide_eq_true_eq] at h2
    have := HT0.out.1
    omega
  clear h3 hb1 hb2 h2 hlen e1 e2
  go_wp2_with fail
  generalize w2.alloc (.cells #[.int .i64 r, .int .i64 b, .int .i64 b] 115) = w3 at HS ⊢
  generalize w1.heap.size = p at HS ⊢
  generalize w2.heap.size = q at HS ⊢
  go_loopw [11] (fun i wr => ∃ k : Nat, k ≤ len ∧ i = .int .i64 k ∧ Bk w wr p q r b) (fun i _ => len - (intOf i).toNat)
  case atStart => exact ⟨0, Nat.zero_le _, rfl, HS.out⟩
  case round =>
    clear HS
    obtain ⟨k, hk, rfl, hl⟩ := hrel
    have HL := toHid hl
    clear hl
    by_cases hlt : k < len
    · obtain ⟨blk, off, hla, hrg, hok⟩ := (HT0.out.below HL.out.bel).2 k hlt
      generalize xs.getD k ActV.none_ = x at hrg hok
      subst hla
      have HRG : Hid (wr.rangeAt blk (off + k * 7) x.cells) := hrg
      have HI : Hid ((Try.prog.info? 47).map (·.size) = some x.cells.length) := size_act
      have HI2 : Hid ((Try.prog.info? 47).map (·.size) = some x.cells.toArray.size) := size_act
      have HO1 : Hid (∀ v ∈ x.cells.toArray.toList, v.oneCell' = true) := act_one x
      have ha1 := hok.a1
      clear hrg hok
      go_upto_region 14 with (first
        | (refine wpList_load_mid (by rfl) 47 (.tmp 68) (by rfl) blk (off + k * 7) (by rfl) x.cells _ HRG.out Try.underlying47 rfl HI.out ?_)
        | (refine wpList_store_new (by rfl) 47 47 (.tmp 12) (.tmp 69) (by rfl) _ x.cells.toArray (by rfl) (by rfl) rfl HI2.out HO1.out ?_))
      obtain ⟨l, hbx, hl⟩ := HL.out.box x
      have HX := toHid hbx
      clear hbx
      generalize wr.alloc (.cells x.cells.toArray 47) = W at HX
      generalize wr.heap.size = N at HX
      clear HRG HI HI2 HO1 HL
      obtain ⟨c0, c1, _, _⟩ := HX.out.box.cells
      have hll : 0 ≤ l ∧ l ≤ 1000 := by omega
      by_cases g0 : x.kind.toList = [116, 105, 99, 107]
      · have g0' : (x.kind.toList == [116, 105, 99, 107]) = true := beq_iff_eq.2 g0
        clear g0
        cases hin : inB x.a 100000 with
        | false =>
          have hin' : x.a < 0 ∨ 100000 < x.a := by unfold inB at hin; simp at hin; omega
          by_cases q1 : x.a < 0
          · have j1 : decide (x.a < 0) = true := decide_eq_true q1
            as_aux_lemma =>
              go_wp2_with fail
              refine (tick_bad x.a W hin).mono ?_
              rintro e w' ⟨rfl, hw⟩
              have hw' := hw.symm
              subst hw'
              clear hw
              go_wp2_with fail
              refine (sameE 1 _ (by omega)).mono ?_
              rintro e w' ⟨rfl, hw⟩
              have hw' := hw.symm
              subst hw'
              clear hw
              obtain ⟨_, _, t2, _⟩ := HX.out.two.cells
              have HLV : Hid (∀ W' : World, Alike W W' → Calls Try.prog 72 #[.pointer (some ⟨p, 0, none⟩)] W' fun e w' => e = .returned (.int .i64 l) ∧ w' = W') := fun W' ha => level_any W' (HX.out.alike ha).one
              go_wp2
              go_region_held3 (fun W' => W'.cell? ⟨q, 2, none⟩ = some (.int .i64 l))
                (first | (exact t2) | assumption)
                (first | (go_at_call 72; refine (HLV.out _ ?_).mono ?_; (· exact ⟨rfl, rfl, rfl, rfl⟩); rintro e w' ⟨rfl, rfl⟩))
              go_wp2
              go_roundw
              case rel => exact ⟨k + 1, by omega, by go_num, by first | exact HX.out.back hl | exact (HX.out.back hl).drew⟩
              case measure => simp [intOf]; omega
          · have j1 : decide (x.a < 0) = false := decide_eq_false q1
            have j2 : decide (100000 < x.a) = true := decide_eq_true (by omega)
            as_aux_lemma =>
              go_wp2_with fail
              refine (tick_bad x.a W hin).mono ?_
              rintro e w' ⟨rfl, hw⟩
              have hw' := hw.symm
              subst hw'
              clear hw
              go_wp2_with fail
              refine (sameE 1 _ (by omega)).mono ?_
              rintro e w' ⟨rfl, hw⟩
              have hw' := hw.symm
              subst hw'
              clear hw
              obtain ⟨_, _, t2, _⟩ := HX.out.two.cells
              have HLV : Hid (∀ W' : World, Alike W W' → Calls Try.prog 72 #[.pointer (some ⟨p, 0, none⟩)] W' fun e w' => e = .returned (.int .i64 l) ∧ w' = W') := fun W' ha => level_any W' (HX.out.alike ha).one
              go_wp2
              go_region_held3 (fun W' => W'.cell? ⟨q, 2, none⟩ = some (.int .i64 l))
                (first | (exact t2) | assumption)
                (first | (go_at_call 72; refine (HLV.out _ ?_).mono ?_; (· exact ⟨rfl, rfl, rfl, rfl⟩); rintro e w' ⟨rfl, rfl⟩))
              go_wp2
              go_roundw
              case rel => exact ⟨k + 1, by omega, by go_num, by first | exact HX.out.back hl | exact (HX.out.back hl).drew⟩
              case measure => simp [intOf]; omega
        | true =>
          have hin' : 0 ≤ x.a ∧ x.a ≤ 100000 := by unfold inB at hin; simpa using hin
          have j1 : decide (x.a < 0) = false := decide_eq_false (by omega)
          have j2 : decide (100000 < x.a) = false := decide_eq_false (by omega)
          have hrt := rtick_any x.a.toNat W HX.out.two (by omega) hr hl hbb.2
          rw [show ((x.a.toNat : Nat) : Int) = x.a by omega] at hrt
          have HRT := toHid hrt
          have ht := tickV_in (r := r) (b := b) (l := l) (n := x.a) hr.1 hl.1 hbb.1 hin'.1
          clear hrt
          as_aux_lemma =>
            go_wp2_with fail
            refine HRT.out.mono ?_
            rintro e W1 ⟨⟨v, rfl⟩, h31, hk1⟩
            have HX1 := toHid (HX.out.turn2 h31 hk1)
            clear h31 hk1 HRT
            obtain ⟨d0, d1, _, _⟩ := HX1.out.box.cells
            have HTG := toHid (tick_good x.a W1 HX1.out.one hin hr hll)
            go_wp2_with fail
            refine HTG.out.mono ?_
            rintro e W2 ⟨rfl, h31, hk1⟩
            have HX2 := toHid (HX1.out.turn1 h31 hk1)
            clear h31 hk1 HTG d0 d1 c0 c1
            go_wp2_with fail
            refine (sameN 0 _).mono ?_
            rintro e w' ⟨rfl, hw⟩
            have hw' := hw.symm
            subst hw'
            clear hw
            generalize tickV r b l x.a = L at HX2 ht
            obtain ⟨_, _, t2, _⟩ := HX2.out.two.cells
            have HLV : Hid (∀ W' : World, Alike W2 W' → Calls Try.prog 72 #[.pointer (some ⟨p, 0, none⟩)] W' fun e w' => e = .returned (.int .i64 L) ∧ w' = W') := fun W' ha => level_any W' (HX2.out.alike ha).one
            go_wp2
            go_region_held3 (fun W' => W'.cell? ⟨q, 2, none⟩ = some (.int .i64 L))
              (first | (exact t2) | assumption)
              (first | (go_at_call 72; refine (HLV.out _ ?_).mono ?_; (· exact ⟨rfl, rfl, rfl, rfl⟩); rintro e w' ⟨rfl, rfl⟩))
            go_wp2
            go_roundw
            case rel => exact ⟨k + 1, by omega, by go_num, by first | exact HX2.out.back ht | exact (HX2.out.back ht).drew⟩
            case measure => simp [intOf]; omega
      · have g0' : (x.kind.toList == [116, 105, 99, 107]) = false := beq_eq_false_iff_ne.2 g0
        clear g0
        have HT2 := toHid (take_two HX.out x.a hll)
        have ht := takeV_in (n := x.a) hl
        generalize inB x.a l = ib at HT2
        as_aux_lemma =>
          go_wp2_with fail
          go_region_held3 (fun W' => W'.cell? ⟨N, 1, none⟩ = some (.int .i64 x.a))
            (first | (exact c1) | assumption)
            (first
              | (go_at_call 70; refine (HT2.out _ ?_).mono ?_; (· exact ⟨rfl, rfl, rfl, rfl⟩); rintro e W1 ⟨rfl, hA1, href⟩; have HREF := toHid href; clear href)
              | (go_at_call 71; refine (HREF.out _ ?_).mono ?_; (· exact ⟨rfl, rfl, rfl, rfl⟩); rintro e W2 ⟨rfl, hA2, hlf⟩; have HLF := toHid hlf; clear hlf))
          have HX2 := toHid (HLF.out W2 ⟨rfl, rfl, rfl, rfl⟩)
          clear HLF HT2 c0 c1
          generalize takeV l x.a = L at HX2 ht
          obtain ⟨_, _, t2, _⟩ := HX2.out.two.cells
          have HLV : Hid (∀ W' : World, Alike W2 W' → Calls Try.prog 72 #[.pointer (some ⟨p, 0, none⟩)] W' fun e w' => e = .returned (.int .i64 L) ∧ w' = W') := fun W' ha => level_any W' (HX2.out.alike ha).one
          go_wp2
          go_region_held3 (fun W' => W'.cell? ⟨q, 2, none⟩ = some (.int .i64 L))
            (first | (exact t2) | assumption)
            (first | (go_at_call 72; refine (HLV.out _ ?_).mono ?_; (· exact ⟨rfl, rfl, rfl, rfl⟩); rintro e w' ⟨rfl, rfl⟩))
          go_wp2
          go_roundw
          case rel => exact ⟨k + 1, by omega, by go_num, by first | exact HX2.out.back ht | exact (HX2.out.back ht).drew⟩
          case measure => simp [intOf]; omega
    · have HB : Hid (Below w.heap.size w wr) := HL.out.bel
      clear HL
      go_wp2
      go_ret
      exact ⟨rfl, HB.out⟩
end Go.Proofs.Ytlfecjgmmhbanaa.S4
