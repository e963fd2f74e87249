/-
laid: a shelf of files, and its model.
-/
import Derived.Test.YtjegaljdindfaabGreatDoorQLawLaid0
import Derived.Test.YtjegaljdindfaabGreatDoorQLawAsShelf
namespace Go.Proofs.YtjegaljdindfaabGreatDoor
open Go.RowKit Go.Maps
attribute [local go_sem ↓] Go.wp_at_zero Go.wp_at_succ

/- Both files made anew, of a device each. -/
theorem made_both {wN : World} (f : FileV) :
    Calls Tryz.prog 25 #[.int .i64 170] wN fun e w1 => ∃ hp : Nat, e = .returned (.tuple #[.pointer (some ⟨hp, 0, none⟩), .nilIface]) ∧ Below wN.heap.size wN w1 ∧
      Calls Tryz.prog 26 #[.pointer (some ⟨hp, 0, none⟩), .agg #[.int .i64 f.c, .int .i64 f.p, .int .i64 f.b]] w1 fun e w2 => ∃ vi : Value, e = .returned (.tuple #[vi, erV (crF dev170 f.h)]) ∧ Below wN.heap.size wN w2 ∧
        ∀ W2 : World, Below w2.heap.size w2 W2 → Calls Tryz.prog 28 #[.int .i64 170] W2 fun e w3 => ∃ qp : Nat, e = .returned (.pointer (some ⟨qp, 0, none⟩)) ∧ Below wN.heap.size wN w3 ∧
          Calls Tryz.prog 27 #[.pointer (some ⟨qp, 0, none⟩), .agg #[.int .i64 f.c, .int .i64 f.p, .int .i64 f.b]] w3 fun e w4 => ∃ vm : Value, e = .returned (.tuple #[vm, .int .i64 (crF dev170 f.h)]) ∧ Below wN.heap.size wN w4 ∧
            ((crF dev170 f.h ≠ 0 ∧ vi = .pointer none ∧ vm = .pointer none) ∨
             (crF dev170 f.h = 0 ∧ (crV dev170 f.h).ok 20 ∧ ∃ x q, vi = .pointer (some ⟨x.p, 0, none⟩) ∧ vm = .pointer (some ⟨q.p, 0, none⟩) ∧ Duo wN.heap.size w4 x q (crV dev170 f.h) (crV dev170 f.h))) := by
  refine (new_yes 170 wN (by decide) (by decide)).mono ?_
  rintro e w1 ⟨h, rfl, hd, hb1⟩
  refine ⟨h.p, rfl, hb1, ?_⟩
  have hdG : IsDevG wN.heap.size w1 h dev170 := hd.toG
  refine (create_all f.c f.p f.b w1 hdG dev170_fine (by decide) hb1.size).mono ?_
  rintro e w2 ⟨x, _, _, hk2, hor⟩
  have hb2 : Below wN.heap.size wN w2 := hb1.trans (KeptP.below hk2 hb1.size)
  have hrest : ∀ (vi : Value) (P : Prop), ((crF dev170 f.h ≠ 0 ∧ vi = .pointer none) ∨ (crF dev170 f.h = 0 ∧ vi = .pointer (some ⟨x.p, 0, none⟩) ∧ IsImg wN.heap.size w2 x (crV dev170 f.h) ∧ (crV dev170 f.h).ok 20)) →
      ∀ W2 : World, Below w2.heap.size w2 W2 → Calls Tryz.prog 28 #[.int .i64 170] W2 fun e w3 => ∃ qp : Nat, e = .returned (.pointer (some ⟨qp, 0, none⟩)) ∧ Below wN.heap.size wN w3 ∧
          Calls Tryz.prog 27 #[.pointer (some ⟨qp, 0, none⟩), .agg #[.int .i64 f.c, .int .i64 f.p, .int .i64 f.b]] w3 fun e w4 => ∃ vm : Value, e = .returned (.tuple #[vm, .int .i64 (crF dev170 f.h)]) ∧ Below wN.heap.size wN w4 ∧
            ((crF dev170 f.h ≠ 0 ∧ vi = .pointer none ∧ vm = .pointer none) ∨
             (crF dev170 f.h = 0 ∧ (crV dev170 f.h).ok 20 ∧ ∃ x q, vi = .pointer (some ⟨x.p, 0, none⟩) ∧ vm = .pointer (some ⟨q.p, 0, none⟩) ∧ Duo wN.heap.size w4 x q (crV dev170 f.h) (crV dev170 f.h))) := by
    intro vi _ hvi W2 hW2
    have hbW : Below wN.heap.size wN W2 := hb2.trans (hW2.mono hb2.size)
    refine (newDev_any 170 W2 (by decide) (by decide)).mono ?_
    rintro e w3 ⟨q, rfl, hr, hb3⟩
    refine ⟨q.p, rfl, hbW.trans (hb3.mono hbW.size), ?_⟩
    have hrG : IsRefG W2.heap.size w3 q dev170 := hr.toG
    refine (created_all f.c f.p f.b w3 hrG dev170_fine (by decide) hb3.size).mono ?_
    rintro e w4 ⟨r, _, _, hk4, hor4⟩
    have hb4 : Below W2.heap.size W2 w4 := hb3.trans (KeptR.below hk4 hb3.size)
    have hbN4 : Below wN.heap.size wN w4 := hbW.trans (hb4.mono hbW.size)
    rcases hvi with ⟨h0, hv⟩ | ⟨h0, hv, hi, hok⟩
    · rcases hor4 with ⟨h1, _⟩ | ⟨_, rfl⟩
      · exact absurd h1 h0
      · exact ⟨_, rfl, hbN4, .inl ⟨h0, hv, rfl⟩⟩
    · rcases hor4 with ⟨_, rfl, hm4⟩ | ⟨h1, _⟩
      · refine ⟨_, by rw [show crF dev170 f.h = 0 from h0], hbN4, .inr ⟨h0, hok, x, r, hv, rfl, ?_⟩⟩
        have hiW := hi.below (hW2.trans (hb4.mono hW2.size))
        refine ⟨hiW.re fun _ _ h => h, hm4.re fun _ _ h => h, fun k h1 h2 => ?_, fun k h1 => ?_, fun k h1 => ?_, hbN4.size⟩
        · have l1 := (hi.below hW2).fpLt k h1
          have l2 := hm4.out k h2
          exact l2 l1
        · exact Nat.le_of_not_lt (hi.out k h1)
        · have l2 := Nat.le_of_not_lt (hm4.out k h1)
          exact Nat.le_trans hbW.size l2
      · exact absurd h0 h1
  rcases hor with ⟨h0, rfl, hi, hk, hn⟩ | ⟨h0, rfl⟩
  · refine ⟨_, by rw [show crF dev170 f.h = 0 from h0, erV_0], hb2, hrest _ True (.inr ⟨h0, rfl, hi, (crV_ok dev170_fine hk hn (by decide)).more (by decide)⟩)⟩
  · exact ⟨_, rfl, hb2, hrest _ True (.inl ⟨h0, rfl⟩)⟩

theorem duo_clear_p {N m : Nat} {W : World} {x : Ih} {q : Qh} {v u : IV} (c : Int) (h : Duo N W x q v u) (hok : v.ok m) (hm : m + 10 < 1000000000) :
    Calls Tryz.prog 29 #[.pointer (some ⟨x.p, 0, none⟩), .int .i64 c] W fun e w1 => ∃ x' : Ih, e = .returned (erV (v.clearF c)) ∧ x'.p = x.p ∧ Duo N w1 x' q (v.clear c) u ∧ Below N W w1 :=
  (clear_img c W h.img.but hok hm (Nat.le_refl _)).mono fun _ _ hd => h.prog hd
theorem duo_fill_p {N m : Nat} {W : World} {x : Ih} {q : Qh} {v u : IV} (c : Int) (s : ByteArray) (h : Duo N W x q v u) (hok : v.ok m) (hm : m + 10 < 1000000000) :
    Calls Tryz.prog 31 #[.pointer (some ⟨x.p, 0, none⟩), .int .i64 c, .string s] W fun e w1 => ∃ x' : Ih, e = .returned (erV (v.fillF c s)) ∧ x'.p = x.p ∧ Duo N w1 x' q (v.fill c s) u ∧ Below N W w1 :=
  (fill_img c s W h.img.but hok hm (Nat.le_refl _)).mono fun _ _ hd => h.prog hd
theorem duo_clear_r {N m : Nat} {W : World} {x : Ih} {q : Qh} {v u : IV} (c : Int) (h : Duo N W x q v u) (hok : u.ok m) (hm : m + 10 < 1000000000) :
    Calls Tryz.prog 30 #[.pointer (some ⟨q.p, 0, none⟩), .int .i64 c] W fun e w1 => ∃ q' : Qh, e = .returned (.int .i64 (u.clearF c)) ∧ q'.p = q.p ∧ Duo N w1 x q' v (u.clear c) ∧ Below N W w1 :=
  (clear_rim c W h.rim.but hok hm (Nat.le_refl _)).mono fun _ _ hd => h.ref hd
theorem duo_fill_r {N m : Nat} {W : World} {x : Ih} {q : Qh} {v u : IV} (c : Int) (s : ByteArray) (h : Duo N W x q v u) (hok : u.ok m) (hm : m + 10 < 1000000000) :
    Calls Tryz.prog 32 #[.pointer (some ⟨q.p, 0, none⟩), .int .i64 c, .string s] W fun e w1 => ∃ q' : Qh, e = .returned (.int .i64 (u.fillF c s)) ∧ q'.p = q.p ∧ Duo N w1 x q' v (u.fill c s) ∧ Below N W w1 :=
  (fill_rim c s W h.rim.but hok hm (Nat.le_refl _)).mono fun _ _ hd => h.ref hd

/- What a round over the clusters holds. -/
structure Filling (wN : World) (xp qp : Nat) (v0 : IV) (is : List Int) (c : Nat) (x : Ih) (q : Qh) (wr : World) : Prop where
  duo : Duo wN.heap.size wr x q (fileTo v0 is c) (fileTo v0 is c)
  bel : Below wN.heap.size wN wr
  px : x.p = xp
  pq : q.p = qp

set_option maxRecDepth 100000 in
set_option maxHeartbeats 4000000 in
theorem laid_any (la : Option Addr) (len cap : Nat) (fs : List FileV) (w : World) (hT : Files w la len fs) (h5 : len ≤ 5) (hl40 : ∀ k, k < len → (fs.getD k FileV.none_).il ≤ 40) :
    Calls Tryz.prog 8 #[.slice la len cap] w fun e w' => ∃ (sp mp : Nat) (xs : Nat → Ih) (qs : Nat → Qh), e = .returned (.tuple #[.pointer (some ⟨sp, 0, none⟩), .pointer (some ⟨mp, 0, none⟩), .bool true]) ∧ Lay w.heap.size w w' sp mp xs qs (filesS fs) 500 := by
  have HT : Hid (∀ (W : World) (k : Nat), Below w.heap.size w W → k < len → ∃ b off, la = some ⟨b, off, none⟩ ∧ b < w.heap.size ∧ W.cell? ⟨b, off + k * 5, none⟩ = some (.bool (fs.getD k FileV.none_).there) ∧ W.cell? ⟨b, off + k * 5 + 1, none⟩ = some (.int .i64 (fs.getD k FileV.none_).c) ∧ W.cell? ⟨b, off + k * 5 + 2, none⟩ = some (.int .i64 (fs.getD k FileV.none_).p) ∧ W.cell? ⟨b, off + k * 5 + 3, none⟩ = some (.int .i64 (fs.getD k FileV.none_).b) ∧ W.cell? ⟨b, off + k * 5 + 4, none⟩ = some (.slice (fs.getD k FileV.none_).ia (fs.getD k FileV.none_).il (fs.getD k FileV.none_).ic)) := fun W k hb hk => by
    obtain ⟨b, off, e, hr, _⟩ := (hT.below hb).2 k hk
    obtain ⟨b', off', e', hr', _⟩ := hT.2 k hk
    rw [e] at e'
    cases e'
    exact ⟨b, off, e, World.block_lt_of_cell? _ _ (hr' 0 _ rfl), hr 0 _ rfl, hr 1 _ rfl, hr 2 _ rfl, hr 3 _ rfl, hr 4 _ rfl⟩
  have HTN : Hid (∀ (W : World) (k : Nat), Below w.heap.size w W → k < len → Nums W (fs.getD k FileV.none_).ia (fs.getD k FileV.none_).is ∧ (fs.getD k FileV.none_).is.length = (fs.getD k FileV.none_).il) := fun W k hb hk => by
    obtain ⟨b, off, e, hr, ho⟩ := (hT.below hb).2 k hk
    exact ⟨ho.nums, ho.len⟩
  have HSA : Hid (∀ k, k < len → filesS fs k = (fs.getD k FileV.none_).iv) := fun k hk => filesS_at (by rw [hT.1]; exact hk) (by omega)
  have HEN : Hid (filesTo fs len = filesS fs) := filesTo_all hT.1
  have HL0 : Hid (Lay w.heap.size w ((w.alloc (.cells #[.pointer none, .pointer none, .pointer none, .pointer none, .pointer none] 68)).alloc (.cells #[.pointer none, .pointer none, .pointer none, .pointer none, .pointer none] 71)) w.heap.size (w.heap.size + 1) noX noQ (filesTo fs 0) 500) := by rw [filesTo_zero]; exact lay_new w 500
  have HL4 := toHid hl40
  clear hT hl40
  go_enter Tryz.func8, Tryz.ntmps8
  go_wp2
  generalize (w.alloc (.cells #[.pointer none, .pointer none, .pointer none, .pointer none, .pointer none] 68)).alloc (.cells #[.pointer none, .pointer none, .pointer none, .pointer none, .pointer none] 71) = wS at HL0 ⊢
  generalize hsp : w.heap.size = sp at HL0 ⊢
  obtain ⟨mp, hmp⟩ : ∃ mp, sp + 1 = mp := ⟨_, rfl⟩
  rw [hmp] at HL0 ⊢
  have HSP : Hid (w.heap.size = sp) := hsp
  clear hmp
  go_loopw [7] (fun i wr => ∃ (k : Nat) (xs : Nat → Ih) (qs : Nat → Qh), k ≤ len ∧ i = .int .i64 (k : Int) ∧ Lay sp w wr sp mp xs qs (filesTo fs k) 500) (fun i _ => len - (intOf i).toNat)
  case atStart => exact ⟨0, noX, noQ, Nat.zero_le _, rfl, HL0.out⟩
  case round =>
    obtain ⟨k, xs, qs, hkl, rfl, hL⟩ := hrel
    obtain ⟨wN, ewN⟩ : ∃ wN, wN = wr := ⟨wr, rfl⟩
    subst ewN
    have HL := toHid hL
    have hbw : Below w.heap.size w wN := by rw [HSP.out]; exact hL.bel
    by_cases hlt : k < len
    · obtain ⟨b, off, rfl, hbl, c0, c1, c2, c3, c4⟩ := HT.out wN k hbw hlt
      have HTK : Hid (∀ W : World, Below wN.heap.size wN W → W.cell? ⟨b, off + k * 5 + 1, none⟩ = some (.int .i64 (fs.getD k FileV.none_).c) ∧ W.cell? ⟨b, off + k * 5 + 2, none⟩ = some (.int .i64 (fs.getD k FileV.none_).p) ∧ W.cell? ⟨b, off + k * 5 + 3, none⟩ = some (.int .i64 (fs.getD k FileV.none_).b) ∧ W.cell? ⟨b, off + k * 5 + 4, none⟩ = some (.slice (fs.getD k FileV.none_).ia (fs.getD k FileV.none_).il (fs.getD k FileV.none_).ic)) := fun W hb => by
        obtain ⟨b', off', e, _, _, e1, e2, e3, e4⟩ := HT.out W k (hbw.trans (hb.mono hbw.size)) hlt
        cases e
        exact ⟨e1, e2, e3, e4⟩
      have HTI : Hid (∀ W : World, Below wN.heap.size wN W → Nums W (fs.getD k FileV.none_).ia (fs.getD k FileV.none_).is ∧ (fs.getD k FileV.none_).is.length = (fs.getD k FileV.none_).il) := fun W hb => HTN.out W k (hbw.trans (hb.mono hbw.size)) hlt
      have hIL := HL4.out k hlt
      have hiv := HSA.out k hlt
      have hk5 : k < 5 := by omega
      have k0 : (0 : Int) ≤ (k : Int) := by omega
      have k1 : (k : Int) < (len : Int) := by omega
      have k1' : (k : Int) < 5 := by omega
      have k2 : ((k : Int)).toNat = k := by omega
      have HNX : Hid (∀ v : IV, (fs.getD k FileV.none_).iv = some v → filesTo fs (k + 1) = (filesTo fs k).upd k v) := fun v hv => filesTo_set (by rw [hiv]; exact hv)
      have HNN : Hid ((fs.getD k FileV.none_).iv = none → filesTo fs (k + 1) = filesTo fs k) := fun hv => filesTo_skip (by rw [hiv]; exact hv)
      have HMB := toHid (made_both (wN := wN) (fs.getD k FileV.none_))
      clear hL HTN hiv HT
      generalize fs.getD k FileV.none_ = fv at c0 c1 c2 c3 c4 HTK HTI hIL HNX HNN HMB
      cases hth : fv.there with
      | false =>
        rw [hth] at c0
        have HN : Hid (filesTo fs (k + 1) = filesTo fs k) := HNN.out (by unfold FileV.iv; rw [if_neg (by rw [hth]; simp)])
        clear HNX HNN HMB hth
        go_wp2
        go_roundw
        case rel =>
          have fin : ∃ (k1 : Nat) (xs1 : Nat → Ih) (qs1 : Nat → Qh), k1 ≤ len ∧ Value.int .i64 ((k : Int) + 1) = .int .i64 (k1 : Int) ∧ Lay sp w wN sp mp xs1 qs1 (filesTo fs k1) 500 := ⟨k + 1, xs, qs, by omega, by go_num, by rw [HN.out]; exact HL.out⟩
          first | exact fin | ((repeat apply Exists.intro); exact ⟨fin, rfl⟩)
        case measure => simp [intOf]; omega
      | true =>
        rw [hth] at c0
        go_wp2_with fail
        refine HMB.out.mono ?_
        rintro e w1 ⟨hp, rfl, hb1, hcr⟩
        have HCR := toHid hcr
        obtain ⟨d1, d2, d3, d4⟩ := HTK.out w1 hb1
        clear hcr hb1 HMB c1 c2 c3 c4
        go_wp2_with fail
        refine HCR.out.mono ?_
        rintro e w2 ⟨vi, rfl, hb2, hnd⟩
        have HND := toHid hnd
        obtain ⟨e1, e2, e3, e4⟩ := HTK.out w2 hb2
        clear hnd HCR d1 d2 d3 d4
        have f1 : w2.drew.cell? ⟨b, off + k * 5 + 1, none⟩ = some (.int .i64 fv.c) := e1
        have f2 : w2.drew.cell? ⟨b, off + k * 5 + 2, none⟩ = some (.int .i64 fv.p) := e2
        have f3 : w2.drew.cell? ⟨b, off + k * 5 + 3, none⟩ = some (.int .i64 fv.b) := e3
        have HN2 := toHid (HND.out _ (Below.refl w2.heap.size w2).drew)
        clear HND hb2
        go_wp2
        go_region_held3 (fun W => W.cell? ⟨b, off + k * 5 + 1, none⟩ = some (.int .i64 fv.c) ∧ W.cell? ⟨b, off + k * 5 + 2, none⟩ = some (.int .i64 fv.p) ∧ W.cell? ⟨b, off + k * 5 + 3, none⟩ = some (.int .i64 fv.b))
          (first | (exact ⟨f1, f2, f3⟩) | assumption)
          (first
            | (go_at_call 28; refine HN2.out.mono ?_; rintro e w3 ⟨qp, rfl, hb3, hcd⟩; have HCD := toHid hcd; obtain ⟨g1, g2, g3, _⟩ := HTK.out w3 hb3; have hS3 := And.intro g1 (And.intro g2 g3); clear hcd)
            | (go_at_call 27; refine HCD.out.mono ?_; rintro e w4 ⟨vm, rfl, hb4, hor⟩; obtain ⟨g1', g2', g3', _⟩ := HTK.out w4 hb4; have hS4 := And.intro g1' (And.intro g2' g3')))
        have HB4 := toHid hb4
        have HSM := toHid (errSame (crF dev170 fv.h) w4 (crF_pos _ _))
        clear hS3 hS4 hb4 hb3 HN2 HCD e1 e2 e3 e4 f1 f2 f3 g1 g2 g3 g1' g2' g3'
        rcases hor with ⟨h0, rfl, rfl⟩ | ⟨h0, hok, x, q, rfl, rfl, hduo⟩
        · have HN : Hid (filesTo fs (k + 1) = filesTo fs k) := HNN.out (by unfold FileV.iv; rw [if_neg (fun e => h0 e.2)])
          have hL4 := HL.out.below HB4.out
          obtain ⟨⟨u1, hu1⟩, hz1, ⟨u2, hu2⟩, hz2, hne⟩ := hL4.cellOk hk5
          have hu2' : (w4.setCell ⟨sp, k, none⟩ (.pointer none)).cell? ⟨mp, k, none⟩ = some u2 := by rw [World.cell?_of_block (heap_setCell_other _ _ _ _ (Ne.symm hne))]; exact hu2
          have hz2' : (w4.setCell ⟨sp, k, none⟩ (.pointer none)).frozen? ⟨mp, k, none⟩ = false := by rw [World.frozen?_of_block (heap_setCell_other _ _ _ _ (Ne.symm hne))]; exact hz2
          have HL5 := toHid (hL4.placeNil hk5 (filesTo_at fs k))
          clear h0 hL4 HNX HNN hth
          go_wp2_with fail
          refine HSM.out.mono ?_
          rintro e w' ⟨rfl, hw⟩
          have hw' := hw.symm
          subst hw'
          clear hw HSM
          go_wp2
          go_loopw [13] (fun i wr => i = .int .i64 0 ∧ wr = w4) (fun _ _ => 0)
          case atStart => exact ⟨rfl, rfl⟩
          case round =>
            obtain ⟨rfl, rfl⟩ := hrel
            go_wp2
            go_roundw
            case rel =>
              have fin : ∃ (k1 : Nat) (xs1 : Nat → Ih) (qs1 : Nat → Qh), k1 ≤ len ∧ Value.int .i64 ((k : Int) + 1) = .int .i64 (k1 : Int) ∧ Lay sp w ((wr.setCell ⟨sp, k, none⟩ (.pointer none)).setCell ⟨mp, k, none⟩ (.pointer none)) sp mp xs1 qs1 (filesTo fs k1) 500 := ⟨k + 1, xs, qs, by omega, by go_num, by rw [HN.out]; exact HL5.out⟩
              first | exact fin | ((repeat apply Exists.intro); exact ⟨fin, rfl⟩)
            case measure => simp [intOf]; omega
        · have HN : Hid (filesTo fs (k + 1) = (filesTo fs k).upd k (fileTo (crV dev170 fv.h) fv.is fv.is.length)) := HNX.out _ (by unfold FileV.iv; rw [if_pos ⟨hth, h0⟩])
          have HF0 : Hid (Filling wN x.p q.p (crV dev170 fv.h) fv.is 0 x q w4) := ⟨hduo, HB4.out, rfl, rfl⟩
          have HOK : Hid (∀ c, c ≤ 40 → (fileTo (crV dev170 fv.h) fv.is c).ok (20 + 10 * c)) := fun c hc => fileTo_ok hok c hc (by omega)
          have HFS : Hid (∀ c, fileTo (crV dev170 fv.h) fv.is (c + 1) = fileStep (fileTo (crV dev170 fv.h) fv.is c) c (fv.is.getD c 0)) := fun _ => rfl
          clear HNX HNN hth hduo hok
          rw [h0, erV_0] at HSM
          rw [h0, erV_0]
          clear h0
          generalize hxp : x.p = xp at HF0
          generalize hqp : q.p = qp at HF0
          clear hxp hqp
          go_wp2_with fail
          refine HSM.out.mono ?_
          rintro e w' ⟨rfl, hw⟩
          have hw' := hw.symm
          subst hw'
          clear hw HSM
          go_wp2
          go_loopw [13] (fun i wr => ∃ (c : Nat) (x1 : Ih) (q1 : Qh), c ≤ fv.il ∧ i = .int .i64 (c : Int) ∧ Filling wN xp qp (crV dev170 fv.h) fv.is c x1 q1 wr) (fun i _ => fv.il - (intOf i).toNat)
          case atStart => exact ⟨0, x, q, Nat.zero_le _, rfl, HF0.out⟩
          case round =>
            obtain ⟨c, x1, q1, hcl, rfl, hF⟩ := hrel
            obtain ⟨_, _, _, e4⟩ := HTK.out wr hF.bel
            obtain ⟨hnu, hil⟩ := HTI.out wr hF.bel
            have HF := toHid hF
            have j0 : (0 : Int) ≤ (c : Int) := by omega
            have j2 : ((c : Int)).toNat = c := by omega
            have hil40 : fv.il ≤ 40 := hIL
            by_cases hcc : c < fv.il
            · obtain ⟨gi, oi, hia, hci⟩ := hnu c (by rw [hil]; exact hcc)
              rw [hia] at e4
              have j1 : (c : Int) < (fv.il : Int) := by omega
              have hok := HOK.out c (by omega)
              have hst := HFS.out c
              have hpx := hF.px
              have hpq := hF.pq
              have hduo := hF.duo
              have HBL := toHid hF.bel
              have hstep : ∀ (x2 : Ih) (q2 : Qh) (w2 : World), Duo wN.heap.size w2 x2 q2 (fileStep (fileTo (crV dev170 fv.h) fv.is c) c (fv.is.getD c 0)) (fileStep (fileTo (crV dev170 fv.h) fv.is c) c (fv.is.getD c 0)) → Below wN.heap.size wN w2 → x2.p = xp → q2.p = qp → Filling wN xp qp (crV dev170 fv.h) fv.is (c + 1) x2 q2 w2 := fun x2 q2 w2 h1 h2 h3 h4 => ⟨by rw [hst]; exact h1, h2, h3, h4⟩
              have HSTP := toHid hstep
              clear hF hnu hst hstep HF0
              generalize fileTo (crV dev170 fv.h) fv.is c = vc at hok hduo HSTP
              generalize fv.is.getD c 0 = bb at hci HSTP
              unfold fileStep at HSTP
              have HOK1 := toHid hok
              have HDU := toHid hduo
              clear hok hduo
              by_cases hb1 : bb = 1
              · have gb1 : (bb == 1) = true := by simpa using hb1
                have gb2 : decide (1 < bb) = false := decide_eq_false (by omega)
                have hs1 : (if bb = 1 then vc.clear (c : Int) else if 1 < bb then vc.fill (c : Int) (clusterS bb) else vc) = vc.clear (c : Int) := if_pos hb1
                rw [hs1] at HSTP
                have HC1 := toHid (duo_clear_p (c : Int) HDU.out HOK1.out (by omega))
                rw [hpx] at HC1
                clear hb1 hs1
                go_wp2_with fail
                refine HC1.out.mono ?_
                rintro e w5 ⟨x5, rfl, hp5, hd5, hb5⟩
                have HC2 := toHid (duo_clear_r (c : Int) hd5 HOK1.out (by omega))
                rw [hpq] at HC2
                have HB5 := toHid (HBL.out.trans hb5)
                have HP5 : Hid (x5.p = xp) := hp5
                clear hd5 hb5 hp5 HC1
                go_wp2_with fail
                refine HC2.out.mono ?_
                rintro e w6 ⟨q6, rfl, hp6, hd6, hb6⟩
                have HFN := toHid (HSTP.out x5 q6 w6 hd6 (HB5.out.trans hb6) HP5.out (hp6))
                clear hd6 hb6 hp6 HC2
                go_wp2
                go_roundw
                case rel =>
                  have fin : ∃ (c1 : Nat) (x1 : Ih) (q1 : Qh), c1 ≤ fv.il ∧ Value.int .i64 ((c : Int) + 1) = .int .i64 (c1 : Int) ∧ Filling wN xp qp (crV dev170 fv.h) fv.is c1 x1 q1 w6 := ⟨c + 1, x5, q6, by omega, by go_num, HFN.out⟩
                  first | exact fin | ((repeat apply Exists.intro); exact ⟨fin, rfl⟩)
                case measure => simp [intOf]; omega
              · have gb1 : (bb == 1) = false := by simpa using hb1
                by_cases hb2 : 1 < bb
                · have gb2 : decide (1 < bb) = true := decide_eq_true hb2
                  have hs1 : (if bb = 1 then vc.clear (c : Int) else if 1 < bb then vc.fill (c : Int) (clusterS bb) else vc) = vc.fill (c : Int) (clusterS bb) := by rw [if_neg hb1, if_pos hb2]
                  rw [hs1] at HSTP
                  have HCC := toHid (cluster_any bb wr)
                  clear hb1 hb2 hs1
                  generalize clusterS bb = CS at HSTP HCC
                  go_wp2_with fail
                  refine HCC.out.mono ?_
                  rintro e w5 ⟨rfl, hb5⟩
                  have hd5 := HDU.out.below hb5
                  have HB5 := toHid (HBL.out.trans (hb5.mono HBL.out.size))
                  have HC1 := toHid (duo_fill_p (c : Int) CS hd5 HOK1.out (by omega))
                  rw [hpx] at HC1
                  clear hb5 hd5 HCC
                  go_wp2_with fail
                  refine HC1.out.mono ?_
                  rintro e w6 ⟨x6, rfl, hp6, hd6, hb6⟩
                  have HC2 := toHid (duo_fill_r (c : Int) CS hd6 HOK1.out (by omega))
                  rw [hpq] at HC2
                  have HB6 := toHid (HB5.out.trans hb6)
                  have HP6 : Hid (x6.p = xp) := hp6
                  clear hd6 hb6 hp6 HC1
                  go_wp2_with fail
                  refine HC2.out.mono ?_
                  rintro e w7 ⟨q7, rfl, hp7, hd7, hb7⟩
                  have HFN := toHid (HSTP.out x6 q7 w7 hd7 (HB6.out.trans hb7) HP6.out (hp7))
                  clear hd7 hb7 hp7 HC2
                  go_wp2
                  go_roundw
                  case rel =>
                    have fin : ∃ (c1 : Nat) (x1 : Ih) (q1 : Qh), c1 ≤ fv.il ∧ Value.int .i64 ((c : Int) + 1) = .int .i64 (c1 : Int) ∧ Filling wN xp qp (crV dev170 fv.h) fv.is c1 x1 q1 w7 := ⟨c + 1, x6, q7, by omega, by go_num, HFN.out⟩
                    first | exact fin | ((repeat apply Exists.intro); exact ⟨fin, rfl⟩)
                  case measure => simp [intOf]; omega
                · have gb2 : decide (1 < bb) = false := decide_eq_false hb2
                  have hs1 : (if bb = 1 then vc.clear (c : Int) else if 1 < bb then vc.fill (c : Int) (clusterS bb) else vc) = vc := by rw [if_neg hb1, if_neg hb2]
                  rw [hs1] at HSTP
                  have HFN := toHid (HSTP.out x1 q1 wr HDU.out HBL.out hpx hpq)
                  clear hb1 hb2 hs1
                  go_wp2
                  go_roundw
                  case rel =>
                    have fin : ∃ (c1 : Nat) (x2 : Ih) (q2 : Qh), c1 ≤ fv.il ∧ Value.int .i64 ((c : Int) + 1) = .int .i64 (c1 : Int) ∧ Filling wN xp qp (crV dev170 fv.h) fv.is c1 x2 q2 wr := ⟨c + 1, x1, q1, by omega, by go_num, HFN.out⟩
                    first | exact fin | ((repeat apply Exists.intro); exact ⟨fin, rfl⟩)
                  case measure => simp [intOf]; omega
            · have hce : c = fv.il := by omega
              have gcc : decide ((c : Int) < (fv.il : Int)) = false := decide_eq_false (by omega)
              have hL4 := HL.out.below hF.bel
              obtain ⟨⟨u1, hu1⟩, hz1, ⟨u2, hu2⟩, hz2, hne⟩ := hL4.cellOk hk5
              have hu2' : (wr.setCell ⟨sp, k, none⟩ (.pointer (some ⟨xp, 0, none⟩))).cell? ⟨mp, k, none⟩ = some u2 := by rw [World.cell?_of_block (heap_setCell_other _ _ _ _ (Ne.symm hne))]; exact hu2
              have hz2' : (wr.setCell ⟨sp, k, none⟩ (.pointer (some ⟨xp, 0, none⟩))).frozen? ⟨mp, k, none⟩ = false := by rw [World.frozen?_of_block (heap_setCell_other _ _ _ _ (Ne.symm hne))]; exact hz2
              have hL5 := HL.out.place hF.bel hF.duo hk5 (Nat.le_refl 500) ((HOK.out c (by omega)).more (by omega))
              rw [hF.px, hF.pq] at hL5
              rw [show fileTo (crV dev170 fv.h) fv.is c = fileTo (crV dev170 fv.h) fv.is fv.is.length by rw [hil, hce], ← HN.out] at hL5
              have HL5 := toHid hL5
              clear hF hL4 hL5 HF hnu hce
              go_wp2
              go_roundw
              case rel =>
                have fin : ∃ (k1 : Nat) (xs1 : Nat → Ih) (qs1 : Nat → Qh), k1 ≤ len ∧ Value.int .i64 ((k : Int) + 1) = .int .i64 (k1 : Int) ∧ Lay sp w ((wr.setCell ⟨sp, k, none⟩ (.pointer (some ⟨xp, 0, none⟩))).setCell ⟨mp, k, none⟩ (.pointer (some ⟨qp, 0, none⟩))) sp mp xs1 qs1 (filesTo fs k1) 500 := ⟨k + 1, _, _, by omega, by go_num, HL5.out⟩
                first | exact fin | ((repeat apply Exists.intro); exact ⟨fin, rfl⟩)
              case measure => simp [intOf]; omega
    · have hke : k = len := by omega
      subst hke
      have HLE := toHid hL
      rw [HEN.out] at HLE
      clear hL
      go_wp2
      go_ret3
      exact ⟨sp, mp, xs, qs, rfl, by rw [HSP.out]; exact HLE.out⟩
end Go.Proofs.YtjegaljdindfaabGreatDoor
