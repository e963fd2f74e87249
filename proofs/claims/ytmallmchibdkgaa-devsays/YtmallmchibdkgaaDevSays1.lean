/-
DevSays, where it comes to its loop: what it does ahead of it, and a round for each kind of act.
-/
import Derived.Test.YtmallmchibdkgaaDevSaysF
namespace Go.Proofs.Ytmallmchibdkgaa
open Go.RowKit
attribute [local go_sem ↓] Go.wp_at_zero Go.wp_at_succ

set_option maxRecDepth 100000 in
set_option maxHeartbeats 20000000 in
theorem front (sectors : Int) (b : ByteArray) (la : Option Addr) (len cap : Nat) (xs : List ActV) (w : World) (hT : Acts w la len xs) (hlen : len ≤ maxLen) (hf : lightB xs 60 = true) (hb : b.size ≤ 4000)
    (hs1 : -9223372036854775808 ≤ sectors) (hs2 : sectors ≤ 9223372036854775807) :
    Calls Try.prog 4 #[.int .i64 sectors, .string b, .slice la len cap] w fun e w' => e = .returned (.bool true) ∧ Below w.heap.size w w' := by
  have HT0 : Hid (Acts w la len xs) := hT
  clear hT
  have g6 : decide (4000 < (b.size : Int)) = false := by simp; omega
  have hbm : b.size ≤ maxLen := by unfold maxLen; omega
  go_enter Try.func4, Try.ntmps4
  go_wp2_with fail
  refine (stays_any w).mono ?_
  rintro e w1 ⟨rfl, hb1⟩
  go_wp2_with fail
  refine (light_any la len cap 60 xs w1 (HT0.out.below hb1) hlen (by omega)).mono ?_
  rintro e w' ⟨he, hw⟩
  have hw' := hw.symm
  subst hw'
  clear hw
  rw [hf] at he
  subst he
  go_wp2_with fail
  refine (of_both b w1 hb).mono ?_
  rintro e w2 ⟨vx, ve, rfl, hb2, hor⟩
  have HOR : Hid (((b.size % 16 ≠ 0 ∨ b.size < 16 ∨ 3200 < b.size) ∧ vx = .pointer none ∧ ve = .iface 102 (.int .i64 1)) ∨
       (∃ (n : Nat) (h : Hd), b.size = n * 16 ∧ 1 ≤ n ∧ n ≤ 200 ∧ vx = .pointer (some ⟨h.p, 0, none⟩) ∧ ve = .nilIface ∧ IsDev w1.heap.size w2 h (DV.made (chunkTo b n n) 0))) := hor
  have HB2 : Hid (Below w.heap.size w w2) := hb1.trans (hb2.mono hb1.size)
  clear hor hb2 hb1
  obtain ⟨bad, hbad0⟩ : ∃ bad : Bool, bad = decide (b.size % 16 ≠ 0 ∨ b.size < 16 ∨ 3200 < b.size) := ⟨_, rfl⟩
  have HBAD : Hid (bad = decide (b.size % 16 ≠ 0 ∨ b.size < 16 ∨ 3200 < b.size)) := hbad0
  clear hbad0
  go_upto_region 5 with fail
  go_cut [51] from 19 (fun c wx => c = .bool bad ∧ wx = w2)
  case first =>
    as_aux_lemma =>
      by_cases h1 : b.size % 16 ≠ 0
      · have f1 : decide (0 < (b.size : Int) % 16) = true := by simp; omega
        go_wp2
        go_meet
        case rel => exact ⟨congrArg Value.bool (HBAD.out.trans (decide_eq_true (.inl h1))).symm, rfl⟩
      · have f1 : decide (0 < (b.size : Int) % 16) = false := by simp; omega
        by_cases h2 : b.size < 16
        · have f2 : ((b.size : Int) == 0) = true := beq_iff_eq.2 (by omega)
          go_wp2
          go_meet
          case rel => exact ⟨congrArg Value.bool (HBAD.out.trans (decide_eq_true (.inr (.inl h2)))).symm, rfl⟩
        · have f2 : ((b.size : Int) == 0) = false := beq_eq_false_iff_ne.2 (by omega)
          have f3 : decide (3200 < (b.size : Int)) = bad := by rw [HBAD.out]; exact decide_eq_decide.2 (by omega)
          go_wp2
          go_meet
          case rel => first | exact ⟨rfl, rfl⟩ | exact ⟨congrArg Value.bool (HBAD.out.trans (decide_eq_decide.2 (by omega))).symm, rfl⟩
  case rest =>
    obtain ⟨rfl, hwc⟩ := hcut
    have hwc' := hwc.symm
    subst hwc'
    clear hwc
    go_upto_if 51 with fail
    go_cut [] from 19 (fun wx => Below w.heap.size w wx)
    case first =>
      as_aux_lemma =>
        rcases HOR.out with ⟨hbad, rfl, rfl⟩ | ⟨n, h, hn, hn1, hn2, rfl, rfl, hd⟩
        · have f1 : bad = true := HBAD.out.trans (decide_eq_true hbad)
          subst f1
          clear HOR hbad HBAD
          go_wp2_with fail
          refine (same_err 1 _ (by omega)).mono ?_
          rintro e w' ⟨rfl, hw⟩
          have hw' := hw.symm
          subst hw'
          clear hw
          go_wp2
          go_meet
          case rel => exact HB2.out
        · have f1 : bad = false := HBAD.out.trans (decide_eq_false (by omega))
          subst f1
          have HBY : Hid (Calls Try.prog 20 #[.pointer (some ⟨h.p, 0, none⟩)] w2 fun e w' => e = .returned (.string b) ∧ Below w2.heap.size w2 w') := by
            have := bytes_dev w2 hd
            rw [show bytesOf (DV.made (chunkTo b n n) 0).fl.flatten = b by
              show bytesOf (chunkTo b n n).flatten = b
              rw [flat_chunks b n hn, bytesOf_data]] at this
            exact this
          have HSZ : Hid (∀ W : World, Below w2.heap.size w2 W → Calls Try.prog 21 #[.pointer (some ⟨h.p, 0, none⟩)] W fun e w' => e = .returned (.int .i64 (n : Int)) ∧ w' = W) := by
            intro W hW
            have := size_any W (hd.keep (w' := W) fun k hk => hW.block k (hd.lt k hk).2)
            rw [show (DV.made (chunkTo b n n) 0).fl.length = n from chunkTo_len b n n] at this
            exact this
          have f2 : (16 * (n : Int) != (b.size : Int)) = false := by simp; omega
          clear HOR hd HBAD hn
          go_wp2_with fail
          refine HBY.out.mono ?_
          rintro e w3 ⟨rfl, hb3⟩
          go_wp2_with fail
          refine (HSZ.out w3 hb3).mono ?_
          rintro e w' ⟨rfl, hw⟩
          have hw' := hw.symm
          subst hw'
          clear hw
          go_wp2
          go_meet
          case rel => exact HB2.out.trans (hb3.mono HB2.out.size)
    case rest =>
      have HB3 : Hid (Below w.heap.size w wc) := hcut
      clear HOR HB2 HBAD hcut
      by_cases hsn : sectors < 1 ∨ 200 < sectors
      · as_aux_lemma =>
          have f1 : sectors < 1 ∨ 200 < sectors := hsn
          go_wp2_with fail
          refine (new_no sectors _ hsn).mono ?_
          rintro e w' ⟨rfl, hw⟩
          have hw' := hw.symm
          subst hw'
          clear hw
          by_cases h1 : sectors < 1
          · have f2 : decide (sectors < 1) = true := decide_eq_true h1
            clear hsn f1
            go_wp2_with fail
            refine (same_err 1 _ (by omega)).mono ?_
            rintro e w' ⟨rfl, hw⟩
            have hw' := hw.symm
            subst hw'
            clear hw
            go_wp2
            go_ret
            exact ⟨rfl, HB3.out⟩
          · have f2 : decide (sectors < 1) = false := decide_eq_false h1
            have f3 : decide (200 < sectors) = true := decide_eq_true (by omega)
            clear hsn f1
            go_wp2_with fail
            refine (same_err 1 _ (by omega)).mono ?_
            rintro e w' ⟨rfl, hw⟩
            have hw' := hw.symm
            subst hw'
            clear hw
            go_wp2
            go_ret
            exact ⟨rfl, HB3.out⟩
      · obtain ⟨n, rfl⟩ : ∃ n : Nat, sectors = n := ⟨sectors.toNat, by omega⟩
        have hn1 : 1 ≤ n := by omega
        have hn2 : n ≤ 200 := by omega
        have f2 : decide ((n : Int) < 1) = false := decide_eq_false (by omega)
        have f3 : decide (200 < (n : Int)) = false := decide_eq_false (by omega)
        clear hsn
        go_wp2_with fail
        refine (new_yes n _ hn1 hn2).mono ?_
        rintro e w4 ⟨h, rfl, hd, hb4⟩
        have HB4 : Hid (Below w.heap.size w w4) := HB3.out.trans (hb4.mono HB3.out.size)
        have HD4 : Hid (IsDev w.heap.size w4 h (DV.made (List.replicate n noughts) 0)) := hd.base HB3.out.size
        clear hd hb4 HB3
        go_wp2_with fail
        refine (newDev_any n _ hn1 hn2).mono ?_
        rintro e w5 ⟨q, rfl, hr, hb5⟩
        have HB5 : Hid (Below w.heap.size w w5) := HB4.out.trans (hb5.mono HB4.out.size)
        have HD5 : Hid (IsDev w.heap.size w5 h (DV.made (List.replicate n noughts) 0)) := HD4.out.keep fun k hk => hb5.block k (HD4.out.lt k hk).2
        have HR5 : Hid (IsRef w.heap.size w5 q (DV.made (List.replicate n noughts) 0)) := hr.base HB4.out.size
        clear hr hb5 HB4 HD4
        go_wp2_with fail
        have HST : Hid (∃ d : DV, IsDev w.heap.size w5 h d ∧ IsRef w.heap.size w5 q d ∧ d.sn ∧ d.wr ≤ 0 ∧ d.fl.length = n) :=
          ⟨_, HD5.out, HR5.out, made_sn _ _, Nat.le_refl _, by simp [DV.made]⟩
        have hl60 : len ≤ 60 := by
          unfold lightB at hf
          simp only [decide_eq_true_eq] at hf
          have := HT0.out.1
          omega
        have HLT : Hid (∀ k, k < len → (xs.getD k ActV.none_).s.size ≤ 700 ∧ (xs.getD k ActV.none_).kl ≤ 300) := by
          unfold lightB at hf
          simp only [decide_eq_true_eq] at hf
          intro k hk
          exact hf.2 k (by have := HT0.out.1; omega)
        clear HD5 HR5 hf hb g6 hbm hlen hs1 hs2
        go_loopw [10, 11, 12] (fun vd vm i wr => ∃ k : Nat, k ≤ len ∧ i = .int .i64 k ∧ Left w n k vd vm wr) (fun _ _ i _ => len - (intOf i).toNat)
        case atStart =>
          obtain ⟨d, r1, r2, r3, r4, r5⟩ := HST.out
          exact ⟨0, Nat.zero_le _, rfl, h, q, d, rfl, rfl, r1, r2, r3, r4, r5, HB5.out⟩
        case round =>
          clear HST HB5
          obtain ⟨k, hk, rfl, h, q, d, rfl, rfl, hd, hr, hsn, hwr, hfl, hbel⟩ := hrel
          have HD : Hid (IsDev w.heap.size wr h d) := hd
          have HR : Hid (IsRef w.heap.size wr q d) := hr
          have HSN : Hid d.sn := hsn
          have HB : Hid (Below w.heap.size w wr) := hbel
          clear hd hr hsn hbel
          by_cases hlt : k < len
          · obtain ⟨blk, off, hla, hrg, hok⟩ := (HT0.out.below HB.out).2 k hlt
            have hlx := HLT.out k hlt
            generalize xs.getD k ActV.none_ = x at hrg hok hlx
            subst hla
            have HRG : Hid (wr.rangeAt blk (off + k * 7) x.cells) := hrg
            have HI : Hid ((Try.prog.info? 47).map (·.size) = some x.cells.length) := size_act
            have HI2 : Hid ((Try.prog.info? 47).map (·.size) = some x.cells.toArray.size) := size_act
            have HO1 : Hid (∀ v ∈ x.cells.toArray.toList, v.oneCell' = true) := act_one x
            clear hrg
            go_upto_region 20 with (first
              | (refine wpList_load_mid (by rfl) 47 (.tmp 112) (by rfl) blk (off + k * 7) (by rfl) x.cells _ HRG.out Try.underlying47 rfl HI.out ?_)
              | (refine wpList_store_new (by rfl) 47 47 (.tmp 13) (.tmp 113) (by rfl) _ x.cells.toArray (by rfl) (by rfl) rfl HI2.out HO1.out ?_))
            have HXB : Hid (Boxed w wr (wr.alloc (.cells x.cells.toArray 47)) h q d x wr.heap.size) := boxed x HD.out HR.out HB.out
            generalize wr.alloc (.cells x.cells.toArray 47) = W at HXB
            obtain ⟨c0, c1, c5, c6⟩ := HXB.out.cs
            generalize wr.heap.size = N at HXB c0 c1 c5 c6
            clear HRG HI HI2 HO1 HD HR
            go_upto_block 2 with fail
            go_cut [10, 11] (fun vd vm wx => Left w n (k + 1) vd vm wx)
            case first =>
              have HD : Hid (IsDev w.heap.size W h d) := HXB.out.hd
              have HR : Hid (IsRef w.heap.size W q d) := HXB.out.hr
              have HBW : Hid (Below w.heap.size w W) := HXB.out.bel
              have HAP : Hid (∀ k, h.fp k → ¬ q.fp k) := apart_kinds HD.out HR.out
              have hwr' : d.wr < 1000000000 := by omega
              have hn4 := HXB.out.n4
              have HN1 : Hid (∀ k, h.fp k → k ≠ N) := HXB.out.n1
              have HN2 : Hid (∀ k, q.fp k → k ≠ N) := HXB.out.n2
              have HOKX : Hid (ActOk wr x) := hok
              have HUP : Hid (Below wr.heap.size wr W) := HXB.out.up
              clear HXB hok HLT HT0 HB
              by_cases e0 : x.kind.toList = [119, 114, 105, 116, 101]
              · have g0 : (x.kind.toList == [119, 114, 105, 116, 101]) = true := beq_iff_eq.2 e0
                clear e0
                as_aux_lemma =>
                  have HWD : Hid (∀ W', Same W W' → Calls Try.prog 24 #[.pointer (some ⟨h.p, 0, none⟩), .int .i64 x.a, .string x.s] W' fun e w' =>
                      e = .returned (errV (d.doWrite x.a x.s).2) ∧ (w'.cell? ⟨N, 1, none⟩ = some (.int .i64 x.a) ∧ w'.cell? ⟨N, 5, none⟩ = some (.string x.s)) ∧
                      ∀ W'', Same w' W'' → Calls Try.prog 25 #[.pointer (some ⟨q.p, 0, none⟩), .int .i64 x.a, .string x.s] W'' fun e w' =>
                        e = .returned (.int .i64 (d.doWrite x.a x.s).2) ∧ (w'.cell? ⟨N, 1, none⟩ = some (.int .i64 x.a) ∧ w'.cell? ⟨N, 5, none⟩ = some (.string x.s)) ∧
                        ∀ W3, Same w' W3 → Left w n (k + 1) (.pointer (some ⟨h.p, 0, none⟩)) (.pointer (some ⟨q.p, 0, none⟩)) W3) := by
                    intro W' hS
                    have hdw := HD.out.kept (hS.kept (S := fun _ => False)) (fun _ _ => id)
                    have hrw := HR.out.kept (hS.kept (S := fun _ => False)) (fun _ _ => id)
                    have hbw : Below w.heap.size w W' := HBW.out.trans ((hS.kept (S := fun _ => False)).below HBW.out.size (fun _ => False.elim))
                    refine (write_all x.a x.s W' hdw hbw.size hwr').mono ?_
                    rintro e W1 ⟨v, rfl, hd1, hk1, _⟩
                    have hN : N < W'.heap.size := by rw [hS.heap]; exact hn4
                    have e1 : W1.cell? ⟨N, 1, none⟩ = some (.int .i64 x.a) := (hk1.cell hN (fun hs => HN1.out N hs rfl)).trans (((hS.kept (S := fun _ => False)).cell hn4 id).trans c1)
                    have e5 : W1.cell? ⟨N, 5, none⟩ = some (.string x.s) := (hk1.cell hN (fun hs => HN1.out N hs rfl)).trans (((hS.kept (S := fun _ => False)).cell hn4 id).trans c5)
                    refine ⟨rfl, ⟨e1, e5⟩, fun W'' hS2 => ?_⟩
                    have hr1 := hrw.kept hk1 (fun k hq hs => HAP.out k hs hq)
                    have hr2 := hr1.kept (hS2.kept (S := fun _ => False)) (fun _ _ => id)
                    have hd2 := hd1.kept (hS2.kept (S := fun _ => False)) (fun _ _ => id)
                    have hb1 : Below w.heap.size w W1 := hbw.trans (hk1.below hbw.size (fun k hs => (HD.out.lt k hs).1))
                    have hb2 : Below w.heap.size w W'' := hb1.trans ((hS2.kept (S := fun _ => False)).below hb1.size (fun _ => False.elim))
                    refine (refWrite_all x.a x.s W'' hr2 HD.out.ok hb2.size hwr').mono ?_
                    rintro e W3 ⟨q', rfl, hp, hr3, hk3⟩
                    have hN2 : N < W''.heap.size := by rw [hS2.heap]; exact Nat.lt_of_lt_of_le hN hk1.size
                    have hNq : ¬ q.fp N := fun hs => HN2.out N hs rfl
                    have r1 : W3.cell? ⟨N, 1, none⟩ = some (.int .i64 x.a) := (hk3.cell hN2 hNq).trans (((hS2.kept (S := fun _ => False)).cell (Nat.lt_of_lt_of_le hN hk1.size) id).trans e1)
                    have r5 : W3.cell? ⟨N, 5, none⟩ = some (.string x.s) := (hk3.cell hN2 hNq).trans (((hS2.kept (S := fun _ => False)).cell (Nat.lt_of_lt_of_le hN hk1.size) id).trans e5)
                    refine ⟨rfl, ⟨r1, r5⟩, fun W4 hS4 => ?_⟩
                    have hd3 := hd2.kept hk3 (apart_kinds hd2 hr2)
                    have hb3 : Below w.heap.size w W3 := hb2.trans (hk3.below hb2.size (fun k hs => (hr2.lt k hs).1))
                    exact ⟨{ h with v2 := v }, q', _, rfl, (by rw [hp]), hd3.kept (hS4.kept (S := fun _ => False)) (fun _ _ => id), hr3.kept (hS4.kept (S := fun _ => False)) (fun _ _ => id), doWrite_sn HSN.out _ _, Nat.le_trans (doWrite_wr _ _ _) (by omega), (by rw [doWrite_fl]; exact hfl), hb3.trans ((hS4.kept (S := fun _ => False)).below hb3.size (fun _ => False.elim))⟩
                  have hf0 := doWrite_f d x.a x.s
                  clear HD HR HBW HAP HN1 HN2 HOKX HUP hlx hwr' hwr hfl HSN
                  generalize (d.doWrite x.a x.s).2 = fv at HWD hf0
                  generalize x.a = xa at c1 HWD
                  generalize x.s = xs' at c5 HWD
                  go_upto_region 28 with fail
                  go_region_held3 (fun w' => w'.cell? ⟨N, 1, none⟩ = some (.int .i64 xa) ∧ w'.cell? ⟨N, 5, none⟩ = some (.string xs'))
                    (first | (exact ⟨c1, c5⟩) | assumption)
                    (first
                      | (go_at_call 24; refine (HWD.out _ ?_).mono ?_; (· exact ⟨rfl, rfl, rfl, rfl⟩); rintro e W1 ⟨rfl, hSW1, href⟩; have HREF : Hid (∀ W'', Same W1 W'' → Calls Try.prog 25 #[.pointer (some ⟨q.p, 0, none⟩), .int .i64 xa, .string xs'] W'' fun e w' => e = .returned (.int .i64 fv) ∧ (w'.cell? ⟨N, 1, none⟩ = some (.int .i64 xa) ∧ w'.cell? ⟨N, 5, none⟩ = some (.string xs')) ∧ ∀ W3, Same w' W3 → Left w n (k + 1) (.pointer (some ⟨h.p, 0, none⟩)) (.pointer (some ⟨q.p, 0, none⟩)) W3) := href; clear href)
                      | (go_at_call 25; refine (HREF.out _ ?_).mono ?_; (· exact ⟨rfl, rfl, rfl, rfl⟩); rintro e W2 ⟨rfl, hSW2, hlf⟩; have HLF : Hid (∀ W3, Same W2 W3 → Left w n (k + 1) (.pointer (some ⟨h.p, 0, none⟩)) (.pointer (some ⟨q.p, 0, none⟩)) W3) := hlf; clear hlf)
                      | (go_at_call 19; refine (same_all fv _ hf0).mono ?_; rintro e w' ⟨rfl, rfl⟩))
                  go_wp2
                  go_meet
                  case rel => exact HLF.out _ ⟨rfl, rfl, rfl, rfl⟩
              have g0 : (x.kind.toList == [119, 114, 105, 116, 101]) = false := beq_eq_false_iff_ne.2 e0
              clear e0
              by_cases e1 : x.kind.toList = [114, 101, 97, 100]
              · have g1 : (x.kind.toList == [114, 101, 97, 100]) = true := beq_iff_eq.2 e1
                clear e1
                as_aux_lemma =>
                  have ha := HOKX.out.a1
                  by_cases hh : d.has x.a = false
                  · have hor : x.a < 0 ∨ (n : Int) ≤ x.a := by
                      unfold DV.has at hh
                      simp only [decide_eq_false_iff_not] at hh
                      omega
                    have HRD : Hid (Calls Try.prog 26 #[.pointer (some ⟨h.p, 0, none⟩), .int .i64 x.a] W fun e w' => e = .returned (.tuple #[.string ⟨#[]⟩, .iface 102 (.int .i64 1)]) ∧ w' = W) := read_no x.a W HD.out hh
                    have HLF : Hid (Left w n (k + 1) (.pointer (some ⟨h.p, 0, none⟩)) (.pointer (some ⟨q.p, 0, none⟩)) W) :=
                      ⟨h, q, d, rfl, rfl, HD.out, HR.out, HSN.out, by omega, hfl, HBW.out⟩
                    clear HD HR HBW HAP hh
                    generalize x.a = xa at c1 hor HRD ha
                    by_cases h1 : xa < 0
                    · have f1 : decide (xa < 0) = true := decide_eq_true h1
                      clear hor
                      go_wp2_with fail
                      refine HRD.out.mono ?_
                      rintro e w' ⟨rfl, hw⟩
                      have hw' := hw.symm
                      subst hw'
                      clear hw
                      go_wp2_with fail
                      refine (same_err 1 _ (by omega)).mono ?_
                      rintro e w' ⟨rfl, hw⟩
                      have hw' := hw.symm
                      subst hw'
                      clear hw
                      go_wp2
                      go_meet
                      case rel => exact HLF.out
                    · have f1 : decide (xa < 0) = false := decide_eq_false h1
                      have f2 : decide ((n : Int) ≤ xa) = true := decide_eq_true (by omega)
                      clear hor
                      go_wp2_with fail
                      refine HRD.out.mono ?_
                      rintro e w' ⟨rfl, hw⟩
                      have hw' := hw.symm
                      subst hw'
                      clear hw
                      go_wp2_with fail
                      refine (same_err 1 _ (by omega)).mono ?_
                      rintro e w' ⟨rfl, hw⟩
                      have hw' := hw.symm
                      subst hw'
                      clear hw
                      go_wp2
                      go_meet
                      case rel => exact HLF.out
                  · obtain ⟨j1, j2⟩ := has_nat hh
                    have hrd := read_yes x.a.toNat W HD.out j2
                    rw [seen_last HSN.out x.a.toNat j2, ← j1] at hrd
                    have hse := seen_any x.a.toNat W HR.out j2 (by have := HD.out.ok.few; omega)
                    rw [← j1] at hse
                    have HRD : Hid (Calls Try.prog 26 #[.pointer (some ⟨h.p, 0, none⟩), .int .i64 x.a] W fun e w' => e = .returned (.tuple #[.string (bytesOf (lastTo d x.a.toNat d.pend.length)), .nilIface]) ∧ w' = W) := hrd
                    have HSE : Hid (Calls Try.prog 27 #[.pointer (some ⟨q.p, 0, none⟩), .int .i64 x.a] W fun e w' => e = .returned (.string (bytesOf (lastTo d x.a.toNat d.pend.length))) ∧ w' = W) := hse
                    have HLF : Hid (Left w n (k + 1) (.pointer (some ⟨h.p, 0, none⟩)) (.pointer (some ⟨q.p, 0, none⟩)) W) :=
                      ⟨h, q, d, rfl, rfl, HD.out, HR.out, HSN.out, by omega, hfl, HBW.out⟩
                    have f1 : decide (x.a < 0) = false := decide_eq_false (by omega)
                    have f2 : decide ((n : Int) ≤ x.a) = false := decide_eq_false (by omega)
                    clear hrd hse j1 j2 HD HR HBW HAP hh
                    generalize bytesOf (lastTo d x.a.toNat d.pend.length) = y at HRD HSE
                    generalize x.a = xa at c1 HRD HSE f1 f2 ha
                    go_wp2_with fail
                    refine HRD.out.mono ?_
                    rintro e w' ⟨rfl, hw⟩
                    have hw' := hw.symm
                    subst hw'
                    clear hw
                    go_wp2_with fail
                    refine HSE.out.mono ?_
                    rintro e w' ⟨rfl, hw⟩
                    have hw' := hw.symm
                    subst hw'
                    clear hw
                    go_wp2
                    go_meet
                    case rel => exact HLF.out
              have g1 : (x.kind.toList == [114, 101, 97, 100]) = false := beq_eq_false_iff_ne.2 e1
              clear e1
              by_cases e2 : x.kind.toList = [102, 108, 117, 115, 104]
              · have g2 : (x.kind.toList == [102, 108, 117, 115, 104]) = true := beq_iff_eq.2 e2
                clear e2
                as_aux_lemma =>
                  go_wp2_with fail
                  refine (flush_any W HD.out).mono ?_
                  rintro e W1 ⟨rfl, hd1, hk1⟩
                  have HD1 : Hid (IsDev w.heap.size W1 { h with v2 := .slice none 0 0 } d.flushed) := hd1
                  have HR1 : Hid (IsRef w.heap.size W1 q d) := HR.out.kept hk1 (fun k hk hs => HAP.out k (by rcases hs with rfl | rfl; exact .inl rfl; exact .inr (.inl rfl)) hk)
                  have HB1 : Hid (Below w.heap.size w W1) := HBW.out.trans (hk1.below HBW.out.size (fun k hs => (HD.out.lt k (by rcases hs with rfl | rfl; exact .inl rfl; exact .inr (.inl rfl))).1))
                  have HOK : Hid d.ok := HD.out.ok
                  clear hd1 hk1
                  go_wp2_with fail
                  refine (refFlush_any W1 HR1.out HOK.out HSN.out).mono ?_
                  rintro e W2 ⟨rfl, hr2, hk2⟩
                  have HLF : Hid (Left w n (k + 1) (.pointer (some ⟨h.p, 0, none⟩)) (.pointer (some ⟨q.p, 0, none⟩)) W2) :=
                    ⟨{ h with v2 := .slice none 0 0 }, { q with v1 := .slice none 0 0, v2 := .slice none 0 0 }, d.flushed, rfl, rfl, HD1.out.kept hk2 (apart_kinds HD1.out HR1.out), hr2, flushed_sn d, (by show d.wr ≤ _; omega), (by show d.seen.length = n; rw [HOK.out.same]; exact hfl), HB1.out.trans (hk2.below HB1.out.size (fun k hs => (HR1.out.lt k hs).1))⟩
                  clear hr2 hk2 HD1 HR1 HB1 HD HR HBW HAP HOK
                  go_wp2
                  go_meet
                  case rel => exact HLF.out
              have g2 : (x.kind.toList == [102, 108, 117, 115, 104]) = false := beq_eq_false_iff_ne.2 e2
              clear e2
              by_cases e3 : x.kind.toList = [102, 97, 105, 108]
              · have g3 : (x.kind.toList == [102, 97, 105, 108]) = true := beq_iff_eq.2 e3
                clear e3
                as_aux_lemma =>
                  have ha := HOKX.out.a1
                  by_cases h1 : x.a < 0
                  · have HFL : Hid (Calls Try.prog 30 #[.pointer (some ⟨h.p, 0, none⟩), .int .i64 x.a] W fun e w' => e = .returned (.iface 102 (.int .i64 1)) ∧ w' = W) := fail_no x.a W HD.out h1
                    have HLF : Hid (Left w n (k + 1) (.pointer (some ⟨h.p, 0, none⟩)) (.pointer (some ⟨q.p, 0, none⟩)) W) :=
                      ⟨h, q, d, rfl, rfl, HD.out, HR.out, HSN.out, by omega, hfl, HBW.out⟩
                    have f1 : decide (x.a < 0) = true := decide_eq_true h1
                    clear HD HR HBW HAP
                    generalize x.a = xa at c1 HFL f1 ha h1
                    go_wp2_with fail
                    refine HFL.out.mono ?_
                    rintro e w' ⟨rfl, hw⟩
                    have hw' := hw.symm
                    subst hw'
                    clear hw
                    go_wp2_with fail
                    refine (same_err 1 _ (by omega)).mono ?_
                    rintro e w' ⟨rfl, hw⟩
                    have hw' := hw.symm
                    subst hw'
                    clear hw
                    go_wp2
                    go_meet
                    case rel => exact HLF.out
                  · obtain ⟨p0, p1, p2, p3, p4, pf⟩ := HR.out.cells
                    have pfz := pf 3
                    have hr1 := HR.out.failing x.a
                    have hk1 : Kept q.fp W (W.setCell ⟨q.p, 3, none⟩ (.int .i64 x.a)) := (Kept.refl _ _).setCell (.inl (.inl rfl)) _
                    have HD1 : Hid (IsDev w.heap.size (W.setCell ⟨q.p, 3, none⟩ (.int .i64 x.a)) h d) := HD.out.kept hk1 HAP.out
                    have HR1 : Hid (IsRef w.heap.size (W.setCell ⟨q.p, 3, none⟩ (.int .i64 x.a)) q (d.failing x.a)) := hr1
                    have HB1 : Hid (Below w.heap.size w (W.setCell ⟨q.p, 3, none⟩ (.int .i64 x.a))) := HBW.out.trans (hk1.below HBW.out.size (fun k hs => (HR.out.lt k hs).1))
                    have c1' : (W.setCell ⟨q.p, 3, none⟩ (.int .i64 x.a)).cell? ⟨N, 1, none⟩ = some (.int .i64 x.a) := (hk1.cell hn4 (fun hs => HN2.out N hs rfl)).trans c1
                    have HFL : Hid (Calls Try.prog 30 #[.pointer (some ⟨h.p, 0, none⟩), .int .i64 x.a] (W.setCell ⟨q.p, 3, none⟩ (.int .i64 x.a)) fun e w' => e = .returned .nilIface ∧ IsDev w.heap.size w' h (d.failing x.a) ∧ Kept h.fp (W.setCell ⟨q.p, 3, none⟩ (.int .i64 x.a)) w') := fail_yes x.a _ HD1.out (by omega) ha.2
                    have f1 : decide (x.a < 0) = false := decide_eq_false h1
                    clear hr1 hk1 HD HR HBW p0 p1 p2 p4 pf
                    generalize x.a = xa at c1 c1' HFL f1 ha h1 HD1 HR1 HB1
                    go_wp2_with fail
                    refine HFL.out.mono ?_
                    rintro e W2 ⟨rfl, hd2, hk2⟩
                    have HLF : Hid (Left w n (k + 1) (.pointer (some ⟨h.p, 0, none⟩)) (.pointer (some ⟨q.p, 0, none⟩)) W2) :=
                      ⟨h, q, d.failing xa, rfl, rfl, hd2, HR1.out.kept hk2 (fun k hq hs => HAP.out k hs hq), failing_sn HSN.out _, (by show d.wr ≤ _; omega), hfl, HB1.out.trans (hk2.below HB1.out.size (fun k hs => (HD1.out.lt k hs).1))⟩
                    clear hd2 hk2 HD1 HR1 HB1 HAP
                    go_wp2_with fail
                    refine (same_nil 0 _).mono ?_
                    rintro e w' ⟨rfl, hw⟩
                    have hw' := hw.symm
                    subst hw'
                    clear hw
                    go_wp2
                    go_meet
                    case rel => exact HLF.out
              have g3 : (x.kind.toList == [102, 97, 105, 108]) = false := beq_eq_false_iff_ne.2 e3
              clear e3
              by_cases e4 : x.kind.toList = [99, 114, 97, 115, 104]
              · have g4 : (x.kind.toList == [99, 114, 97, 115, 104]) = true := beq_iff_eq.2 e4
                clear e4
                as_aux_lemma =>
                  obtain ⟨a1, kc1, W1, hrun, hK1, hb1⟩ := keep_run W x.ka x.kl x.kc x.ks (HOKX.out.keep.below HUP.out) HOKX.out.kn hlx.2
                  have HRUN : Hid ((Builtin.append_ #[45, 45] 45 #[.slice none 0 0, .slice x.ka x.kl x.kc]).run Try.prog W = .ok (.slice a1 x.kl kc1) W1) := hrun
                  have hkl : x.kl ≤ maxLen := HOKX.out.kl1
                  have HD1 : Hid (IsDev w.heap.size W1 h d) := HD.out.keep fun j hj => hb1.block j (HD.out.lt j hj).2
                  have HR1 : Hid (IsRef w.heap.size W1 q d) := HR.out.keep fun j hj => hb1.block j (HR.out.lt j hj).2
                  have HB1 : Hid (Below W.heap.size W W1) := hb1
                  have HK1 : Hid (Bools W1 a1 x.kl x.ks) := hK1
                  have HK : Hid (Bools W x.ka x.kl x.ks) := HOKX.out.keep.below HUP.out
                  clear hrun hK1 hb1 HOKX
                  go_wp2_with (at_builtin; refine wpList_append_run rfl _ _ 45 45 rfl rfl rfl rfl HRUN.out ?_)
                  refine (crash_any a1 x.kl kc1 x.ks W1 HD1.out HK1.out hkl).mono ?_
                  rintro e W2 ⟨h', rfl, hd2, hb2⟩
                  have HD2 : Hid (IsDev W1.heap.size W2 h' (DV.made (keepTo d.pend x.ks d.fl d.pend.length) d.wr)) := hd2
                  have HB2 : Hid (Below W1.heap.size W1 W2) := hb2
                  have HDO : Hid (IsDev w.heap.size W2 h d) := HD1.out.keep fun j hj => hb2.block j (HD1.out.lt j hj).2
                  have HRO : Hid (IsRef w.heap.size W2 q d) := HR1.out.keep fun j hj => hb2.block j (HR1.out.lt j hj).2
                  clear hd2 hb2 HRUN
                  go_wp2_with fail
                  refine (asDev_any W2 HDO.out HRO.out HSN.out).mono ?_
                  rintro e W3 ⟨rfl, hb3⟩
                  have HB3 : Hid (Below W.heap.size W W3) := HB1.out.trans ((HB2.out.trans (hb3.mono HB2.out.size)).mono HB1.out.size)
                  have c6' : W3.cell? ⟨N, 6, none⟩ = some (.slice x.ka x.kl x.kc) := (HB3.out.cell hn4).trans c6
                  have HRT : Hid (IsRef w.heap.size W3 q d) := HRO.out.keep fun j hj => hb3.block j (HRO.out.lt j hj).2
                  have HDT : Hid (IsDev W1.heap.size W3 h' (DV.made (keepTo d.pend x.ks d.fl d.pend.length) d.wr)) := HD2.out.keep fun j hj => hb3.block j (HD2.out.lt j hj).2
                  have HKT : Hid (Bools W3 x.ka x.kl x.ks) := HK.out.below HB3.out
                  have HOK : Hid d.ok := HD.out.ok
                  have hs1 : w.heap.size ≤ W1.heap.size := Nat.le_trans HBW.out.size HB1.out.size
                  clear hb3 HB2 HDO HRO HD2 HK1 HK HD1 HR1
                  go_wp2_with fail
                  refine (refCrash_any x.ka x.kl x.kc x.ks W3 HRT.out HOK.out HKT.out hkl).mono ?_
                  rintro e W4 ⟨q', rfl, hr4, hb4⟩
                  have HLF : Hid (Left w n (k + 1) (.pointer (some ⟨h'.p, 0, none⟩)) (.pointer (some ⟨q'.p, 0, none⟩)) W4) :=
                    ⟨h', q', _, rfl, rfl, (HDT.out.base hs1).keep (fun j hj => hb4.block j (HDT.out.lt j hj).2), hr4.base (Nat.le_trans HBW.out.size HB3.out.size), made_sn _ _, (by show d.wr ≤ _; omega), (by show (keepTo d.pend x.ks d.fl d.pend.length).length = n; rw [keepTo_len]; exact hfl), HBW.out.trans ((HB3.out.trans (hb4.mono HB3.out.size)).mono HBW.out.size)⟩
                  clear hr4 hb4 HDT HRT HKT
                  go_wp2
                  go_meet
                  case rel => exact HLF.out
              have g4 : (x.kind.toList == [99, 114, 97, 115, 104]) = false := beq_eq_false_iff_ne.2 e4
              clear e4
              as_aux_lemma =>
                go_wp2_with fail
                refine (copy_any W HD.out).mono ?_
                rintro e W1 ⟨h', rfl, hd1, hb1⟩
                have HDC : Hid (IsDev W.heap.size W1 h' d) := hd1
                have HB1 : Hid (Below W.heap.size W W1) := hb1
                have HD1 : Hid (IsDev w.heap.size W1 h d) := HD.out.keep fun j hj => hb1.block j (HD.out.lt j hj).2
                have HR1 : Hid (IsRef w.heap.size W1 q d) := HR.out.keep fun j hj => hb1.block j (HR.out.lt j hj).2
                have HFP : Hid (∀ k, h.fp k → k < W.heap.size) := fun k hk => (HD.out.lt k hk).2
                have HQP : Hid (∀ k, q.fp k → k < W.heap.size) := fun k hk => (HR.out.lt k hk).2
                have hs1 : w.heap.size ≤ W1.heap.size := Nat.le_trans HBW.out.size hb1.size
                clear hd1 hb1
                go_wp2_with fail
                refine (write_all 0 ⟨#[102, 101, 100, 99, 98, 97, 57, 56, 55, 54, 53, 52, 51, 50, 49, 48]⟩ W1 HD1.out hs1 hwr').mono ?_
                rintro e W2 ⟨v, rfl, hd2, hk2, hv⟩
                have HB2 : Hid (Below w.heap.size w W2) := (HBW.out.trans (HB1.out.mono HBW.out.size)).trans (hk2.below hs1 (fun k hs => (HD1.out.lt k hs).1))
                have HDC2 : Hid (IsDev W.heap.size W2 h' d) := HDC.out.kept hk2 (fun k hc hs => by have := HFP.out k hs; have := (HDC.out.lt k hc).1; omega)
                have HR2 : Hid (IsRef w.heap.size W2 q d) := HR1.out.kept hk2 (fun k hq hs => HAP.out k hs hq)
                generalize (d.doWrite 0 ⟨#[102, 101, 100, 99, 98, 97, 57, 56, 55, 54, 53, 52, 51, 50, 49, 48]⟩).1 = d2 at hd2
                generalize errV (d.doWrite 0 ⟨#[102, 101, 100, 99, 98, 97, 57, 56, 55, 54, 53, 52, 51, 50, 49, 48]⟩).2 = ev
                have HD2 : Hid (IsDev w.heap.size W2 { h with v2 := v } d2) := hd2
                clear hd2 hk2 hv HDC HR1 HD1
                go_wp2_with fail
                refine (flush_any W2 HD2.out).mono ?_
                rintro e W3 ⟨rfl, _, hk3⟩
                have HLF : Hid (Left w n (k + 1) (.pointer (some ⟨h'.p, 0, none⟩)) (.pointer (some ⟨q.p, 0, none⟩)) W3) := by
                  have hS : ∀ j, (j = h.p ∨ j = h.bf) → h.fp j := fun j e => by rcases e with rfl | rfl; exact .inl rfl; exact .inr (.inl rfl)
                  exact ⟨h', q, d, rfl, rfl, (HDC2.out.base HBW.out.size).kept hk3 (fun k hc hs => by have := HFP.out k (hS k hs); have := (HDC2.out.lt k hc).1; omega), HR2.out.kept hk3 (fun k hq hs => HAP.out k (hS k hs) hq), HSN.out, by omega, hfl, HB2.out.trans (hk3.below HB2.out.size (fun k hs => (HD.out.lt k (hS k hs)).1))⟩
                clear hk3 HD2 HDC2 HR2 HB2
                go_wp2
                go_meet
                case rel => exact HLF.out
            case rest =>
              as_aux_lemma =>
                clear HXB c0 c1 c5 c6 hwr hfl HSN HB
                obtain ⟨h, q, d, rfl, rfl, hd, hr, hsn, hwr, hfl, hbel⟩ := hcut
                have HD : Hid (IsDev w.heap.size wc h d) := hd
                have HR : Hid (IsRef w.heap.size wc q d) := hr
                have HSN : Hid d.sn := hsn
                have HB : Hid (Below w.heap.size w wc) := hbel
                clear hd hr hsn hbel
                by_cases hm : k % 4 = 0
                · have f1 : (((k : Int) % 4) == 0) = true := beq_iff_eq.2 (by omega)
                  clear hm
                  go_wp2_with fail
                  refine (asDev_any _ HD.out HR.out HSN.out).mono ?_
                  rintro e w6 ⟨rfl, hb6⟩
                  have HB6 : Hid (Below wc.heap.size wc w6) := hb6
                  clear hb6
                  go_wp2
                  go_roundw
                  case rel =>
                    have fin : ∃ k' : Nat, k' ≤ len ∧ Value.int .i64 ((k : Int) + 1) = .int .i64 k' ∧ Left w n k' (.pointer (some ⟨h.p, 0, none⟩)) (.pointer (some ⟨q.p, 0, none⟩)) w6 :=
                      ⟨k + 1, by omega, by go_num, h, q, d, rfl, rfl, HD.out.keep (fun j hj => HB6.out.block j (HD.out.lt j hj).2), HR.out.keep (fun j hj => HB6.out.block j (HR.out.lt j hj).2), HSN.out, hwr, hfl, HB.out.trans (HB6.out.mono HB.out.size)⟩
                    first | exact fin | ((repeat apply Exists.intro); exact ⟨fin, rfl⟩)
                  case measure => simp [intOf]; omega
                · have f1 : (((k : Int) % 4) == 0) = false := beq_eq_false_iff_ne.2 (by omega)
                  clear hm
                  go_wp2
                  go_roundw
                  case rel =>
                    have fin : ∃ k' : Nat, k' ≤ len ∧ Value.int .i64 ((k : Int) + 1) = .int .i64 k' ∧ Left w n k' (.pointer (some ⟨h.p, 0, none⟩)) (.pointer (some ⟨q.p, 0, none⟩)) wc :=
                      ⟨k + 1, by omega, by go_num, h, q, d, rfl, rfl, HD.out, HR.out, HSN.out, hwr, hfl, HB.out⟩
                    first | exact fin | ((repeat apply Exists.intro); exact ⟨fin, rfl⟩)
                  case measure => simp [intOf]; omega
          · as_aux_lemma =>
              go_wp2_with fail
              refine (asDev_any _ HD.out HR.out HSN.out).mono ?_
              rintro e w6 ⟨rfl, hb6⟩
              go_wp2
              go_ret
              exact ⟨rfl, HB.out.trans (hb6.mono HB.out.size)⟩
end Go.Proofs.Ytmallmchibdkgaa
