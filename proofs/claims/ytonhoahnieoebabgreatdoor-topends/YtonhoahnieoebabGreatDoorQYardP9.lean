/-
A job is started (J5).
-/
import Derived.Test.YtonhoahnieoebabGreatDoorQYardP8
namespace Go.Proofs.YtonhoahnieoebabGreatDoor
open Go.RowKit Go.Maps
attribute [local go_sem ↓] Go.wp_at_zero Go.wp_at_succ

/- The new job is the yard's. -/
theorem IsYard.started {w w1 w2 : World} {yp m C : Nat} {Y Y1 : Yh} {y z : YV} {b : Jh} {j : JV} (h : IsYard w yp Y y) (hb : Below w.heap.size w w1) (hP : PJ w1 yp b.jp b.lp b.bp b.a b.cap Y.xs y.s m C j)
    (hn : w.heap.size ≤ b.jp ∧ w.heap.size ≤ b.lp ∧ w.heap.size ≤ b.bp ∧ ∀ g o, b.a = some ⟨g, o, none⟩ → w.heap.size ≤ g) (hz : IsYard w2 yp Y1 z) (hm : Moved (fpY yp Y y) w1 (fpY yp Y1 z) w2) :
    IsYard (w2.setCell ⟨yp, 12, none⟩ (.pointer (some ⟨b.jp, 0, none⟩))) yp { Y1 with jb := b } { z with j := some j } ∧ Moved (fpY yp Y y) w (fpY yp { Y1 with jb := b } { z with j := some j }) (w2.setCell ⟨yp, 12, none⟩ (.pointer (some ⟨b.jp, 0, none⟩))) := by
  obtain ⟨n1, n2, n3, n4⟩ := hn
  obtain ⟨l1, l2, l3⟩ := hP.job.lts
  have hout : ∀ k, w.heap.size ≤ k → ¬ fpY yp Y y k := fun k hk e => by have := h.fp_lt e; omega
  have hne : j.l ≠ [] := hP.ok.ne
  have hJ : IsJob w2 b.jp yp b.lp b.bp b.a b.cap j := hP.job.keep (hm.block l1 (hout _ n1)) (hm.block l2 (hout _ n2)) (hm.block l3 (hout _ n3))
  have hN : Nums w2 b.a j.l := hP.nums.moved hm (fun g o e => hout g (n4 g o e))
  have hA : Apart b.a (fpY yp { Y1 with jb := b } { z with j := some j }) := fun g o e hf => by
    have hg := hP.nums.lt hne e
    rcases hf with hf | hf | hf | ⟨_, hf⟩
    · exact hm.out hg (hout g (n4 g o e)) (.inl hf)
    · exact hm.out hg (hout g (n4 g o e)) (.inr (.inl hf))
    · exact hm.out hg (hout g (n4 g o e)) (.inr (.inr (.inl hf)))
    · exact hP.ap g o e (.inr hf)
  refine ⟨hz.setJob hJ hN hne hP.cap hA, ?_⟩
  have hk : Kept (fun k => k = yp) w2 (w2.setCell ⟨yp, 12, none⟩ (.pointer (some ⟨b.jp, 0, none⟩))) := Kept.setCell (S := fun k => k = yp) (p := ⟨yp, 12, none⟩) (Kept.refl _ w2) (.inl rfl) _
  have hM1 : Moved (fpY yp Y y) w (fpY yp Y1 z) w2 := (Moved.of_below hb).trans hm
  refine ⟨hM1.kept.trans (hk.mono ?_), fun k hk2 => ?_⟩
  · rintro k _ rfl; exact .inl rfl
  · rcases hk2 with hf | hf | hf | ⟨_, hf⟩
    · exact .inl (.inl hf)
    · exact hM1.new k (.inr (.inl hf))
    · exact hM1.new k (.inr (.inr (.inl hf)))
    · refine .inr ?_
      rcases hf with e | e | e
      · rw [e]; exact n1
      · rw [e]; exact n2
      · rw [e]; exact n3

set_option maxRecDepth 100000 in
set_option maxHeartbeats 2000000 in
theorem ystart_any {yp C m : Nat} {Y : Yh} {y : YV} (kind file rate burst : Int) (w : World) (h : IsYard w yp Y y) (hY : YOk y C m) (hm : m < 1000000000) :
    Calls Tryz.prog 53 #[.pointer (some ⟨yp, 0, none⟩), .int .i64 kind, .int .i64 file, .int .i64 rate, .int .i64 burst] w fun e w' => e = .returned (erV (y.startF (startK y kind file rate burst))) ∧ YDid yp Y y (y.start (startK y kind file rate burst)) w w' := by
  have HG := toHid (ygoes_any w h)
  have HD0 : Hid (∀ W : World, Below w.heap.size w W → YDid yp Y y y w W) := fun W hb => YDid.of_below h hb
  by_cases hb : y.busy = true
  · rw [goV_yes hb] at HG
    have e0 : y.startF0 (startK y kind file rate burst) = 8 := by unfold YV.startF0; rw [if_pos hb]
    have e1 : y.startF (startK y kind file rate burst) = 8 := by unfold YV.startF; rw [e0]; rfl
    have e2 : y.start (startK y kind file rate burst) = y := by unfold YV.start; rw [e0]; rfl
    have HD := toHid (HD0.out w (Below.refl _ _))
    rw [e1, e2, erV_some (by decide)]
    clear h hY hb e0 e1 e2 HD0
    go_enter Tryz.func53, Tryz.ntmps53
    go_wp2_with fail
    refine HG.out.mono ?_
    rintro e w' ⟨rfl, hw⟩
    have hw' := hw.symm
    subst hw'
    clear hw HG
    go_wp2
    go_ret
    exact ⟨rfl, HD.out⟩
  · rw [goV_no hb] at HG
    by_cases hk : kind = 0
    · have e0 : y.startF0 (startK y kind file rate burst) = 1 := by unfold YV.startF0; rw [if_neg hb, if_pos (show (startK y kind file rate burst).kind = 0 from hk)]
      have e1 : y.startF (startK y kind file rate burst) = 1 := by unfold YV.startF; rw [e0]; rfl
      have e2 : y.start (startK y kind file rate burst) = y := by unfold YV.start; rw [e0]; rfl
      have HD := toHid (HD0.out w (Below.refl _ _))
      have g1 : (kind == 0) = true := by simpa using hk
      rw [e1, e2, erV_1]
      clear h hY hb e0 e1 e2 HD0 hk
      go_enter Tryz.func53, Tryz.ntmps53
      go_wp2_with fail
      refine HG.out.mono ?_
      rintro e w' ⟨rfl, hw⟩
      have hw' := hw.symm
      subst hw'
      clear hw HG
      go_wp2
      go_ret
      exact ⟨rfl, HD.out⟩
    · have g1 : (kind == 0) = false := by simpa using hk
      obtain ⟨c0, c5, c6, c11, c12, fz⟩ := h.blk.cells
      obtain ⟨d, hd⟩ : ∃ d : KDesk, d = startK y kind file rate burst := ⟨_, rfl⟩
      have hdr : d.root = y.kd.root := by rw [hd]; rfl
      have HB0 : Hid (Below w.heap.size w (w.alloc (deskC d))) := (Below.refl _ _).alloc (Nat.le_refl _) _
      have HDR := toHid (desk_range d w)
      have HDC := toHid (desk_cells d w)
      have HI : Hid ((Tryz.prog.info? 47).map (·.size) = some ([.int .i64 d.root, .int .i64 d.kind, .int .i64 d.file, .int .i64 d.rate, .int .i64 d.burst] : List Value).length) := size_desk
      have HCK : Hid (∀ W : World, Calls Tryz.prog 147 #[.agg #[.int .i64 d.root, .int .i64 d.kind, .int .i64 d.file, .int .i64 d.rate, .int .i64 d.burst]] W fun e w' => e = .returned (erV d.kv.fault) ∧ Below W.heap.size W w') := fun W => checkDesk_any d.root d.kind d.file d.rate d.burst W
      have hF0 : y.startF0 d = if d.kv.fault = 0 then newF y.s d else d.kv.fault := by unfold YV.startF0; rw [if_neg hb, if_neg (by rw [hd]; exact hk)]
      rw [← hd]
      by_cases hf : d.kv.fault = 0
      · rw [if_pos hf] at hF0
        rw [hf, erV_0] at HCK
        by_cases hnf : newF y.s d = 0
        · have e1 : y.startF d = y.deskF := by unfold YV.startF; rw [if_pos (hF0.trans hnf)]
          have e2 : y.start d = if y.deskF = 0 then { y.desk d with j := some ((newJ y.s d).at 1) } else y.desk d := by unfold YV.start; rw [if_pos (hF0.trans hnf)]
          have HNW : Hid (∀ W : World, Below w.heap.size w W → Calls Tryz.prog 22 #[.pointer (some ⟨yp, 6, none⟩), .agg #[.int .i64 d.root, .int .i64 d.kind, .int .i64 d.file, .int .i64 d.rate, .int .i64 d.burst]] W fun e w' => ∃ (b : Jh) (C' : Nat), e = .returned (.tuple #[.pointer (some ⟨b.jp, 0, none⟩), .nilIface]) ∧ PJ w' yp b.jp b.lp b.bp b.a b.cap Y.xs y.s m C' (newJ y.s d) ∧ (w.heap.size ≤ b.jp ∧ w.heap.size ≤ b.lp ∧ w.heap.size ≤ b.bp ∧ ∀ g o, b.a = some ⟨g, o, none⟩ → w.heap.size ≤ g) ∧ Below W.heap.size W w') := fun W hb2 => by
            refine (new_good d W ((h.shelf hY.s).below hb2) hnf).mono ?_
            rintro e w' ⟨jp, lp, bp, C', a, cap, rfl, h1, ⟨q1, q2, q3, q4⟩, h3, _⟩
            have hs := hb2.size
            exact ⟨⟨jp, lp, bp, a, cap⟩, C', rfl, h1, ⟨Nat.le_trans hs q1, Nat.le_trans hs q2, Nat.le_trans hs q3, fun g o e => Nat.le_trans hs (q4 g o e)⟩, h3⟩
          have HDK : Hid (∀ W : World, Below w.heap.size w W → Calls Tryz.prog 102 #[.pointer (some ⟨yp, 0, none⟩), .agg #[.int .i64 d.root, .int .i64 d.kind, .int .i64 d.file, .int .i64 d.rate, .int .i64 d.burst]] W fun e w' => e = .returned (erV y.deskF) ∧ YDidJ yp Y y (y.desk d) W w') := fun W hb2 => ydesk_any d W (h.below hb2) hY.top hf hm
          obtain ⟨s1, s2, s3, s4⟩ := ydesk_s y d
          have HSJ : Hid (∀ (W1 W2 : World) (b : Jh) (C' : Nat), Below w.heap.size w W1 → PJ W1 yp b.jp b.lp b.bp b.a b.cap Y.xs y.s m C' (newJ y.s d) → (w.heap.size ≤ b.jp ∧ w.heap.size ≤ b.lp ∧ w.heap.size ≤ b.bp ∧ ∀ g o, b.a = some ⟨g, o, none⟩ → w.heap.size ≤ g) → YDidJ yp Y y (y.desk d) W1 W2 →
              (∃ v, W2.cell? ⟨yp, 12, none⟩ = some v) ∧ W2.frozen? ⟨yp, 12, none⟩ = false ∧ Calls Tryz.prog 81 #[.pointer (some ⟨b.jp, 0, none⟩), .bool false] (W2.setCell ⟨yp, 12, none⟩ (.pointer (some ⟨b.jp, 0, none⟩))) fun e w' => e = .returned .nilIface ∧ YDid yp Y y { y.desk d with j := some ((newJ y.s d).at 1) } w w') := fun W1 W2 b C' hb1 hP hfr ⟨Y1, e1, h1, h3⟩ => by
            obtain ⟨_, _, _, _, q12, qf⟩ := h1.blk.cells
            obtain ⟨h5, h6⟩ := h.started hb1 hP hfr h1 h3
            refine ⟨⟨_, q12⟩, qf 12, ?_⟩
            have hpz := yj_pause (m := m) (C := C') false _ h5 (by show (y.desk d).s.ok m; rw [s1]; exact hY.s) rfl (by show JOk (y.desk d).s C' _; rw [s1]; exact hP.ok)
            have ep : pauseF (newJ y.s d) false = 0 := rfl
            rw [ep, erV_0] at hpz
            refine hpz.mono ?_
            rintro e w' ⟨rfl, hd⟩
            refine ⟨rfl, ?_⟩
            obtain ⟨Y2, e2, h7, h8⟩ := hd
            refine ⟨Y2, .inr (fun g o e => ?_), h7, h6.trans h8⟩
            have e3 : b.a = some ⟨g, o, none⟩ := by rw [e2] at e; exact e
            have q1 := hP.nums.lt hP.ok.ne e3
            have q2 := h3.size
            have q3 := h8.size
            have q4 : (W2.setCell ⟨yp, 12, none⟩ (.pointer (some ⟨b.jp, 0, none⟩))).heap.size = W2.heap.size := by simp [World.setCell]
            exact ⟨hfr.2.2.2 g o e3, by omega⟩
          rw [e1, e2]
          unfold deskC at HB0 HDR HDC
          rw [← hdr] at c11
          have e5 : kind = d.kind := by rw [hd]; rfl
          have e6 : file = d.file := by rw [hd]; rfl
          have e7 : rate = d.rate := by rw [hd]; rfl
          have e8 : burst = d.burst := by rw [hd]; rfl
          rw [e5, e6, e7, e8]
          rw [e5] at g1
          have HED : Hid (∀ W1 W2 : World, Below w.heap.size w W1 → YDidJ yp Y y (y.desk d) W1 W2 → YDid yp Y y (y.desk d) w W2) := fun W1 W2 hb1 hd => (YDidJ.from hb1 hd).out
          clear h hY hb e1 e2 hF0 hf c0 c5 c6 c12 fz hd hk hdr e5 e6 e7 e8 HD0 s1 s2 s3 s4 hnf
          generalize ({ y.desk d with j := some ((newJ y.s d).at 1) } : YV) = z2 at HSJ ⊢
          generalize y.desk d = z1 at HDK HSJ HED ⊢
          generalize y.deskF = F at HDK ⊢
          by_cases hF : F = 0
          · rw [if_pos hF, hF, erV_0]
            rw [hF, erV_0] at HDK
            go_enter Tryz.func53, Tryz.ntmps53
            go_wp2_with fail
            refine HG.out.mono ?_
            rintro e w' ⟨rfl, hw⟩
            have hw' := hw.symm
            subst hw'
            clear hw HG
            go_wp2_with fail
            refine (HCK.out _).mono ?_
            rintro e w2 ⟨rfl, hb2⟩
            have HB2 := toHid (HB0.out.trans (hb2.mono HB0.out.size))
            have HS2 := toHid (HDC.out _ hb2.drew)
            have HX2 := toHid hb2.drew
            clear hb2 HCK
            go_wp2
            have HBD : Hid (Below w.heap.size w w2.drew) := HB2.out.drew
            go_region_held3 (fun W => W.cell? ⟨w.heap.size, 0, none⟩ = some (.int .i64 d.root) ∧ W.cell? ⟨w.heap.size, 1, none⟩ = some (.int .i64 d.kind) ∧ W.cell? ⟨w.heap.size, 2, none⟩ = some (.int .i64 d.file) ∧ W.cell? ⟨w.heap.size, 3, none⟩ = some (.int .i64 d.rate) ∧ W.cell? ⟨w.heap.size, 4, none⟩ = some (.int .i64 d.burst))
              (first | (exact HS2.out) | assumption)
              (first
                | (go_at_call 22; refine (HNW.out _ HBD.out).mono ?_; rintro e w3 ⟨b, C', rfl, hP, hfr, hb3⟩; have HB3 := toHid (HBD.out.trans (hb3.mono HBD.out.size)); have HR3 := toHid (HDR.out _ (HX2.out.trans (hb3.mono HX2.out.size))); have HPJ := toHid hP; have HFR := toHid hfr; have hS1 := HDC.out _ (HX2.out.trans (hb3.mono HX2.out.size)); clear hb3 hP hfr))
            have HK := toHid (HDK.out _ HB3.out)
            clear HDK HNW HDR HDC HS2 hS1
            go_wp2_with (refine wpList_load_mid (by rfl) 47 (.tmp 11) (by rfl) w.heap.size 0 (by rfl) [.int .i64 d.root, .int .i64 d.kind, .int .i64 d.file, .int .i64 d.rate, .int .i64 d.burst] _ HR3.out Tryz.underlying47 rfl HI.out ?_)
            refine HK.out.mono ?_
            rintro e w4 ⟨rfl, hd4⟩
            obtain ⟨⟨v, q12⟩, qf, hp⟩ := HSJ.out w3 w4 b C' HB3.out HPJ.out HFR.out hd4
            have HP := toHid hp
            clear hd4 hp HK HSJ HPJ HFR HED HR3
            go_wp2_with fail
            refine HP.out.mono ?_
            rintro e w5 ⟨rfl, hd5⟩
            have HD := toHid hd5
            clear hd5 HP
            go_wp2
            go_ret
            exact ⟨rfl, HD.out⟩
          · rw [if_neg hF]
            rw [erV_some hF] at HDK ⊢
            go_enter Tryz.func53, Tryz.ntmps53
            go_wp2_with fail
            refine HG.out.mono ?_
            rintro e w' ⟨rfl, hw⟩
            have hw' := hw.symm
            subst hw'
            clear hw HG
            go_wp2_with fail
            refine (HCK.out _).mono ?_
            rintro e w2 ⟨rfl, hb2⟩
            have HB2 := toHid (HB0.out.trans (hb2.mono HB0.out.size))
            have HS2 := toHid (HDC.out _ hb2.drew)
            have HX2 := toHid hb2.drew
            clear hb2 HCK
            go_wp2
            have HBD : Hid (Below w.heap.size w w2.drew) := HB2.out.drew
            go_region_held3 (fun W => W.cell? ⟨w.heap.size, 0, none⟩ = some (.int .i64 d.root) ∧ W.cell? ⟨w.heap.size, 1, none⟩ = some (.int .i64 d.kind) ∧ W.cell? ⟨w.heap.size, 2, none⟩ = some (.int .i64 d.file) ∧ W.cell? ⟨w.heap.size, 3, none⟩ = some (.int .i64 d.rate) ∧ W.cell? ⟨w.heap.size, 4, none⟩ = some (.int .i64 d.burst))
              (first | (exact HS2.out) | assumption)
              (first
                | (go_at_call 22; refine (HNW.out _ HBD.out).mono ?_; rintro e w3 ⟨b, C', rfl, hP, hfr, hb3⟩; have HB3 := toHid (HBD.out.trans (hb3.mono HBD.out.size)); have HR3 := toHid (HDR.out _ (HX2.out.trans (hb3.mono HX2.out.size))); have HPJ := toHid hP; have HFR := toHid hfr; have hS1 := HDC.out _ (HX2.out.trans (hb3.mono HX2.out.size)); clear hb3 hP hfr))
            have HK := toHid (HDK.out _ HB3.out)
            clear HDK HNW HDR HDC HS2 hS1
            go_wp2_with (refine wpList_load_mid (by rfl) 47 (.tmp 11) (by rfl) w.heap.size 0 (by rfl) [.int .i64 d.root, .int .i64 d.kind, .int .i64 d.file, .int .i64 d.rate, .int .i64 d.burst] _ HR3.out Tryz.underlying47 rfl HI.out ?_)
            refine HK.out.mono ?_
            rintro e w4 ⟨rfl, hd4⟩
            have HD := toHid (HED.out _ _ HB3.out hd4)
            clear hd4 HK HSJ HPJ HFR HED HR3
            go_wp2
            go_ret
            exact ⟨rfl, HD.out⟩
        · have e1 : y.startF d = newF y.s d := by unfold YV.startF; rw [if_neg (fun e => hnf (hF0.symm.trans e)), hF0]
          have e2 : y.start d = y := by unfold YV.start; rw [if_neg (fun e => hnf (hF0.symm.trans e))]
          have HNW : Hid (∀ W : World, Below w.heap.size w W → Calls Tryz.prog 22 #[.pointer (some ⟨yp, 6, none⟩), .agg #[.int .i64 d.root, .int .i64 d.kind, .int .i64 d.file, .int .i64 d.rate, .int .i64 d.burst]] W fun e w' => e = .returned (.tuple #[.pointer none, .iface 127 (.int .i64 (newF y.s d))]) ∧ Below W.heap.size W w') := fun W hb2 => by
            have := new_bad d W ((h.shelf hY.s).below hb2) hnf
            rw [erV_some hnf] at this; exact this
          rw [e1, e2, erV_some hnf]
          unfold deskC at HB0 HDR HDC
          rw [← hdr] at c11
          have e5 : kind = d.kind := by rw [hd]; rfl
          have e6 : file = d.file := by rw [hd]; rfl
          have e7 : rate = d.rate := by rw [hd]; rfl
          have e8 : burst = d.burst := by rw [hd]; rfl
          rw [e5, e6, e7, e8]
          rw [e5] at g1
          clear h hY hb e1 e2 hF0 hf c0 c5 c6 c12 fz hd hk hdr e5 e6 e7 e8
          generalize newF y.s d = nf at HNW hnf
          go_enter Tryz.func53, Tryz.ntmps53
          go_wp2_with fail
          refine HG.out.mono ?_
          rintro e w' ⟨rfl, hw⟩
          have hw' := hw.symm
          subst hw'
          clear hw HG
          go_wp2_with fail
          refine (HCK.out _).mono ?_
          rintro e w2 ⟨rfl, hb2⟩
          have HB2 := toHid (HB0.out.trans (hb2.mono HB0.out.size))
          have HS2 := toHid (HDC.out _ hb2.drew)
          have HX2 := toHid hb2.drew
          clear hb2 HCK HDR HI
          go_wp2
          have HBD : Hid (Below w.heap.size w w2.drew) := HB2.out.drew
          go_region_held3 (fun W => W.cell? ⟨w.heap.size, 0, none⟩ = some (.int .i64 d.root) ∧ W.cell? ⟨w.heap.size, 1, none⟩ = some (.int .i64 d.kind) ∧ W.cell? ⟨w.heap.size, 2, none⟩ = some (.int .i64 d.file) ∧ W.cell? ⟨w.heap.size, 3, none⟩ = some (.int .i64 d.rate) ∧ W.cell? ⟨w.heap.size, 4, none⟩ = some (.int .i64 d.burst))
            (first | (exact HS2.out) | assumption)
            (first
              | (go_at_call 22; refine (HNW.out _ HBD.out).mono ?_; rintro e w3 ⟨rfl, hb3⟩; have HB3 := toHid (HBD.out.trans (hb3.mono HBD.out.size)); have hS1 := HDC.out _ (HX2.out.trans (hb3.mono HX2.out.size)); clear hb3))
          have HD := toHid (HD0.out _ HB3.out)
          go_wp2
          go_ret
          exact ⟨rfl, HD.out⟩
      · rw [if_neg hf] at hF0
        have e1 : y.startF d = d.kv.fault := by unfold YV.startF; rw [if_neg (fun e => hf (hF0.symm.trans e)), hF0]
        have e2 : y.start d = y := by unfold YV.start; rw [if_neg (fun e => hf (hF0.symm.trans e))]
        rw [erV_some hf] at HCK
        rw [e1, e2, erV_some hf]
        unfold deskC at HB0
        rw [← hdr] at c11
        have e5 : kind = d.kind := by rw [hd]; rfl
        have e6 : file = d.file := by rw [hd]; rfl
        have e7 : rate = d.rate := by rw [hd]; rfl
        have e8 : burst = d.burst := by rw [hd]; rfl
        rw [e5, e6, e7, e8]
        rw [e5] at g1
        clear h hY hb e1 e2 hF0 c0 c5 c6 c12 fz hd hk hdr e5 e6 e7 e8 HI HDR
        generalize d.kv.fault = ff at HCK hf
        go_enter Tryz.func53, Tryz.ntmps53
        go_wp2_with fail
        refine HG.out.mono ?_
        rintro e w' ⟨rfl, hw⟩
        have hw' := hw.symm
        subst hw'
        clear hw HG
        go_wp2_with fail
        refine (HCK.out _).mono ?_
        rintro e w2 ⟨rfl, hb2⟩
        have HD := toHid (HD0.out _ (HB0.out.trans (hb2.mono HB0.out.size)))
        clear hb2 HCK
        go_wp2
        go_ret
        exact ⟨rfl, HD.out⟩
end Go.Proofs.YtonhoahnieoebabGreatDoor
