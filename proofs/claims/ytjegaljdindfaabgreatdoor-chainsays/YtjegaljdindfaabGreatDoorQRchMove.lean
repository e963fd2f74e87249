/-
chained: wipe, on both shelves.
The document's Move (G4).
-/
import Derived.Test.YtjegaljdindfaabGreatDoorQChainPut2
import Derived.Test.YtjegaljdindfaabGreatDoorQRchWipe
import Derived.Test.YtjegaljdindfaabGreatDoorQRchPut2
namespace Go.Proofs.YtjegaljdindfaabGreatDoor
open Go.RowKit Go.Maps
attribute [local go_sem ↓] Go.wp_at_zero Go.wp_at_succ

theorem noughtsM_any (n : Nat) (w : World) (hn : n ≤ 10000) :
    Calls Tryz.prog 38 #[.int .i64 (n : Int)] w fun e w' => e = .returned (.string (bytesOf (List.replicate n 0))) ∧ Below w.heap.size w w' := by
  obtain ⟨i0, hi0, hz0, hz1, hz2⟩ := info_parts info_byte
  obtain ⟨w1, hmk, hown, hgr⟩ := run_make_full (P := Tryz.prog) w w.heap.size 132 5 i0 (.int .u8 0) 1 Tryz.underlying132 hi0 hz0 hz1 .i64 .i64 n (by rw [hz2]; omega) (by unfold maxLen; omega) (Nat.le_refl _)
  have hb : Below w.heap.size w w1 := (Below.refl _ _).grown hgr (Nat.le_refl _) (fun k e => by cases e)
  have hr : w1.rangeAt w.heap.size 0 (secV (List.replicate n 0)) := fun j v hv => by
    have hj : j < n := by
      rcases Nat.lt_or_ge j n with q | q
      · exact q
      · rw [List.getElem?_eq_none (by rw [secV_len, List.length_replicate]; exact q)] at hv; cases hv
    rw [Nat.zero_add, hown.cellAt j (by omega)]
    have e : (madeCells (Value.int .u8 0).cells (n * 1)).toList = secV (List.replicate n 0) := by
      rw [Nat.mul_one]
      show (madeCells #[Value.int .u8 0] n).toList = _
      rw [toList_madeCells_one]; simp [secV]
    rw [e]; exact hv
  have hcv := conv_sec n n (by simp) hr
  have HB : Hid (Below w.heap.size w w1) := hb
  clear hr hown hgr hb hi0 hz0 hz1 hz2
  generalize bytesOf (List.replicate n 0) = S at hcv ⊢
  go_enter Tryz.func38, Tryz.ntmps38
  go_wp2
  go_ret
  exact ⟨rfl, HB.out⟩

set_option maxRecDepth 100000 in
set_option maxHeartbeats 2000000 in
theorem chained_wipe {B m C cap : Nat} {w0 : World} {sp mp : Nat} {xs : Nat → Ih} {qs : Nat → Qh} {s : SV} {a : Option Addr} {l : List Int} (x : ActV) (w : World) (h : Yoke B w0 w sp mp xs qs s m a l C) (hm : m + 3000 < 1000000000) (ha : (-9223372036854775808 ≤ x.a ∧ x.a ≤ 9223372036854775807)) (e0 : x.kind.toList = [119, 105, 112, 101]) :
    Calls Tryz.prog 13 #[.pointer (some ⟨sp, 0, none⟩), .pointer (some ⟨mp, 0, none⟩), .slice a l.length cap, .agg #[.string x.kind, .int .i64 x.a, .int .i64 x.b, .int .i64 x.c, .int .i64 x.d, .string x.s, .slice x.ka x.kl x.kc]] w fun e w' => e = .returned (.bool true) ∧ Yoked B w0 sp mp (m + 2000) a l C w' := by
  have hat : ActAt (w.alloc (actBox x)) w.heap.size x := ⟨heap_alloc_new w _⟩
  have g0 : (x.kind.toList == [112, 117, 116]) = false := by rw [e0]; rfl
  have g1 : (x.kind.toList == [119, 105, 112, 101]) = true := by rw [e0]; rfl
  have hba : Below w.heap.size w (w.alloc (actBox x)) := (Below.refl _ _).alloc (Nat.le_refl _) _
  clear e0
  obtain ⟨c1, c2, c5⟩ := hat.cells
  have HY : Hid (∀ W : World, Below (w.alloc (actBox x)).heap.size (w.alloc (actBox x)) W → Yoked B w0 sp mp (m + 2000) a l C W) := fun W hb => ⟨xs, qs, s, (h.below (hba.trans (hb.mono hba.size))).more (by omega)⟩
  by_cases h0 : x.b < 0
  · have q0 : decide (x.b < 0) = true := decide_eq_true h0
    clear h hba hat hm ha h0
    unfold actBox at HY c1 c2 c5
    go_enter Tryz.func13, Tryz.ntmps13
    go_wp2
    generalize w.alloc (.cells #[.string x.kind, .int .i64 x.a, .int .i64 x.b, .int .i64 x.c, .int .i64 x.d, .string x.s, .slice x.ka x.kl x.kc] 43) = W at HY c1 c2 c5 ⊢
    generalize w.heap.size = N at c1 c2 c5 ⊢
    go_ret
    exact ⟨rfl, HY.out _ (Below.refl _ _)⟩
  · have q0 : decide (x.b < 0) = false := decide_eq_false h0
    by_cases h4 : 200 < x.b
    · have q1 : decide (200 < x.b) = true := decide_eq_true h4
      clear h hba hat hm ha h0 h4
      unfold actBox at HY c1 c2 c5
      go_enter Tryz.func13, Tryz.ntmps13
      go_wp2
      generalize w.alloc (.cells #[.string x.kind, .int .i64 x.a, .int .i64 x.b, .int .i64 x.c, .int .i64 x.d, .string x.s, .slice x.ka x.kl x.kc] 43) = W at HY c1 c2 c5 ⊢
      generalize w.heap.size = N at c1 c2 c5 ⊢
      go_ret
      exact ⟨rfl, HY.out _ (Below.refl _ _)⟩
    · have q1 : decide (200 < x.b) = false := decide_eq_false h4
      obtain ⟨n, hn⟩ : ∃ n : Nat, x.b = (n : Int) := ⟨x.b.toNat, by omega⟩
      have hn2 : n ≤ 200 := by omega
      have hst := yoke_step h (h.good.wipe l x.a (n : Int)) x (fun W hi hn => cwipe_any (cap := cap) l x.a (n : Int) W hi hn h.good h.len h.cc h.apS hm ha) (fun W hr hn => rwipe_any (cap := cap) l x.a W hr hn h.good h.len h.cc h.apQ hm ha hn2)
      have hf0 := s.wipe_pos l x.a (n : Int)
      have HNO : Hid (∀ W : World, Calls Tryz.prog 38 #[.int .i64 (16 * (n : Int))] W fun e w' => e = .returned (.string (noughtB (n * 16))) ∧ Below W.heap.size W w') := fun W => by
        have := noughtsM_any (n * 16) W (by omega)
        rw [show ((n * 16 : Nat) : Int) = 16 * (n : Int) by omega] at this
        exact this
      have HCS : Hid (∀ W : World, Below (w.alloc (actBox x)).heap.size (w.alloc (actBox x)) W → W.cell? ⟨w.heap.size, 1, none⟩ = some (.int .i64 x.a) ∧ W.cell? ⟨w.heap.size, 2, none⟩ = some (.int .i64 x.b) ∧ W.cell? ⟨w.heap.size, 5, none⟩ = some (.string x.s)) := fun W hb => by
        have hlt : w.heap.size < (w.alloc (actBox x)).heap.size := by simp
        exact ActAt.cells ⟨by rw [hb.block _ hlt]; exact hat.blk⟩
      have r1 : IntKind.i64.wrap (16 * x.b) = 16 * x.b := IntWalk.i64_in _ (by omega)
      rw [← hn] at hst HNO hf0
      clear h hba hat hm ha h0 h4
      generalize s.wipe l x.a x.b = R at hst hf0
      generalize l.length = len at hst ⊢
      generalize noughtB (n * 16) = NB at hst HNO
      have HST := toHid hst
      clear hst hn hn2
      unfold actBox at HY c1 c2 c5 HST HCS
      go_enter Tryz.func13, Tryz.ntmps13
      go_wp2
      generalize w.alloc (.cells #[.string x.kind, .int .i64 x.a, .int .i64 x.b, .int .i64 x.c, .int .i64 x.d, .string x.s, .slice x.ka x.kl x.kc] 43) = W at HY c1 c2 c5 HST HCS ⊢
      generalize w.heap.size = N at c1 c2 c5 HST HCS ⊢
      have HBN : Hid (∀ W1 W2 : World, Below W1.heap.size W1 W2 → ActAt W1 N x → W2.cell? ⟨N, 1, none⟩ = some (.int .i64 x.a) ∧ W2.cell? ⟨N, 2, none⟩ = some (.int .i64 x.b) ∧ W2.cell? ⟨N, 5, none⟩ = some (.string x.s)) := fun W1 W2 hb ha => ActAt.cells ⟨by rw [hb.block _ (lt_of_some ha.blk)]; exact ha.blk⟩
      go_region_held3 (fun W' => W'.cell? ⟨N, 1, none⟩ = some (.int .i64 x.a) ∧ W'.cell? ⟨N, 2, none⟩ = some (.int .i64 x.b) ∧ W'.cell? ⟨N, 5, none⟩ = some (.string x.s))
        (first | (exact ⟨c1, c2, c5⟩) | assumption)
        (first
          | (go_at_call 37; refine (HST.out _ ?_).mono ?_; (· exact Alike.below ⟨rfl, rfl, rfl, rfl⟩); rintro e W1 ⟨rfl, hA1, href⟩; have hSW1 := hA1.cells; have HREF := toHid href; have HA1 := toHid hA1; clear href hA1)
          | (go_at_call 38; refine (HNO.out _).mono ?_; rintro e W4 ⟨rfl, hb4⟩; have HB4 := toHid (Alike.then_ hb4 (a := W1) ⟨rfl, rfl, rfl, rfl⟩); have hSW4 := HBN.out _ _ HB4.out HA1.out; clear hb4)
          | (go_at_call 36; refine (HREF.out _ ?_).mono ?_; (· exact Alike.after HB4.out ⟨rfl, rfl, rfl, rfl⟩); rintro e W2 ⟨rfl, hA2, hlf⟩; have hSW2 := hA2.cells; have HLF := toHid hlf; clear hlf hA2)
          | (go_at_call 11; refine (errSame R.2 _ hf0).mono ?_; rintro e w' ⟨rfl, rfl⟩))
      go_wp2
      go_ret
      exact ⟨rfl, HLF.out _ (Alike.below ⟨rfl, rfl, rfl, rfl⟩)⟩
end Go.Proofs.YtjegaljdindfaabGreatDoor

namespace Go.Proofs.YtjegaljdindfaabGreatDoor
open Go.RowKit Go.Maps
attribute [local go_sem ↓] Go.wp_at_zero Go.wp_at_succ

theorem text_eq (t u : ByteArray) : (t.toList == u.toList) = decide (t = u) := by
  by_cases h : t = u
  · rw [h, decide_eq_true rfl]; simp
  · rw [decide_eq_false h]
    have : t.toList ≠ u.toList := fun e => h (by
      rw [ByteArray.toList_eq, ByteArray.toList_eq] at e
      rw [← bytesOf_data t, e, bytesOf_data])
    simpa using this

set_option maxRecDepth 100000 in
set_option maxHeartbeats 2000000 in
theorem rmove_any {sp m : Nat} {xs : Nat → Qh} {s : SV} {v : IV} (n c : Int) (t : ByteArray) (w : World) (h : IsRshelf w sp xs s m) (hf : s.file n = some v) (ht : t.size = 64) (hm : m + 10 < 1000000000) :
    Calls Tryz.prog 42 #[.pointer (some ⟨sp, 0, none⟩), .int .i64 n, .int .i64 c, .string t] w (RDid w sp xs s (m + 10) (s.move n c t)) := by
  obtain ⟨n0, n5, _⟩ := SV.file_of hf
  obtain ⟨k, rfl⟩ : ∃ k : Nat, n = (k : Int) := ⟨n.toNat, by omega⟩
  have hkt : ((k : Int)).toNat = k := by omega
  obtain ⟨hi, hok⟩ := h.imgF hf
  have hcf := h.cellF hf
  rw [hkt] at hi hcf
  have HMV : Hid (s.move (k : Int) c t = if t = noughtB 64 then (s.upd k (v.clear c), v.clearF c) else if (v.entE c).1 = 2 then (s.upd k (v.write c 0 t), v.writeF c 0 t) else (s.upd k (v.fill c t), v.fillF c t)) := by unfold Hid SV.move; rw [hf]; rfl
  have HNO : Hid (Calls Tryz.prog 38 #[.int .i64 64] w fun e w' => e = .returned (.string (noughtB 64)) ∧ Below w.heap.size w w') := noughtsN_any 64 w (by decide)
  have HTH : Hid (∀ W : World, Below w.heap.size w W → Calls Tryz.prog 85 #[.pointer (some ⟨(xs k).p, 0, none⟩), .int .i64 c] W fun e w' => e = .returned (.bool (v.there c)) ∧ w' = W) := fun W hb => there_rim c W (hi.below hb) hok.len
  have HCL : Hid (∀ W : World, Below w.heap.size w W → Calls Tryz.prog 30 #[.pointer (some ⟨(xs k).p, 0, none⟩), .int .i64 c] W (RDid w sp xs s (m + 10) (s.upd k (v.clear c), v.clearF c))) := fun W hb => by
    have := (rclear_s c W (h.below hb) hf hm).mono fun e w' hd => RDid.from hd hb
    rw [hkt] at this; exact this
  have HWR : Hid (∀ W : World, Below w.heap.size w W → Calls Tryz.prog 106 #[.pointer (some ⟨(xs k).p, 0, none⟩), .int .i64 c, .int .i64 0, .string t] W (RDid w sp xs s (m + 10) (s.upd k (v.write c 0 t), v.writeF c 0 t))) := fun W hb => by
    have := (rwrite_s c 0 t W (h.below hb) hf hm (by omega) (by decide)).mono fun e w' hd => RDid.from hd hb
    rw [hkt] at this; exact this
  have HFL : Hid (∀ W : World, Below w.heap.size w W → Calls Tryz.prog 32 #[.pointer (some ⟨(xs k).p, 0, none⟩), .int .i64 c, .string t] W (RDid w sp xs s (m + 10) (s.upd k (v.fill c t), v.fillF c t))) := fun W hb => by
    have := (rfill_s c t W (h.below hb) hf hm).mono fun e w' hd => RDid.from hd hb
    rw [hkt] at this; exact this
  have HSM : Hid (∀ W : World, Below w.heap.size w W → RDid w sp xs s (m + 10) (s, 1) (.returned (.int .i64 1)) W) := fun W hb => RDid.same (h.more (by omega)) hb
  have HNT : Hid (v.there c = false → (s.upd k (v.fill c t), v.fillF c t) = (s, 1)) := fun hx => by
    have e1 : v.fill c t = v := by unfold IV.fill; rw [hx, if_neg (by simp)]
    have e2 : v.fillF c t = 1 := by unfold IV.fillF; rw [hx, if_neg (by simp)]
    have e3 : s k = some v := by have := (SV.file_of hf).2.2; rw [hkt] at this; exact this
    rw [e1, e2]
    congr 1
    funext j
    unfold SV.upd
    split
    · next hj => rw [hj, e3]
    · rfl
  have HET : Hid (v.there c = true → ∃ (cn g2 cap2 : Nat), c = (cn : Int) ∧ cn < v.t.length ∧ ∀ W : World, Below w.heap.size w W → W.cell? ⟨(xs k).p, 4, none⟩ = some (.slice (some ⟨g2, 0, none⟩) v.t.length cap2) ∧ W.cell? ⟨g2, cn * 2, none⟩ = some (.int .i64 (v.entE c).1)) := fun hx => by
    obtain ⟨t0, t1⟩ := IV.there_of hx
    obtain ⟨cn, rfl⟩ : ∃ cn : Nat, c = (cn : Int) := ⟨c.toNat, by omega⟩
    obtain ⟨g2, cap2, hv2, hg2, e0, _⟩ := hi.entAt (c := cn) (by omega)
    refine ⟨cn, g2, cap2, rfl, by omega, fun W hb => ?_⟩
    have e4 := (hi.below hb).cells.2.2.2.2.1
    rw [hv2] at e4
    refine ⟨e4, ?_⟩
    have hent : (v.entE (cn : Int)).1 = (v.t.getD cn (0, 0)).1 := by unfold IV.entE; rw [hx, if_pos rfl]; rfl
    rw [hent, hb.cell (p := ⟨g2, cn * 2, none⟩) hg2]
    exact e0
  have HEN : Hid (v.there c = false → (v.entE c).1 = 0) := fun hx => by unfold IV.entE; rw [hx]; rfl
  have k0 : (0 : Int) ≤ (k : Int) := by omega
  have k1 : (k : Int) < 5 := by omega
  have hteq := text_eq t (noughtB 64)
  generalize s.move (k : Int) c t = R at HMV ⊢
  clear h hf hi hok ht
  generalize (xs k).p = xp at hcf HTH HCL HWR HFL HET
  by_cases hz : t = noughtB 64
  · have HR : Hid (R = (s.upd k (v.clear c), v.clearF c)) := by unfold Hid; rw [HMV.out, if_pos hz]
    rw [decide_eq_true hz] at hteq
    rw [← HR.out] at HCL
    generalize noughtB 64 = NB at hteq HNO
    clear hz HMV HTH HWR HFL HSM HNT HET HEN
    go_enter Tryz.func42, Tryz.ntmps42
    go_wp2_with fail
    refine HNO.out.mono ?_
    rintro e w1 ⟨rfl, hb1⟩
    have HC1 := toHid (HCL.out _ hb1)
    clear hb1 HCL
    go_wp2_with fail
    refine HC1.out.mono ?_
    rintro e w2 ⟨xs', rfl, h2, h3⟩
    have HD : Hid (RDid w sp xs s (m + 10) R (.returned (.int .i64 R.2)) w2) := ⟨xs', rfl, h2, h3⟩
    clear h2 h3
    rw [retN_is]
    go_wp2
    go_ret
    exact HD.out
  · rw [decide_eq_false hz] at hteq
    have HM2 : Hid (R = if (v.entE c).1 = 2 then (s.upd k (v.write c 0 t), v.writeF c 0 t) else (s.upd k (v.fill c t), v.fillF c t)) := by unfold Hid; rw [HMV.out, if_neg hz]
    generalize noughtB 64 = NB at hteq HNO
    clear hz HMV HCL
    cases hth : v.there c with
    | false =>
      have HR : Hid (R = (s, 1)) := by
        unfold Hid
        rw [HM2.out, if_neg (by rw [HEN.out hth]; decide), HNT.out hth]
      rw [hth] at HTH
      rw [← HR.out] at HSM
      clear hth HM2 HNT HET HEN HWR HFL
      go_enter Tryz.func42, Tryz.ntmps42
      go_wp2_with fail
      refine HNO.out.mono ?_
      rintro e w1 ⟨rfl, hb1⟩
      have HB1 := toHid hb1
      clear hb1
      go_wp2_with fail
      refine (HTH.out _ HB1.out).mono ?_
      rintro e w' ⟨rfl, hw⟩
      have hw' := hw.symm
      subst hw'
      clear hw
      have HD := toHid (HSM.out _ HB1.out)
      go_wp2
      go_ret
      exact HD.out
    | true =>
      obtain ⟨cn, g2, cap2, rfl, hcl, hcells⟩ := HET.out hth
      have HCC := toHid hcells
      rw [hth] at HTH
      have q0 : (0 : Int) ≤ (cn : Int) := by omega
      have q1 : (cn : Int) < (v.t.length : Int) := by omega
      have q2 : ((cn : Int)).toNat = cn := by omega
      clear hth HNT HET HEN hcells HSM
      generalize (v.entE (cn : Int)).1 = y at HM2 HCC
      generalize v.t.length = tl at q1 HCC hcl
      by_cases hy : y = 2
      · have HR : Hid (R = (s.upd k (v.write (cn : Int) 0 t), v.writeF (cn : Int) 0 t)) := by unfold Hid; rw [HM2.out, if_pos hy]
        have g1 : (y == 2) = true := by simpa using hy
        rw [← HR.out] at HWR
        clear HM2 HFL hy
        go_enter Tryz.func42, Tryz.ntmps42
        go_wp2_with fail
        refine HNO.out.mono ?_
        rintro e w1 ⟨rfl, hb1⟩
        have HB1 := toHid hb1
        obtain ⟨d1, d2⟩ := HCC.out w1 hb1
        clear hb1
        go_wp2_with fail
        refine (HTH.out _ HB1.out).mono ?_
        rintro e w' ⟨rfl, hw⟩
        have hw' := hw.symm
        subst hw'
        clear hw
        have HW2 := toHid (HWR.out _ HB1.out)
        clear HWR
        go_wp2_with fail
        refine HW2.out.mono ?_
        rintro e w3 ⟨xs', rfl, h2, h3⟩
        have HD : Hid (RDid w sp xs s (m + 10) R (.returned (.int .i64 R.2)) w3) := ⟨xs', rfl, h2, h3⟩
        clear h2 h3 d1 d2
        rw [retN_is]
        go_wp2
        go_ret
        exact HD.out
      · have HR : Hid (R = (s.upd k (v.fill (cn : Int) t), v.fillF (cn : Int) t)) := by unfold Hid; rw [HM2.out, if_neg hy]
        have g1 : (y == 2) = false := by simpa using hy
        rw [← HR.out] at HFL
        clear HM2 HWR hy
        go_enter Tryz.func42, Tryz.ntmps42
        go_wp2_with fail
        refine HNO.out.mono ?_
        rintro e w1 ⟨rfl, hb1⟩
        have HB1 := toHid hb1
        obtain ⟨d1, d2⟩ := HCC.out w1 hb1
        clear hb1
        go_wp2_with fail
        refine (HTH.out _ HB1.out).mono ?_
        rintro e w' ⟨rfl, hw⟩
        have hw' := hw.symm
        subst hw'
        clear hw
        have HW2 := toHid (HFL.out _ HB1.out)
        clear HFL
        go_wp2_with fail
        refine HW2.out.mono ?_
        rintro e w3 ⟨xs', rfl, h2, h3⟩
        have HD : Hid (RDid w sp xs s (m + 10) R (.returned (.int .i64 R.2)) w3) := ⟨xs', rfl, h2, h3⟩
        clear h2 h3 d1 d2
        rw [retN_is]
        go_wp2
        go_ret
        exact HD.out
end Go.Proofs.YtjegaljdindfaabGreatDoor
