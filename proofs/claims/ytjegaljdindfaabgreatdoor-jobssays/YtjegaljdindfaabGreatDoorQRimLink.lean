/-
Move: a whole cluster's bytes into a file (G4).
The document's shelf: sectors of one cluster in the first file; a whole cluster's bytes into a file.
The document's own image: Link, and what is read.
-/
import Derived.Test.YtjegaljdindfaabGreatDoorQRchRead
import Derived.Test.YtjegaljdindfaabGreatDoorQActs4
import Derived.Test.YtjegaljdindfaabGreatDoorQRimFill
namespace Go.Proofs.YtjegaljdindfaabGreatDoor
open Go.RowKit Go.Maps
attribute [local go_sem ↓] Go.wp_at_zero Go.wp_at_succ

theorem dropWhile_nil {p : UInt8 → Bool} {l : List UInt8} : l.dropWhile p = [] ↔ ∀ x ∈ l, p x = true := by
  induction l with
  | nil => simp
  | cons x l ih =>
    rw [List.dropWhile_cons]
    split
    · next h => rw [ih]; simp [h]
    · next h => simp [h]

theorem trimB_nil {l : List UInt8} {c : UInt8} : Lib.trimB l c = [] ↔ ∀ x ∈ l, x = c := by
  unfold Lib.trimB Lib.trimLeftB Lib.trimRightB
  rw [dropWhile_nil]
  constructor
  · intro h x hx
    have h0 : l.reverse.dropWhile (· == c) = [] := by
      cases hd : l.reverse.dropWhile (· == c) with
      | nil => rfl
      | cons y r =>
        have hy : ¬ (y == c) = true := by
          have := List.head?_dropWhile_not (· == c) l.reverse
          rw [hd] at this
          simpa using this
        have := h y (by rw [hd]; simp)
        exact absurd this hy
    have := dropWhile_nil.1 h0 x (by simpa using hx)
    simpa using this
  · intro h x hx
    have : x ∈ l := by
      have h1 : x ∈ l.reverse.dropWhile (· == c) := by simpa using hx
      have h2 : x ∈ l.reverse := (List.dropWhile_sublist _).subset h1
      simpa using h2
    simpa using h x this

theorem trim_noughts {t : ByteArray} (ht : t.size = 64) : ((Lib.trimB t.data.toList 0).toArray.toList == []) = decide (t = noughtB 64) := by
  have hl : t.data.toList.length = 64 := by simpa using ht
  by_cases h : t = noughtB 64
  · rw [decide_eq_true h]
    have : Lib.trimB t.data.toList 0 = [] := trimB_nil.2 fun x hx => by
      rw [h] at hx
      exact List.eq_of_mem_replicate (show x ∈ List.replicate 64 (0 : UInt8) from by simpa [noughtB, bytesOf] using hx)
    rw [this]; rfl
  · rw [decide_eq_false h]
    have : Lib.trimB t.data.toList 0 ≠ [] := fun e => h (by
      have h1 := trimB_nil.1 e
      have h2 : t.data.toList = List.replicate 64 0 := List.eq_replicate_iff.2 ⟨hl, h1⟩
      unfold noughtB
      rw [← h2, bytesOf_data])
    simpa using this

set_option maxRecDepth 100000 in
set_option maxHeartbeats 2000000 in
theorem cmove_any {sp m : Nat} {xs : Nat → Ih} {s : SV} {v : IV} (n c : Int) (t : ByteArray) (w : World) (h : IsShelf w sp xs s m) (hf : s.file n = some v) (ht : t.size = 64) (hm : m + 10 < 1000000000) :
    Calls Tryz.prog 41 #[.pointer (some ⟨sp, 0, none⟩), .int .i64 n, .int .i64 c, .string t] w (SDid w sp xs s (m + 10) (s.move n c t)) := by
  have HFI := toHid (file_any n w h)
  rw [hf] at HFI
  unfold ptrO at HFI
  have HMV : Hid (s.move n c t = if t = noughtB 64 then (s.upd n.toNat (v.clear c), v.clearF c) else if (v.entE c).1 = 2 then (s.upd n.toNat (v.write c 0 t), v.writeF c 0 t) else (s.upd n.toNat (v.fill c t), v.fillF c t)) := by unfold Hid SV.move; rw [hf]
  have HTR : Hid (Calls Tryz.prog 103 #[.string t, .string ⟨#[0]⟩] w fun e w' => e = .returned (.string ⟨(Lib.trimB t.data.toList 0).toArray⟩) ∧ Below w.heap.size w w') := by
    refine (Tryz.strings_Trim_one t 0 (by decide) w (by omega)).mono ?_
    rintro e w' ⟨rfl, rfl | rfl⟩
    · exact ⟨rfl, Below.refl _ _⟩
    · exact ⟨rfl, (Below.refl _ _).drew⟩
  have hTN := trim_noughts ht
  have HKO : Hid (∀ W : World, Below w.heap.size w W → Calls Tryz.prog 104 #[.pointer (some ⟨(xs n.toNat).p, 0, none⟩), .int .i64 c] W fun e w' => e = .returned (.int .i64 (v.entE c).1) ∧ Below W.heap.size W w') := fun W hb => kindOf_img c W ((h.below hb).imgF hf).1
  have HCL : Hid (∀ W : World, Below w.heap.size w W → Calls Tryz.prog 29 #[.pointer (some ⟨(xs n.toNat).p, 0, none⟩), .int .i64 c] W (SDid w sp xs s (m + 10) (s.upd n.toNat (v.clear c), v.clearF c))) := fun W hb =>
    (clear_s c W (h.below hb) hf hm).mono fun e w' hd => hd.from hb
  have HWR : Hid (∀ W : World, Below w.heap.size w W → Calls Tryz.prog 105 #[.pointer (some ⟨(xs n.toNat).p, 0, none⟩), .int .i64 c, .int .i64 0, .string t] W (SDid w sp xs s (m + 10) (s.upd n.toNat (v.write c 0 t), v.writeF c 0 t))) := fun W hb =>
    (write_s c 0 t W (h.below hb) hf hm (by omega) (by decide)).mono fun e w' hd => hd.from hb
  have HFL : Hid (∀ W : World, Below w.heap.size w W → Calls Tryz.prog 31 #[.pointer (some ⟨(xs n.toNat).p, 0, none⟩), .int .i64 c, .string t] W (SDid w sp xs s (m + 10) (s.upd n.toNat (v.fill c t), v.fillF c t))) := fun W hb =>
    (fill_s c t W (h.below hb) hf hm).mono fun e w' hd => hd.from hb
  generalize s.move n c t = R at HMV ⊢
  generalize (v.entE c).1 = y at HKO HMV
  generalize (xs n.toNat).p = xp at HFI HKO HCL HWR HFL
  generalize (Lib.trimB t.data.toList 0).toArray = TR at HTR hTN
  have hTN2 : ((⟨TR⟩ : ByteArray).toList == []) = decide (t = noughtB 64) := by
    rw [← hTN]
    congr 1
    rw [ByteArray.toList_eq]
  clear h hf hTN ht
  by_cases hz : t = noughtB 64
  · have HR : Hid (R = (s.upd n.toNat (v.clear c), v.clearF c)) := by unfold Hid; rw [HMV.out, if_pos hz]
    rw [decide_eq_true hz] at hTN2
    rw [← HR.out] at HCL
    clear hz HMV HKO HWR HFL
    go_enter Tryz.func41, Tryz.ntmps41
    go_wp2_with fail
    refine HFI.out.mono ?_
    rintro e w' ⟨rfl, hw⟩
    have hw' := hw.symm
    subst hw'
    clear hw
    go_wp2_with fail
    refine HTR.out.mono ?_
    rintro e w1 ⟨rfl, hb1⟩
    have HC1 := toHid (HCL.out _ hb1)
    clear hb1
    go_wp2_with fail
    refine HC1.out.mono ?_
    rintro e w2 ⟨xs', rfl, h2, h3⟩
    have HD : Hid (SDid w sp xs s (m + 10) R (.returned (erV R.2)) w2) := ⟨xs', rfl, h2, h3⟩
    clear h2 h3
    go_wp2
    go_ret
    exact HD.out
  · rw [decide_eq_false hz] at hTN2
    by_cases hy : y = 2
    · have HR : Hid (R = (s.upd n.toNat (v.write c 0 t), v.writeF c 0 t)) := by unfold Hid; rw [HMV.out, if_neg hz, if_pos hy]
      have g1 : (y == 2) = true := by simpa using hy
      rw [← HR.out] at HWR
      clear hz HMV HCL HFL hy
      go_enter Tryz.func41, Tryz.ntmps41
      go_wp2_with fail
      refine HFI.out.mono ?_
      rintro e w' ⟨rfl, hw⟩
      have hw' := hw.symm
      subst hw'
      clear hw
      go_wp2_with fail
      refine HTR.out.mono ?_
      rintro e w1 ⟨rfl, hb1⟩
      have HB1 := toHid hb1
      clear hb1
      go_wp2_with fail
      refine (HKO.out _ HB1.out).mono ?_
      rintro e w2 ⟨rfl, hb2⟩
      have HW2 := toHid (HWR.out _ (HB1.out.trans (hb2.mono HB1.out.size)))
      clear hb2
      go_wp2_with fail
      refine HW2.out.mono ?_
      rintro e w3 ⟨xs', rfl, h2, h3⟩
      have HD : Hid (SDid w sp xs s (m + 10) R (.returned (erV R.2)) w3) := ⟨xs', rfl, h2, h3⟩
      clear h2 h3
      go_wp2
      go_ret
      exact HD.out
    · have HR : Hid (R = (s.upd n.toNat (v.fill c t), v.fillF c t)) := by unfold Hid; rw [HMV.out, if_neg hz, if_neg hy]
      have g1 : (y == 2) = false := by simpa using hy
      rw [← HR.out] at HFL
      clear hz HMV HCL HWR hy
      go_enter Tryz.func41, Tryz.ntmps41
      go_wp2_with fail
      refine HFI.out.mono ?_
      rintro e w' ⟨rfl, hw⟩
      have hw' := hw.symm
      subst hw'
      clear hw
      go_wp2_with fail
      refine HTR.out.mono ?_
      rintro e w1 ⟨rfl, hb1⟩
      have HB1 := toHid hb1
      clear hb1
      go_wp2_with fail
      refine (HKO.out _ HB1.out).mono ?_
      rintro e w2 ⟨rfl, hb2⟩
      have HW2 := toHid (HFL.out _ (HB1.out.trans (hb2.mono HB1.out.size)))
      clear hb2
      go_wp2_with fail
      refine HW2.out.mono ?_
      rintro e w3 ⟨xs', rfl, h2, h3⟩
      have HD : Hid (SDid w sp xs s (m + 10) R (.returned (erV R.2)) w3) := ⟨xs', rfl, h2, h3⟩
      clear h2 h3
      go_wp2
      go_ret
      exact HD.out
end Go.Proofs.YtjegaljdindfaabGreatDoor

namespace Go.Proofs.YtjegaljdindfaabGreatDoor
open Go.RowKit Go.Maps
attribute [local go_sem ↓] Go.wp_at_zero Go.wp_at_succ

theorem rwrite_s {sp m : Nat} {xs : Nat → Qh} {s : SV} {n : Int} {v : IV} (c f : Int) (t : ByteArray) (w : World) (h : IsRshelf w sp xs s m) (hf : s.file n = some v) (hm : m + 10 < 1000000000) (ht : t.size ≤ 1000) (hr : -9223372036854775808 ≤ f ∧ f ≤ 9223372036854775807) :
    Calls Tryz.prog 106 #[.pointer (some ⟨(xs n.toNat).p, 0, none⟩), .int .i64 c, .int .i64 f, .string t] w (RDid w sp xs s (m + 10) (s.upd n.toNat (v.write c f t), v.writeF c f t)) := by
  obtain ⟨i1, i2⟩ := h.imgF hf
  exact (write_rim c f t w i1.but i2 hm (Nat.le_refl _) ht hr).mono fun e w' hd => RDid.of h hf (by omega) (i2.write c f t (by omega)) hd

theorem rfill_s {sp m : Nat} {xs : Nat → Qh} {s : SV} {n : Int} {v : IV} (c : Int) (t : ByteArray) (w : World) (h : IsRshelf w sp xs s m) (hf : s.file n = some v) (hm : m + 10 < 1000000000) :
    Calls Tryz.prog 32 #[.pointer (some ⟨(xs n.toNat).p, 0, none⟩), .int .i64 c, .string t] w (RDid w sp xs s (m + 10) (s.upd n.toNat (v.fill c t), v.fillF c t)) := by
  obtain ⟨i1, i2⟩ := h.imgF hf
  exact (fill_rim c t w i1.but i2 hm (Nat.le_refl _)).mono fun e w' hd => RDid.of h hf (by omega) (i2.fill c t (by omega)) hd

theorem rclear_s {sp m : Nat} {xs : Nat → Qh} {s : SV} {n : Int} {v : IV} (c : Int) (w : World) (h : IsRshelf w sp xs s m) (hf : s.file n = some v) (hm : m + 10 < 1000000000) :
    Calls Tryz.prog 30 #[.pointer (some ⟨(xs n.toNat).p, 0, none⟩), .int .i64 c] w (RDid w sp xs s (m + 10) (s.upd n.toNat (v.clear c), v.clearF c)) := by
  obtain ⟨i1, i2⟩ := h.imgF hf
  exact (clear_rim c w i1.but i2 hm (Nat.le_refl _)).mono fun e w' hd => RDid.of h hf (by omega) (i2.clear c (by omega)) hd

theorem retN_is (f : Int) : retN f = .int .i64 f := rfl

set_option maxRecDepth 100000 in
set_option maxHeartbeats 2000000 in
theorem rlay_any {sp m cap : Nat} {xs : Nat → Qh} {s : SV} {a : Option Addr} {C : Int} (l : List Int) (c f : Nat) (t : ByteArray) (w : World) (h : IsRshelf w sp xs s m) (hl : Nums w a l) (hg : s.good C l) (h0 : l ≠ []) (h5 : l.length ≤ 100) (hm : m + 10 < 1000000000) (hp : f * 16 + t.size ≤ 64) (hc : (c : Int) < C) :
    Calls Tryz.prog 99 #[.pointer (some ⟨sp, 0, none⟩), .slice a l.length cap, .int .i64 (c : Int), .int .i64 (f : Int), .string t] w (RDid w sp xs s (m + 10) (s.lay l c f t)) := by
  have hl0 : 0 < l.length := List.length_pos_iff.2 h0
  obtain ⟨g, o, x, v, rfl, hx, x5, hf, hvc, hc1, hc2, hi, hok⟩ := h.numAt hl hg hl0
  have hxt : ((x : Int)).toNat = x := by omega
  obtain ⟨r1, r2⟩ := SV.read_yes hg h.ok h0 (c := (c : Int)) ⟨by omega, hc⟩
  have hth : v.there (c : Int) = true := by unfold IV.there; have := hok.len; exact decide_eq_true ⟨by omega, by omega⟩
  obtain ⟨g2, cap2, hv2, hg2, e0, _⟩ := hi.entAt (c := c) (by have := hok.len; omega)
  have e4 := hi.cells.2.2.2.2.1
  rw [hv2] at e4
  have hent : (v.entE c).1 = (v.t.getD c (0, 0)).1 := by unfold IV.entE; rw [hth, if_pos rfl]; rfl
  have HLY : Hid (s.lay l c f t = if (v.entE c).1 = 2 then (s.upd x (v.write c f t), v.writeF c f t) else
      (s.upd x (v.fill c ((s.read l c).1.extract 0 (f * 16) ++ t ++ (s.read l c).1.extract (f * 16 + t.size) 64)), v.fillF c ((s.read l c).1.extract 0 (f * 16) ++ t ++ (s.read l c).1.extract (f * 16 + t.size) 64))) := by
    unfold Hid
    cases l with
    | nil => exact absurd rfl h0
    | cons y r =>
      have hy : y = (x : Int) := hx
      subst hy
      show (match s.file (x : Int) with | none => (s, (4 : Int)) | some v => _) = _
      rw [hf]
      rfl
  have HWR : Hid (∀ W : World, Below w.heap.size w W → Calls Tryz.prog 106 #[.pointer (some ⟨(xs x).p, 0, none⟩), .int .i64 (c : Int), .int .i64 (f : Int), .string t] W (RDid w sp xs s (m + 10) (s.upd x (v.write c f t), v.writeF c f t))) := fun W hb => by
    have := (rwrite_s (c : Int) (f : Int) t W (h.below hb) hf hm (by omega) (by omega)).mono fun e w' hd => RDid.from hd hb
    rw [hxt] at this; exact this
  have HFL : Hid (∀ (T : ByteArray) (W : World), Below w.heap.size w W → Calls Tryz.prog 32 #[.pointer (some ⟨(xs x).p, 0, none⟩), .int .i64 (c : Int), .string T] W (RDid w sp xs s (m + 10) (s.upd x (v.fill c T), v.fillF c T))) := fun T W hb => by
    have := (rfill_s (c : Int) T W (h.below hb) hf hm).mono fun e w' hd => RDid.from hd hb
    rw [hxt] at this; exact this
  have HRD : Hid (∀ W : World, Below w.heap.size w W → Calls Tryz.prog 43 #[.pointer (some ⟨sp, 0, none⟩), .slice (some ⟨g, o, none⟩) l.length cap, .int .i64 (c : Int)] W fun e w' => e = .returned (.tuple #[.string (s.read l c).1, .int .i64 0]) ∧ Below W.heap.size W w') := fun W hb => by
    have := rread_any (cap := cap) l (c : Int) W (h.below hb) (hl.below hb) hg h5
    rw [r1] at this; exact this
  have hc1' : w.cell? ⟨g, o, none⟩ = some (.int .i64 (x : Int)) := hc1
  have k3 : (0 : Int) ≤ (x : Int) := by omega
  have k4 : (x : Int) < 5 := by omega
  have q0 : (0 : Int) ≤ (c : Int) := by omega
  have q1 : (c : Int) < (v.t.length : Int) := by have := hok.len; omega
  have q2 : ((c : Int)).toNat = c := by omega
  have hn1 : (0 : Int) < (l.length : Int) := by omega
  rw [← hent] at e0
  generalize s.lay l c f t = R at HLY ⊢
  generalize (s.read l c).1 = old at r2 HRD HLY
  generalize (v.entE c).1 = y at e0 HLY
  clear h hl hg hi hok hf hx hvc hc1 hv2 hent hth
  generalize (xs x).p = xp at hc2 e4 HWR HFL
  generalize v.t.length = tl at e4 q1
  generalize l.length = q at hl0 hn1 HRD ⊢
  have HDR : Hid (Below w.heap.size w w.drew) := (Below.refl _ _).drew
  have m1 : w.drew.cell? ⟨xp, 4, none⟩ = some (.slice (some ⟨g2, 0, none⟩) tl cap2) := e4
  have m2 : w.drew.cell? ⟨g2, c * 2, none⟩ = some (.int .i64 y) := e0
  by_cases hy : y = 2
  · have g1 : (y == 2) = true := by simpa using hy
    have HR : Hid (R = (s.upd x (v.write c f t), v.writeF c f t)) := by unfold Hid; rw [HLY.out, if_pos hy]
    have HW1 := toHid (HWR.out _ HDR.out)
    rw [← HR.out] at HW1
    clear hy HLY HFL HRD HWR
    go_enter Tryz.func99, Tryz.ntmps99
    go_wp2
    go_region
    go_wp2_with fail
    refine HW1.out.mono ?_
    rintro e w2 ⟨xs', rfl, h2, h3⟩
    have HD : Hid (RDid w sp xs s (m + 10) R (.returned (.int .i64 R.2)) w2) := ⟨xs', rfl, h2, h3⟩
    clear h2 h3
    rw [retN_is]
    go_wp2
    go_ret
    exact HD.out
  · have g1 : (y == 2) = false := by simpa using hy
    have HR : Hid (R = (s.upd x (v.fill c (old.extract 0 (f * 16) ++ t ++ old.extract (f * 16 + t.size) 64)), v.fillF c (old.extract 0 (f * 16) ++ t ++ old.extract (f * 16 + t.size) 64))) := by unfold Hid; rw [HLY.out, if_neg hy]
    clear hy HLY HWR
    have HRW := toHid (HRD.out _ HDR.out)
    have j1 : IntKind.i64.wrap (16 * (f : Int)) = 16 * (f : Int) := IntWalk.i64_in _ (by omega)
    have j2 : IntKind.i64.wrap (16 * (f : Int) + (t.size : Int)) = 16 * (f : Int) + (t.size : Int) := IntWalk.i64_in _ (by omega)
    have j3 : (0 : Int) ≤ 16 * (f : Int) := by omega
    have j4 : 16 * (f : Int) ≤ (old.size : Int) := by omega
    have j5 : (16 * (f : Int)).toNat = 16 * f := by omega
    have j6 : (0 : Int) ≤ 16 * (f : Int) + (t.size : Int) := by omega
    have j7 : 16 * (f : Int) + (t.size : Int) ≤ (old.size : Int) := by omega
    have j8 : (16 * (f : Int) + (t.size : Int)).toNat = 16 * f + t.size := by omega
    obtain ⟨EA, hEA⟩ : ∃ EA, EA = old.extract 0 (16 * f) := ⟨_, rfl⟩
    obtain ⟨EB, hEB⟩ : ∃ EB, EB = old.extract (16 * f + t.size) old.size := ⟨_, rfl⟩
    have hz1 : EA.size = 16 * f := by rw [hEA, ByteArray.size_extract]; omega
    have hz2 : EB.size ≤ 64 := by rw [hEB, ByteArray.size_extract]; omega
    have k7 : ¬ 9223372036854775807 < EA.size + t.size := by omega
    have k8 : ¬ 9223372036854775807 < EA.size + t.size + EB.size := by omega
    have k9 : ¬ 9223372036854775807 < (EA ++ t).size + EB.size := by rw [ByteArray.size_append]; omega
    have k7a : ¬ 9223372036854775807 < min (16 * f) old.size + t.size := by omega
    have k8a : ¬ 9223372036854775807 < min (16 * f) old.size + t.size + (old.size - (16 * f + t.size)) := by omega
    have HRT : Hid (R = (s.upd x (v.fill c (EA ++ t ++ EB)), v.fillF c (EA ++ t ++ EB))) := by
      unfold Hid
      rw [hEA, hEB, HR.out, r2, show 16 * f = f * 16 by omega]
    rw [hEA] at k7 k8 k9 HRT
    rw [hEB] at k8 k9 HRT
    clear HR hz1 hz2 r2 hEA hEB hp
    go_enter Tryz.func99, Tryz.ntmps99
    go_wp2
    go_region
    go_wp2_with fail
    refine HRW.out.mono ?_
    rintro e w2 ⟨rfl, hb2⟩
    have HB2 : Hid (Below w.heap.size w w2.drew) := (HDR.out.trans (hb2.mono HDR.out.size)).drew
    have HF2 := toHid (HFL.out (old.extract 0 (16 * f) ++ t ++ old.extract (16 * f + t.size) old.size) _ HB2.out)
    rw [← HRT.out] at HF2
    clear hb2 HFL HRT HRW HRD
    go_wp2
    go_region_held3 (fun _ => True)
      (first | trivial | assumption)
      (first
        | (go_at_call 32; refine HF2.out.mono ?_; rintro e w4 ⟨xs', rfl, h2, h3⟩))
    have HD : Hid (RDid w sp xs s (m + 10) R (.returned (.int .i64 R.2)) w4) := ⟨xs', rfl, h2, h3⟩
    clear h2 h3
    rw [retN_is]
    go_wp2
    go_ret
    exact HD.out
end Go.Proofs.YtjegaljdindfaabGreatDoor

namespace Go.Proofs.YtjegaljdindfaabGreatDoor
open Go.RowKit Go.Maps
attribute [local go_sem ↓] Go.wp_at_zero Go.wp_at_succ

theorem IsRim.headed {B : Gd} {w : World} {q : Qh} {v : IV} (h : IsRim B w q v) (g : HV) :
    IsRim B (((w.setCell ⟨q.p, 1, none⟩ (.int .i64 g.c)).setCell ⟨q.p, 2, none⟩ (.int .i64 g.p)).setCell ⟨q.p, 3, none⟩ (.int .i64 g.b)) q { v with h := g } ∧
    KeptR B w (((w.setCell ⟨q.p, 1, none⟩ (.int .i64 g.c)).setCell ⟨q.p, 2, none⟩ (.int .i64 g.p)).setCell ⟨q.p, 3, none⟩ (.int .i64 g.b)) := by
  obtain ⟨h1, k1⟩ := h.setP 1 (.int .i64 g.c) (q2 := q) (v2 := { v with h := ⟨g.c, v.h.p, v.h.b⟩ }) rfl rfl rfl rfl h.own h.held h.ne h.tB h.hB
  obtain ⟨h2, k2⟩ := h1.setP 2 (.int .i64 g.p) (q2 := q) (v2 := { v with h := ⟨g.c, g.p, v.h.b⟩ }) rfl rfl rfl rfl h1.own h1.held h1.ne h1.tB h1.hB
  obtain ⟨h3, k3⟩ := h2.setP 3 (.int .i64 g.b) (q2 := q) (v2 := { v with h := g }) rfl rfl rfl rfl h2.own h2.held h2.ne h2.tB h2.hB
  exact ⟨h3, KeptR.trans (KeptR.trans k1 k2) k3⟩

set_option maxRecDepth 100000 in
set_option maxHeartbeats 2000000 in
theorem link_rim {B : Gd} {m : Nat} {q : Qh} {v : IV} (back : Int) (w : World) (h : IsRim B w q v) (hok : v.ok m) (hm : m + 10 < 1000000000) (hB : B.top ≤ w.heap.size) :
    Calls Tryz.prog 129 #[.pointer (some ⟨q.p, 0, none⟩), .int .i64 back] w (DidR B w q (v.link back) (v.linkF back)) := by
  obtain ⟨c0, c1, c2, c3, c4, c5, fz⟩ := h.cells
  have lp : q.p < w.heap.size := lt_of_some h.blk
  have HI := toHid h
  have HHF := toHid (headFault_any v.h.c v.h.p back)
  cases hk : (v.linkH back).ok with
  | false =>
    have e1 : v.link back = v := by unfold IV.link; rw [if_neg (by rw [hk]; decide)]
    have e2 : v.linkF back = 1 := by unfold IV.linkF; rw [if_neg (by rw [hk]; decide)]
    have e3 : HV.fault ⟨v.h.c, v.h.p, back⟩ = 1 := by unfold HV.fault; rw [if_neg (by rw [show HV.ok ⟨v.h.c, v.h.p, back⟩ = false from hk]; decide)]
    rw [e1, e2]
    rw [e3] at HHF
    clear h hok hk e1 e2 e3 c0 c4 c5 fz
    generalize v.h.c = c at c1 HHF
    generalize v.h.p = p at c2 HHF
    generalize v.h.b = b at c3
    have hby : Below w.heap.size w (w.alloc (.cells #[.int .i64 c, .int .i64 p, .int .i64 back] 60)) := (Below.refl _ _).alloc (Nat.le_refl _) _
    have hbx : Below w.heap.size w ((w.alloc (.cells #[.int .i64 c, .int .i64 p, .int .i64 b] 60)).setCell ⟨w.heap.size, 2, none⟩ (.int .i64 back)) := ((Below.refl _ _).alloc (Nat.le_refl _) _).setCell (Nat.le_refl _) _
    go_enter Tryz.func129, Tryz.ntmps129
    go_wp2_with fail
    refine (HHF.out _).mono ?_
    rintro e w1 ⟨rfl, hb1⟩
    have HD : Hid (DidR B w q v 1 (.returned (.int .i64 1)) w1) := didR_same HI.out (by first | exact hbx.trans (hb1.mono hbx.size) | exact hby.trans (hb1.mono hby.size))
    clear hb1 hbx hby
    go_wp2
    go_ret
    exact HD.out
  | true =>
    have e1 : v.link back = v.headV (v.linkH back) := by unfold IV.link; rw [if_pos hk]
    have e2 : v.linkF back = v.flush.d.putF := by unfold IV.linkF; rw [if_pos hk]
    have hk' : HV.ok ⟨v.h.c, v.h.p, back⟩ = true := hk
    have e3 : HV.fault ⟨v.h.c, v.h.p, back⟩ = 0 := by unfold HV.fault; rw [hk']; rfl
    rw [e1, e2]
    rw [e3] at HHF
    obtain ⟨X, hX⟩ : ∃ X : ByteArray, X = sealS [83, 89, v.h.c, v.h.p, back + 1] := ⟨_, rfl⟩
    have hX16 : X.size = 16 := by rw [hX]; exact HV.bytes_size ⟨v.h.c, v.h.p, back⟩
    have HHS : Hid (∀ W : World, Calls Tryz.prog 82 #[.agg #[.int .i64 v.h.c, .int .i64 v.h.p, .int .i64 back]] W fun e w' => e = .returned (.string X) ∧ Below W.heap.size W w') := fun W => by rw [hX]; exact headSector_any v.h.c v.h.p back W hk'
    have HHV : Hid (v.headV (v.linkH back) = if v.flush.d.putF = 0 then { (({ v.flush with d := v.flush.d.put 0 X.data.toList } : IV).flush) with h := ⟨v.h.c, v.h.p, back⟩ } else { v.flush with d := v.flush.d.put 0 X.data.toList }) := by rw [hX]; rfl
    have hfl := hok.d.flushed
    have h0 : 0 < v.d.fl.length := hok.d.ok.n1
    have HPF : Hid (v.flush.d.putF = 0 ∨ v.flush.d.putF = 7) := by
      rcases DV.putF_cases v.flush.d with h7 | h7
      · exact .inl h7.1
      · exact .inr h7.1
    have HFL := toHid (fun (W : World) (hi : IsRim B W q v) => flush_rim W hi hok.d)
    have HWR : Hid (∀ (W : World) (r : Qh), IsRim B W r v.flush → B.top ≤ W.heap.size → Calls Tryz.prog 80 #[.pointer (some ⟨r.d.p, 0, none⟩), .int .i64 0, .string X] W fun e w' =>
        ∃ q' : Qh, e = .returned (.int .i64 v.flush.d.putF) ∧ Led B W r q' { v.flush with d := v.flush.d.put 0 X.data.toList } w') := fun W r hi hb => by
      refine (rWrite_any 0 X W hi.dev hfl (by omega) hb hX16 h0).mono ?_
      rintro e w' ⟨q2, rfl, hp2, hd2, hk2, hv2⟩
      exact ⟨{ r with d := q2 }, rfl, Led.dev hi hd2 hp2 hk2 hv2⟩
    have HF2 := toHid (fun (W : World) (r : Qh) (hi : IsRim B W r { v.flush with d := v.flush.d.put 0 X.data.toList }) => flush_rim W hi (hfl.put (i := 0) (s := X.data.toList) h0 (by simpa using hX16) (by omega)))
    clear h hok hk hk' e1 e2 e3 c0 c4 c5 fz hX hX16 hfl
    generalize v.headV (v.linkH back) = V at HHV ⊢
    generalize v.flush.d.putF = pf at HHV HPF HWR ⊢
    generalize v.h.c = c at c1 HHF HHS HHV
    generalize v.h.p = p at c2 HHF HHS HHV
    generalize v.h.b = b at c3
    have hbx : ∀ W : World, W = (w.alloc (.cells #[.int .i64 c, .int .i64 p, .int .i64 b] 60)).setCell ⟨w.heap.size, 2, none⟩ (.int .i64 back) ∨ W = w.alloc (.cells #[.int .i64 c, .int .i64 p, .int .i64 back] 60) → Below w.heap.size w W ∧ W.heap[w.heap.size]? = some (.cells #[.int .i64 c, .int .i64 p, .int .i64 back] 60 (0, 0)) := fun W hW => by
      rcases hW with rfl | rfl
      · refine ⟨((Below.refl _ _).alloc (Nat.le_refl _) _).setCell (Nat.le_refl _) _, ?_⟩
        rw [heap_setCell_same _ _ _ _ _ _ (heap_alloc_new w _)]; rfl
      · exact ⟨(Below.refl _ _).alloc (Nat.le_refl _) _, heap_alloc_new w _⟩
    have HBX := toHid hbx
    clear hbx
    go_enter Tryz.func129, Tryz.ntmps129
    go_wp2_with fail
    refine (HHF.out _).mono ?_
    rintro e w1 ⟨rfl, hb1⟩
    obtain ⟨hbA, hxA⟩ := HBX.out _ (.inr rfl)
    have hx1 : w1.heap[w.heap.size]? = some (.cells #[.int .i64 c, .int .i64 p, .int .i64 back] 60 (0, 0)) := by rw [hb1.block _ (lt_of_some hxA)]; exact hxA
    have HB1 := toHid (hbA.trans (hb1.mono hbA.size))
    have HX1 := toHid hx1
    have hi1 := HI.out.below HB1.out
    have HL1 := toHid (Led.below HI.out HB1.out)
    have HF1 := toHid (HFL.out w1 hi1)
    clear hb1 hbA hxA hx1 hi1 HHF HBX HFL HI
    go_wp2_with fail
    refine HF1.out.mono ?_
    rintro e w2 ⟨q2, rfl, hl2⟩
    have HX2 := toHid (hl2.kept.box HX1.out (by decide))
    have HL2 := toHid (HL1.out.trans hl2)
    have d0 : w2.cell? ⟨q.p, 0, none⟩ = some (.pointer (some ⟨q2.d.p, 0, none⟩)) := by have := hl2.rim.cells.1; rw [hl2.p] at this; exact this
    have x0 : w2.cell? ⟨w.heap.size, 0, none⟩ = some (.int .i64 c) := by rw [cell_of_row _ _ _ _ _ _ HX2.out]; rfl
    have x1 : w2.cell? ⟨w.heap.size, 1, none⟩ = some (.int .i64 p) := by rw [cell_of_row _ _ _ _ _ _ HX2.out]; rfl
    have x2 : w2.cell? ⟨w.heap.size, 2, none⟩ = some (.int .i64 back) := by rw [cell_of_row _ _ _ _ _ _ HX2.out]; rfl
    have hxl : w.heap.size < w2.heap.size := lt_of_some HX2.out
    have hql : q.p < w2.heap.size := by omega
    clear hl2 HF1 HL1 HX1 HB1
    go_wp2
    go_region_held3 (fun W => W.cell? ⟨q.p, 0, none⟩ = some (.pointer (some ⟨q2.d.p, 0, none⟩)) ∧ W.cell? ⟨w.heap.size, 0, none⟩ = some (.int .i64 c) ∧ W.cell? ⟨w.heap.size, 1, none⟩ = some (.int .i64 p) ∧ W.cell? ⟨w.heap.size, 2, none⟩ = some (.int .i64 back))
      (first | (exact ⟨d0, x0, x1, x2⟩) | assumption)
      (first
        | (go_at_call 82; refine (HHS.out _).mono ?_; rintro e wH ⟨rfl, hbH⟩; have hbH2 : Below w2.heap.size w2 wH := ((Below.refl _ _).drew).trans hbH; have hSH : wH.cell? ⟨q.p, 0, none⟩ = some (.pointer (some ⟨q2.d.p, 0, none⟩)) ∧ wH.cell? ⟨w.heap.size, 0, none⟩ = some (.int .i64 c) ∧ wH.cell? ⟨w.heap.size, 1, none⟩ = some (.int .i64 p) ∧ wH.cell? ⟨w.heap.size, 2, none⟩ = some (.int .i64 back) := ⟨(hbH2.cell (p := ⟨q.p, 0, none⟩) hql).trans d0, (hbH2.cell (p := ⟨w.heap.size, 0, none⟩) hxl).trans x0, (hbH2.cell (p := ⟨w.heap.size, 1, none⟩) hxl).trans x1, (hbH2.cell (p := ⟨w.heap.size, 2, none⟩) hxl).trans x2⟩)
        | (go_at_call 80; refine (HWR.out wH q2 (HL2.out.rim.below hbH2) (Nat.le_trans hB (Nat.le_trans HL2.out.kept.size hbH2.size))).mono ?_; rintro e w3 ⟨q3, rfl, hl3⟩; have hl23 : Led B w2 q2 q3 _ w3 := (Led.below HL2.out.rim hbH2).trans hl3; have hS3 : w3.cell? ⟨q.p, 0, none⟩ = some (.pointer (some ⟨q2.d.p, 0, none⟩)) ∧ w3.cell? ⟨w.heap.size, 0, none⟩ = some (.int .i64 c) ∧ w3.cell? ⟨w.heap.size, 1, none⟩ = some (.int .i64 p) ∧ w3.cell? ⟨w.heap.size, 2, none⟩ = some (.int .i64 back) := by
             have hx3 := hl23.kept.box HX2.out (by decide)
             refine ⟨?_, ?_, ?_, ?_⟩
             · have := hl23.rim.cells.1
               rw [hl23.p, hl23.dp, HL2.out.p] at this; exact this
             · rw [cell_of_row _ _ _ _ _ _ hx3]; rfl
             · rw [cell_of_row _ _ _ _ _ _ hx3]; rfl
             · rw [cell_of_row _ _ _ _ _ _ hx3]; rfl))
    have HX3 := toHid (hl23.kept.box HX2.out (by decide))
    have HL3 := toHid (HL2.out.trans hl23)
    clear hl3 hl23 hSH hS3 hbH hbH2 d0 x0 x1 x2 HX2 HL2 HWR HHS
    by_cases hpf : pf = 0
    · have HV : Hid (V = { (({ v.flush with d := v.flush.d.put 0 X.data.toList } : IV).flush) with h := ⟨c, p, back⟩ }) := by unfold Hid; rw [HHV.out, if_pos hpf]
      have HP0 := toHid hpf
      have HF4 := toHid (HF2.out w3 q3 HL3.out.rim)
      rw [show q3.p = q.p from HL3.out.p] at HF4
      rw [hpf]
      clear HHV HPF hpf HF2
      go_wp2_with fail
      refine HF4.out.mono ?_
      rintro e w4 ⟨q4, rfl, hl4⟩
      have hx4 := hl4.kept.box HX3.out (by decide)
      have HL4 := toHid (HL3.out.trans hl4)
      have y0 : w4.cell? ⟨w.heap.size, 0, none⟩ = some (.int .i64 c) := by rw [cell_of_row _ _ _ _ _ _ hx4]; rfl
      have y1 : w4.cell? ⟨w.heap.size, 1, none⟩ = some (.int .i64 p) := by rw [cell_of_row _ _ _ _ _ _ hx4]; rfl
      have y2 : w4.cell? ⟨w.heap.size, 2, none⟩ = some (.int .i64 back) := by rw [cell_of_row _ _ _ _ _ _ hx4]; rfl
      have hp4 : q4.p = q.p := HL4.out.p
      obtain ⟨_, c1', c2', c3', _, _, fz⟩ := HL4.out.rim.cells
      rw [hp4] at c1' c2' c3'
      have f1 := fz 1
      have f2 := fz 2
      have f3 := fz 3
      rw [hp4] at f1 f2 f3
      obtain ⟨hi5, hk5⟩ := HL4.out.rim.headed ⟨c, p, back⟩
      have HL5 : Hid (Led B w q q4 V (((w4.setCell ⟨q.p, 1, none⟩ (.int .i64 c)).setCell ⟨q.p, 2, none⟩ (.int .i64 p)).setCell ⟨q.p, 3, none⟩ (.int .i64 back))) := by
        rw [hp4] at hi5 hk5
        exact ⟨HL4.out.p, HL4.out.dp, HL4.out.vt, by rw [HV.out]; exact hi5, KeptR.trans HL4.out.kept hk5⟩
      clear hi5 hk5 hl4 hx4 HX3 HL3 HL4 HF4 fz hp4
      go_wp2
      go_ret
      exact ⟨q4, by rw [HP0.out]; rfl, HL5.out⟩
    · have HV : Hid (V = { v.flush with d := v.flush.d.put 0 X.data.toList }) := by unfold Hid; rw [HHV.out, if_neg hpf]
      have h7 : pf = 7 := by rcases HPF.out with h | h; exact absurd h hpf; exact h
      have H7 := toHid h7
      rw [h7]
      clear HHV hpf h7 HPF HX3 HF2
      go_wp2
      go_ret
      exact ⟨q3, by rw [H7.out]; rfl, by rw [HV.out]; exact HL3.out⟩
end Go.Proofs.YtjegaljdindfaabGreatDoor
