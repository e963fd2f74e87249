/-
Move: a whole cluster's bytes into a file (G4).
The document's shelf: sectors of one cluster in the first file; a whole cluster's bytes into a file.
The document's Put (G3): a range is gone over cluster by cluster.
-/
import Derived.Test.YtjegaljdindfaabGreatDoorQChainPut
import Derived.Test.YtjegaljdindfaabGreatDoorQChainLaws
import Derived.Test.YtjegaljdindfaabGreatDoorQChainParts
import Derived.Test.YtjegaljdindfaabGreatDoorQTabOf2
namespace Go.Proofs.YtjegaljdindfaabGreatDoor
open Go.RowKit Go.Maps
attribute [local go_sem ↓] Go.wp_at_zero Go.wp_at_succ

theorem dropWhile_nil {p : UInt8 → Bool} {l : List UInt8} : l.dropWhile p = [] ↔ ∀ x ∈ l, p x = true := by
  induction l with
  | nil => simp
  | cons x l ih =>
    rw [List.dropWhile_cons]
    split
    · next h => rw [ih]; simp [h]
    · next h => simp [h]

theorem trimB_nil {l : List UInt8} {c : UInt8} : Lib.trimB l c = [] ↔ ∀ x ∈ l, x = c := by
  unfold Lib.trimB Lib.trimLeftB Lib.trimRightB
  rw [dropWhile_nil]
  constructor
  · intro h x hx
    have h0 : l.reverse.dropWhile (· == c) = [] := by
      cases hd : l.reverse.dropWhile (· == c) with
      | nil => rfl
      | cons y r =>
        have hy : ¬ (y == c) = true := by
          have := List.head?_dropWhile_not (· == c) l.reverse
          rw [hd] at this
          simpa using this
        have := h y (by rw [hd]; simp)
        exact absurd this hy
    have := dropWhile_nil.1 h0 x (by simpa using hx)
    simpa using this
  · intro h x hx
    have : x ∈ l := by
      have h1 : x ∈ l.reverse.dropWhile (· == c) := by simpa using hx
      have h2 : x ∈ l.reverse := (List.dropWhile_sublist _).subset h1
      simpa using h2
    simpa using h x this

theorem trim_noughts {t : ByteArray} (ht : t.size = 64) : ((Lib.trimB t.data.toList 0).toArray.toList == []) = decide (t = noughtB 64) := by
  have hl : t.data.toList.length = 64 := by simpa using ht
  by_cases h : t = noughtB 64
  · rw [decide_eq_true h]
    have : Lib.trimB t.data.toList 0 = [] := trimB_nil.2 fun x hx => by
      rw [h] at hx
      exact List.eq_of_mem_replicate (show x ∈ List.replicate 64 (0 : UInt8) from by simpa [noughtB, bytesOf] using hx)
    rw [this]; rfl
  · rw [decide_eq_false h]
    have : Lib.trimB t.data.toList 0 ≠ [] := fun e => h (by
      have h1 := trimB_nil.1 e
      have h2 : t.data.toList = List.replicate 64 0 := List.eq_replicate_iff.2 ⟨hl, h1⟩
      unfold noughtB
      rw [← h2, bytesOf_data])
    simpa using this

set_option maxRecDepth 100000 in
set_option maxHeartbeats 2000000 in
theorem cmove_any {sp m : Nat} {xs : Nat → Ih} {s : SV} {v : IV} (n c : Int) (t : ByteArray) (w : World) (h : IsShelf w sp xs s m) (hf : s.file n = some v) (ht : t.size = 64) (hm : m + 10 < 1000000000) :
    Calls Tryz.prog 41 #[.pointer (some ⟨sp, 0, none⟩), .int .i64 n, .int .i64 c, .string t] w (SDid w sp xs s (m + 10) (s.move n c t)) := by
  have HFI := toHid (file_any n w h)
  rw [hf] at HFI
  unfold ptrO at HFI
  have HMV : Hid (s.move n c t = if t = noughtB 64 then (s.upd n.toNat (v.clear c), v.clearF c) else if (v.entE c).1 = 2 then (s.upd n.toNat (v.write c 0 t), v.writeF c 0 t) else (s.upd n.toNat (v.fill c t), v.fillF c t)) := by unfold Hid SV.move; rw [hf]
  have HTR : Hid (Calls Tryz.prog 103 #[.string t, .string ⟨#[0]⟩] w fun e w' => e = .returned (.string ⟨(Lib.trimB t.data.toList 0).toArray⟩) ∧ Below w.heap.size w w') := by
    refine (Tryz.strings_Trim_one t 0 (by decide) w (by omega)).mono ?_
    rintro e w' ⟨rfl, rfl | rfl⟩
    · exact ⟨rfl, Below.refl _ _⟩
    · exact ⟨rfl, (Below.refl _ _).drew⟩
  have hTN := trim_noughts ht
  have HKO : Hid (∀ W : World, Below w.heap.size w W → Calls Tryz.prog 104 #[.pointer (some ⟨(xs n.toNat).p, 0, none⟩), .int .i64 c] W fun e w' => e = .returned (.int .i64 (v.entE c).1) ∧ Below W.heap.size W w') := fun W hb => kindOf_img c W ((h.below hb).imgF hf).1
  have HCL : Hid (∀ W : World, Below w.heap.size w W → Calls Tryz.prog 29 #[.pointer (some ⟨(xs n.toNat).p, 0, none⟩), .int .i64 c] W (SDid w sp xs s (m + 10) (s.upd n.toNat (v.clear c), v.clearF c))) := fun W hb =>
    (clear_s c W (h.below hb) hf hm).mono fun e w' hd => hd.from hb
  have HWR : Hid (∀ W : World, Below w.heap.size w W → Calls Tryz.prog 105 #[.pointer (some ⟨(xs n.toNat).p, 0, none⟩), .int .i64 c, .int .i64 0, .string t] W (SDid w sp xs s (m + 10) (s.upd n.toNat (v.write c 0 t), v.writeF c 0 t))) := fun W hb =>
    (write_s c 0 t W (h.below hb) hf hm (by omega) (by decide)).mono fun e w' hd => hd.from hb
  have HFL : Hid (∀ W : World, Below w.heap.size w W → Calls Tryz.prog 31 #[.pointer (some ⟨(xs n.toNat).p, 0, none⟩), .int .i64 c, .string t] W (SDid w sp xs s (m + 10) (s.upd n.toNat (v.fill c t), v.fillF c t))) := fun W hb =>
    (fill_s c t W (h.below hb) hf hm).mono fun e w' hd => hd.from hb
  generalize s.move n c t = R at HMV ⊢
  generalize (v.entE c).1 = y at HKO HMV
  generalize (xs n.toNat).p = xp at HFI HKO HCL HWR HFL
  generalize (Lib.trimB t.data.toList 0).toArray = TR at HTR hTN
  have hTN2 : ((⟨TR⟩ : ByteArray).toList == []) = decide (t = noughtB 64) := by
    rw [← hTN]
    congr 1
    rw [ByteArray.toList_eq]
  clear h hf hTN ht
  by_cases hz : t = noughtB 64
  · have HR : Hid (R = (s.upd n.toNat (v.clear c), v.clearF c)) := by unfold Hid; rw [HMV.out, if_pos hz]
    rw [decide_eq_true hz] at hTN2
    rw [← HR.out] at HCL
    clear hz HMV HKO HWR HFL
    go_enter Tryz.func41, Tryz.ntmps41
    go_wp2_with fail
    refine HFI.out.mono ?_
    rintro e w' ⟨rfl, hw⟩
    have hw' := hw.symm
    subst hw'
    clear hw
    go_wp2_with fail
    refine HTR.out.mono ?_
    rintro e w1 ⟨rfl, hb1⟩
    have HC1 := toHid (HCL.out _ hb1)
    clear hb1
    go_wp2_with fail
    refine HC1.out.mono ?_
    rintro e w2 ⟨xs', rfl, h2, h3⟩
    have HD : Hid (SDid w sp xs s (m + 10) R (.returned (erV R.2)) w2) := ⟨xs', rfl, h2, h3⟩
    clear h2 h3
    go_wp2
    go_ret
    exact HD.out
  · rw [decide_eq_false hz] at hTN2
    by_cases hy : y = 2
    · have HR : Hid (R = (s.upd n.toNat (v.write c 0 t), v.writeF c 0 t)) := by unfold Hid; rw [HMV.out, if_neg hz, if_pos hy]
      have g1 : (y == 2) = true := by simpa using hy
      rw [← HR.out] at HWR
      clear hz HMV HCL HFL hy
      go_enter Tryz.func41, Tryz.ntmps41
      go_wp2_with fail
      refine HFI.out.mono ?_
      rintro e w' ⟨rfl, hw⟩
      have hw' := hw.symm
      subst hw'
      clear hw
      go_wp2_with fail
      refine HTR.out.mono ?_
      rintro e w1 ⟨rfl, hb1⟩
      have HB1 := toHid hb1
      clear hb1
      go_wp2_with fail
      refine (HKO.out _ HB1.out).mono ?_
      rintro e w2 ⟨rfl, hb2⟩
      have HW2 := toHid (HWR.out _ (HB1.out.trans (hb2.mono HB1.out.size)))
      clear hb2
      go_wp2_with fail
      refine HW2.out.mono ?_
      rintro e w3 ⟨xs', rfl, h2, h3⟩
      have HD : Hid (SDid w sp xs s (m + 10) R (.returned (erV R.2)) w3) := ⟨xs', rfl, h2, h3⟩
      clear h2 h3
      go_wp2
      go_ret
      exact HD.out
    · have HR : Hid (R = (s.upd n.toNat (v.fill c t), v.fillF c t)) := by unfold Hid; rw [HMV.out, if_neg hz, if_neg hy]
      have g1 : (y == 2) = false := by simpa using hy
      rw [← HR.out] at HFL
      clear hz HMV HCL HWR hy
      go_enter Tryz.func41, Tryz.ntmps41
      go_wp2_with fail
      refine HFI.out.mono ?_
      rintro e w' ⟨rfl, hw⟩
      have hw' := hw.symm
      subst hw'
      clear hw
      go_wp2_with fail
      refine HTR.out.mono ?_
      rintro e w1 ⟨rfl, hb1⟩
      have HB1 := toHid hb1
      clear hb1
      go_wp2_with fail
      refine (HKO.out _ HB1.out).mono ?_
      rintro e w2 ⟨rfl, hb2⟩
      have HW2 := toHid (HFL.out _ (HB1.out.trans (hb2.mono HB1.out.size)))
      clear hb2
      go_wp2_with fail
      refine HW2.out.mono ?_
      rintro e w3 ⟨xs', rfl, h2, h3⟩
      have HD : Hid (SDid w sp xs s (m + 10) R (.returned (erV R.2)) w3) := ⟨xs', rfl, h2, h3⟩
      clear h2 h3
      go_wp2
      go_ret
      exact HD.out
end Go.Proofs.YtjegaljdindfaabGreatDoor

namespace Go.Proofs.YtjegaljdindfaabGreatDoor
open Go.RowKit Go.Maps
attribute [local go_sem ↓] Go.wp_at_zero Go.wp_at_succ

theorem rwrite_s {sp m : Nat} {xs : Nat → Qh} {s : SV} {n : Int} {v : IV} (c f : Int) (t : ByteArray) (w : World) (h : IsRshelf w sp xs s m) (hf : s.file n = some v) (hm : m + 10 < 1000000000) (ht : t.size ≤ 1000) (hr : -9223372036854775808 ≤ f ∧ f ≤ 9223372036854775807) :
    Calls Tryz.prog 106 #[.pointer (some ⟨(xs n.toNat).p, 0, none⟩), .int .i64 c, .int .i64 f, .string t] w (RDid w sp xs s (m + 10) (s.upd n.toNat (v.write c f t), v.writeF c f t)) := by
  obtain ⟨i1, i2⟩ := h.imgF hf
  exact (write_rim c f t w i1.but i2 hm (Nat.le_refl _) ht hr).mono fun e w' hd => RDid.of h hf (by omega) (i2.write c f t (by omega)) hd

theorem rfill_s {sp m : Nat} {xs : Nat → Qh} {s : SV} {n : Int} {v : IV} (c : Int) (t : ByteArray) (w : World) (h : IsRshelf w sp xs s m) (hf : s.file n = some v) (hm : m + 10 < 1000000000) :
    Calls Tryz.prog 32 #[.pointer (some ⟨(xs n.toNat).p, 0, none⟩), .int .i64 c, .string t] w (RDid w sp xs s (m + 10) (s.upd n.toNat (v.fill c t), v.fillF c t)) := by
  obtain ⟨i1, i2⟩ := h.imgF hf
  exact (fill_rim c t w i1.but i2 hm (Nat.le_refl _)).mono fun e w' hd => RDid.of h hf (by omega) (i2.fill c t (by omega)) hd

theorem rclear_s {sp m : Nat} {xs : Nat → Qh} {s : SV} {n : Int} {v : IV} (c : Int) (w : World) (h : IsRshelf w sp xs s m) (hf : s.file n = some v) (hm : m + 10 < 1000000000) :
    Calls Tryz.prog 30 #[.pointer (some ⟨(xs n.toNat).p, 0, none⟩), .int .i64 c] w (RDid w sp xs s (m + 10) (s.upd n.toNat (v.clear c), v.clearF c)) := by
  obtain ⟨i1, i2⟩ := h.imgF hf
  exact (clear_rim c w i1.but i2 hm (Nat.le_refl _)).mono fun e w' hd => RDid.of h hf (by omega) (i2.clear c (by omega)) hd

theorem retN_is (f : Int) : retN f = .int .i64 f := rfl

set_option maxRecDepth 100000 in
set_option maxHeartbeats 2000000 in
theorem rlay_any {sp m cap : Nat} {xs : Nat → Qh} {s : SV} {a : Option Addr} {C : Int} (l : List Int) (c f : Nat) (t : ByteArray) (w : World) (h : IsRshelf w sp xs s m) (hl : Nums w a l) (hg : s.good C l) (h0 : l ≠ []) (h5 : l.length ≤ 100) (hm : m + 10 < 1000000000) (hp : f * 16 + t.size ≤ 64) (hc : (c : Int) < C) :
    Calls Tryz.prog 99 #[.pointer (some ⟨sp, 0, none⟩), .slice a l.length cap, .int .i64 (c : Int), .int .i64 (f : Int), .string t] w (RDid w sp xs s (m + 10) (s.lay l c f t)) := by
  have hl0 : 0 < l.length := List.length_pos_iff.2 h0
  obtain ⟨g, o, x, v, rfl, hx, x5, hf, hvc, hc1, hc2, hi, hok⟩ := h.numAt hl hg hl0
  have hxt : ((x : Int)).toNat = x := by omega
  obtain ⟨r1, r2⟩ := SV.read_yes hg h.ok h0 (c := (c : Int)) ⟨by omega, hc⟩
  have hth : v.there (c : Int) = true := by unfold IV.there; have := hok.len; exact decide_eq_true ⟨by omega, by omega⟩
  obtain ⟨g2, cap2, hv2, hg2, e0, _⟩ := hi.entAt (c := c) (by have := hok.len; omega)
  have e4 := hi.cells.2.2.2.2.1
  rw [hv2] at e4
  have hent : (v.entE c).1 = (v.t.getD c (0, 0)).1 := by unfold IV.entE; rw [hth, if_pos rfl]; rfl
  have HLY : Hid (s.lay l c f t = if (v.entE c).1 = 2 then (s.upd x (v.write c f t), v.writeF c f t) else
      (s.upd x (v.fill c ((s.read l c).1.extract 0 (f * 16) ++ t ++ (s.read l c).1.extract (f * 16 + t.size) 64)), v.fillF c ((s.read l c).1.extract 0 (f * 16) ++ t ++ (s.read l c).1.extract (f * 16 + t.size) 64))) := by
    unfold Hid
    cases l with
    | nil => exact absurd rfl h0
    | cons y r =>
      have hy : y = (x : Int) := hx
      subst hy
      show (match s.file (x : Int) with | none => (s, (4 : Int)) | some v => _) = _
      rw [hf]
      rfl
  have HWR : Hid (∀ W : World, Below w.heap.size w W → Calls Tryz.prog 106 #[.pointer (some ⟨(xs x).p, 0, none⟩), .int .i64 (c : Int), .int .i64 (f : Int), .string t] W (RDid w sp xs s (m + 10) (s.upd x (v.write c f t), v.writeF c f t))) := fun W hb => by
    have := (rwrite_s (c : Int) (f : Int) t W (h.below hb) hf hm (by omega) (by omega)).mono fun e w' hd => RDid.from hd hb
    rw [hxt] at this; exact this
  have HFL : Hid (∀ (T : ByteArray) (W : World), Below w.heap.size w W → Calls Tryz.prog 32 #[.pointer (some ⟨(xs x).p, 0, none⟩), .int .i64 (c : Int), .string T] W (RDid w sp xs s (m + 10) (s.upd x (v.fill c T), v.fillF c T))) := fun T W hb => by
    have := (rfill_s (c : Int) T W (h.below hb) hf hm).mono fun e w' hd => RDid.from hd hb
    rw [hxt] at this; exact this
  have HRD : Hid (∀ W : World, Below w.heap.size w W → Calls Tryz.prog 43 #[.pointer (some ⟨sp, 0, none⟩), .slice (some ⟨g, o, none⟩) l.length cap, .int .i64 (c : Int)] W fun e w' => e = .returned (.tuple #[.string (s.read l c).1, .int .i64 0]) ∧ Below W.heap.size W w') := fun W hb => by
    have := rread_any (cap := cap) l (c : Int) W (h.below hb) (hl.below hb) hg h5
    rw [r1] at this; exact this
  have hc1' : w.cell? ⟨g, o, none⟩ = some (.int .i64 (x : Int)) := hc1
  have k3 : (0 : Int) ≤ (x : Int) := by omega
  have k4 : (x : Int) < 5 := by omega
  have q0 : (0 : Int) ≤ (c : Int) := by omega
  have q1 : (c : Int) < (v.t.length : Int) := by have := hok.len; omega
  have q2 : ((c : Int)).toNat = c := by omega
  have hn1 : (0 : Int) < (l.length : Int) := by omega
  rw [← hent] at e0
  generalize s.lay l c f t = R at HLY ⊢
  generalize (s.read l c).1 = old at r2 HRD HLY
  generalize (v.entE c).1 = y at e0 HLY
  clear h hl hg hi hok hf hx hvc hc1 hv2 hent hth
  generalize (xs x).p = xp at hc2 e4 HWR HFL
  generalize v.t.length = tl at e4 q1
  generalize l.length = q at hl0 hn1 HRD ⊢
  have HDR : Hid (Below w.heap.size w w.drew) := (Below.refl _ _).drew
  have m1 : w.drew.cell? ⟨xp, 4, none⟩ = some (.slice (some ⟨g2, 0, none⟩) tl cap2) := e4
  have m2 : w.drew.cell? ⟨g2, c * 2, none⟩ = some (.int .i64 y) := e0
  by_cases hy : y = 2
  · have g1 : (y == 2) = true := by simpa using hy
    have HR : Hid (R = (s.upd x (v.write c f t), v.writeF c f t)) := by unfold Hid; rw [HLY.out, if_pos hy]
    have HW1 := toHid (HWR.out _ HDR.out)
    rw [← HR.out] at HW1
    clear hy HLY HFL HRD HWR
    go_enter Tryz.func99, Tryz.ntmps99
    go_wp2
    go_region
    go_wp2_with fail
    refine HW1.out.mono ?_
    rintro e w2 ⟨xs', rfl, h2, h3⟩
    have HD : Hid (RDid w sp xs s (m + 10) R (.returned (.int .i64 R.2)) w2) := ⟨xs', rfl, h2, h3⟩
    clear h2 h3
    rw [retN_is]
    go_wp2
    go_ret
    exact HD.out
  · have g1 : (y == 2) = false := by simpa using hy
    have HR : Hid (R = (s.upd x (v.fill c (old.extract 0 (f * 16) ++ t ++ old.extract (f * 16 + t.size) 64)), v.fillF c (old.extract 0 (f * 16) ++ t ++ old.extract (f * 16 + t.size) 64))) := by unfold Hid; rw [HLY.out, if_neg hy]
    clear hy HLY HWR
    have HRW := toHid (HRD.out _ HDR.out)
    have j1 : IntKind.i64.wrap (16 * (f : Int)) = 16 * (f : Int) := IntWalk.i64_in _ (by omega)
    have j2 : IntKind.i64.wrap (16 * (f : Int) + (t.size : Int)) = 16 * (f : Int) + (t.size : Int) := IntWalk.i64_in _ (by omega)
    have j3 : (0 : Int) ≤ 16 * (f : Int) := by omega
    have j4 : 16 * (f : Int) ≤ (old.size : Int) := by omega
    have j5 : (16 * (f : Int)).toNat = 16 * f := by omega
    have j6 : (0 : Int) ≤ 16 * (f : Int) + (t.size : Int) := by omega
    have j7 : 16 * (f : Int) + (t.size : Int) ≤ (old.size : Int) := by omega
    have j8 : (16 * (f : Int) + (t.size : Int)).toNat = 16 * f + t.size := by omega
    obtain ⟨EA, hEA⟩ : ∃ EA, EA = old.extract 0 (16 * f) := ⟨_, rfl⟩
    obtain ⟨EB, hEB⟩ : ∃ EB, EB = old.extract (16 * f + t.size) old.size := ⟨_, rfl⟩
    have hz1 : EA.size = 16 * f := by rw [hEA, ByteArray.size_extract]; omega
    have hz2 : EB.size ≤ 64 := by rw [hEB, ByteArray.size_extract]; omega
    have k7 : ¬ 9223372036854775807 < EA.size + t.size := by omega
    have k8 : ¬ 9223372036854775807 < EA.size + t.size + EB.size := by omega
    have k9 : ¬ 9223372036854775807 < (EA ++ t).size + EB.size := by rw [ByteArray.size_append]; omega
    have k7a : ¬ 9223372036854775807 < min (16 * f) old.size + t.size := by omega
    have k8a : ¬ 9223372036854775807 < min (16 * f) old.size + t.size + (old.size - (16 * f + t.size)) := by omega
    have HRT : Hid (R = (s.upd x (v.fill c (EA ++ t ++ EB)), v.fillF c (EA ++ t ++ EB))) := by
      unfold Hid
      rw [hEA, hEB, HR.out, r2, show 16 * f = f * 16 by omega]
    rw [hEA] at k7 k8 k9 HRT
    rw [hEB] at k8 k9 HRT
    clear HR hz1 hz2 r2 hEA hEB hp
    go_enter Tryz.func99, Tryz.ntmps99
    go_wp2
    go_region
    go_wp2_with fail
    refine HRW.out.mono ?_
    rintro e w2 ⟨rfl, hb2⟩
    have HB2 : Hid (Below w.heap.size w w2.drew) := (HDR.out.trans (hb2.mono HDR.out.size)).drew
    have HF2 := toHid (HFL.out (old.extract 0 (16 * f) ++ t ++ old.extract (16 * f + t.size) old.size) _ HB2.out)
    rw [← HRT.out] at HF2
    clear hb2 HFL HRT HRW HRD
    go_wp2
    go_region_held3 (fun _ => True)
      (first | trivial | assumption)
      (first
        | (go_at_call 32; refine HF2.out.mono ?_; rintro e w4 ⟨xs', rfl, h2, h3⟩))
    have HD : Hid (RDid w sp xs s (m + 10) R (.returned (.int .i64 R.2)) w4) := ⟨xs', rfl, h2, h3⟩
    clear h2 h3
    rw [retN_is]
    go_wp2
    go_ret
    exact HD.out
end Go.Proofs.YtjegaljdindfaabGreatDoor

namespace Go.Proofs.YtjegaljdindfaabGreatDoor
open Go.RowKit Go.Maps
attribute [local go_sem ↓] Go.wp_at_zero Go.wp_at_succ

structure RputAt (w1 : World) (sp : Nat) (xs : Nat → Qh) (s : SV) (m : Nat) (C : Int) (l : List Int) (op : SV → Pt → SV × Int) (fr n : Nat) (R : SV × Int) (k : Nat) (ys : Nat → Qh) (z : SV) (wr : World) : Prop where
  shelf : IsRshelf wr sp ys z (m + 10 * k)
  good : z.good C l
  go : goPts op z (ptsFrom fr n k) = R
  moved : Moved (fpQ xs s) w1 (fpQ ys z) wr
  le : k ≤ n

theorem RputAt.step {w1 wr W w2 : World} {sp m k fr n : Nat} {xs ys : Nat → Qh} {s z : SV} {C : Int} {l : List Int} {op : SV → Pt → SV × Int} {R : SV × Int} {e : Ending} (h : RputAt w1 sp xs s m C l op fr n R k ys z wr) (hb : Below wr.heap.size wr W) (hk : k < n) (hop : ∀ (s : SV) p, s.good C l → (op s p).1.good C l) (hd : RDid W sp ys z (m + 10 * k + 10) (op z (mkPt fr n k)) e w2) (h0 : (op z (mkPt fr n k)).2 = 0) :
    ∃ ys' z', RputAt w1 sp xs s m C l op fr n R (k + (mkPt fr n k).n) ys' z' w2 := by
  obtain ⟨ys', h1, h2, h3⟩ := hd
  have hp := mkPt_n (fr := fr) hk
  refine ⟨ys', (op z (mkPt fr n k)).1, ⟨h2.more (by omega), hop _ _ h.good, ?_, h.moved.trans ((Moved.of_below hb).trans h3), hp.2.2⟩⟩
  have := h.go
  rw [ptsFrom_cons hk, goPts_cons, if_pos h0] at this
  exact this

theorem RputAt.stop {w1 wr W w2 : World} {sp m k fr n M : Nat} {xs ys : Nat → Qh} {s z : SV} {C : Int} {l : List Int} {op : SV → Pt → SV × Int} {R : SV × Int} {e : Ending} (h : RputAt w1 sp xs s m C l op fr n R k ys z wr) (hb : Below wr.heap.size wr W) (hk : k < n) (hM : m + 10 * k + 10 ≤ M) (hd : RDid W sp ys z (m + 10 * k + 10) (op z (mkPt fr n k)) e w2) (h0 : (op z (mkPt fr n k)).2 ≠ 0) :
    R = op z (mkPt fr n k) ∧ RDid w1 sp xs s M R e w2 := by
  have hR : R = op z (mkPt fr n k) := by
    have := h.go
    rw [ptsFrom_cons hk, goPts_cons, if_neg h0] at this
    exact this.symm
  obtain ⟨ys', h1, h2, h3⟩ := hd
  rw [hR]
  exact ⟨rfl, ys', h1, h2.more hM, h.moved.trans ((Moved.of_below hb).trans h3)⟩

theorem RputAt.fin {w1 wr : World} {sp m k fr n M : Nat} {xs ys : Nat → Qh} {s z : SV} {C : Int} {l : List Int} {op : SV → Pt → SV × Int} {R : SV × Int} (h : RputAt w1 sp xs s m C l op fr n R k ys z wr) (hk : ¬ k < n) (hM : m + 10 * k ≤ M) : RDid w1 sp xs s M R (.returned (.int .i64 0)) wr := by
  have hR := h.go
  rw [ptsFrom_nil hk] at hR
  have hR' : R = (z, 0) := hR.symm
  rw [hR']
  exact ⟨ys, rfl, h.shelf.more hM, h.moved⟩

/- The numbers of a part. -/
theorem mkPt_int (f n k : Nat) (hk : k < n) : ((mkPt f n k).c : Int) = ((f : Int) + (k : Int)) / 4 ∧ ((mkPt f n k).f : Int) = ((f : Int) + (k : Int)) % 4 ∧ ((mkPt f n k).n : Int) = min (4 - ((f : Int) + (k : Int)) % 4) ((n : Int) - (k : Int)) ∧ (mkPt f n k).a = k := by
  refine ⟨?_, ?_, ?_, rfl⟩
  · show (((f + k) / 4 : Nat) : Int) = _; omega
  · show (((f + k) % 4 : Nat) : Int) = _; omega
  · show ((min (4 - (f + k) % 4) (n - k) : Nat) : Int) = _; omega

theorem chkF_pos {s : SV} {l : List Int} {fr n : Int} (hF : s.chkF l fr n ≠ 0) : 0 < s.chkF l fr n := by
  unfold SV.chkF at *
  split
  · decide
  · split
    · decide
    · next h1 h2 => rw [if_neg h1, if_neg h2] at hF; exact absurd rfl hF

theorem lay_pos (s : SV) (l : List Int) (c f : Nat) (t : ByteArray) : 0 ≤ (s.lay l c f t).2 := by
  unfold SV.lay
  split
  · simp
  · split
    · simp
    · split
      · exact writeF_pos _ _ _ _
      · exact fillF_pos _ _ _

theorem wipePt_pos (l : List Int) (s : SV) (p : Pt) : 0 ≤ (SV.wipePt l s p).2 := by
  unfold SV.wipePt
  split
  · simp
  · split
    · simp
    · split
      · exact clearF_pos _ _
      · split
        · exact Int.le_refl _
        · exact lay_pos _ _ _ _ _

set_option maxRecDepth 100000 in
set_option maxHeartbeats 4000000 in
theorem rput_any {sp m cap C : Nat} {xs : Nat → Qh} {s : SV} {a : Option Addr} (l : List Int) (fr : Int) (t : ByteArray) (w : World) (h : IsRshelf w sp xs s m) (hl : Nums w a l) (hg : s.good (C : Int) l) (h5 : l.length ≤ 100) (hC : C ≤ 40) (ha : Apart a (fpQ xs s)) (hm : m + 3000 < 1000000000) (hfr : -9223372036854775808 ≤ fr ∧ fr ≤ 9223372036854775807) (ht : t.size ≤ 10000) :
    Calls Tryz.prog 36 #[.pointer (some ⟨sp, 0, none⟩), .slice a l.length cap, .int .i64 fr, .string t, .bool false] w (RDid w sp xs s (m + 2000) (s.put l fr t)) := by
  by_cases h16 : t.size % 16 = 0
  · have g16 : decide (0 < (t.size : Int) % 16) = false := decide_eq_false (by omega)
    obtain ⟨n, hn⟩ : ∃ n : Nat, t.size = n * 16 := ⟨t.size / 16, by omega⟩
    have hq16 : (t.size : Int) / 16 = (n : Int) := by omega
    have hn2 : t.size / 16 = n := by omega
    have HCK := toHid (rwithin_any (cap := cap) l fr (n : Int) w h hl hg (by omega) hfr)
    by_cases hF : s.chkF l fr (n : Int) = 0
    · obtain ⟨h0, n0, n1, n2⟩ := SV.chk_ok hg hF
      obtain ⟨f, rfl⟩ : ∃ f : Nat, fr = (f : Int) := ⟨fr.toNat, by omega⟩
      have HR : Hid (s.put l (f : Int) t = goPts (SV.putPt l t) s (ptsFrom f n 0)) := by unfold Hid SV.put; rw [if_pos h16, hn2, if_pos hF]; rfl
      rw [hF] at HCK
      generalize s.put l (f : Int) t = R at HR ⊢
      have HOP : Hid (∀ (s : SV) p, s.good (C : Int) l → (SV.putPt l t s p).1.good (C : Int) l) := fun s p hg => hg.putPt l t p
      have HST : Hid (∀ w1 : World, Below w.heap.size w w1 → RputAt w1 sp xs s m (C : Int) l (SV.putPt l t) f n R 0 xs s w1) := fun w1 hb => ⟨h.below hb, hg, HR.out.symm, Moved.refl _ _, Nat.zero_le _⟩
      have HLA : Hid (∀ (w1 wr : World) (ys : Nat → Qh) (z : SV) (k : Nat), k < n → Below w.heap.size w w1 → RputAt w1 sp xs s m (C : Int) l (SV.putPt l t) f n R k ys z wr →
          Calls Tryz.prog 99 #[.pointer (some ⟨sp, 0, none⟩), .slice a l.length cap, .int .i64 ((mkPt f n k).c : Int), .int .i64 ((mkPt f n k).f : Int), .string (secB t k (mkPt f n k).n)] wr (RDid wr sp ys z (m + 10 * k + 10) (SV.putPt l t z (mkPt f n k)))) := fun w1 wr ys z k hk hb1 hp => by
        have hfi := mkPt_fits (C := C) hk (by omega : f + n ≤ 4 * C)
        have hnu : Nums wr a l := (hl.below hb1).moved hp.moved (fun g o e => ha g o e)
        have hsz : (secB t k (mkPt f n k).n).size = (mkPt f n k).n * 16 := secB_size (by have := (mkPt_n (fr := f) hk).2.2; omega)
        exact rlay_any l (mkPt f n k).c (mkPt f n k).f (secB t k (mkPt f n k).n) wr hp.shelf hnu hp.good h0 h5 (by omega) (by rw [hsz]; have := hfi.n4; omega) (by have := hfi.c; omega)
      have HIN : Hid (∀ k, k < n → ((mkPt f n k).c : Int) = ((f : Int) + (k : Int)) / 4 ∧ ((mkPt f n k).f : Int) = ((f : Int) + (k : Int)) % 4 ∧ ((mkPt f n k).n : Int) = min (4 - ((f : Int) + (k : Int)) % 4) ((n : Int) - (k : Int)) ∧ (mkPt f n k).a = k) := fun k hk => mkPt_int f n k hk
      have HPN : Hid (∀ k, k < n → 1 ≤ (mkPt f n k).n ∧ (mkPt f n k).f + (mkPt f n k).n ≤ 4 ∧ k + (mkPt f n k).n ≤ n) := fun k hk => mkPt_n hk
      have HFR : Hid (∀ (w1 w' : World) (R : SV × Int) (e : Ending), Below w.heap.size w w1 → RDid w1 sp xs s (m + 2000) R e w' → RDid w sp xs s (m + 2000) R e w') := fun w1 w' R e hb hd => RDid.from hd hb
      generalize hq : l.length = q at HCK HLA ⊢
      clear h hl hg ha hF hq h16 hn2
      have hfn : f + n ≤ 1000 := by omega
      go_enter Tryz.func36, Tryz.ntmps36
      go_wp2_with fail
      refine HCK.out.mono ?_
      rintro e w1 ⟨rfl, hb1⟩
      have HB1 := toHid hb1
      have HS1 := toHid (HST.out w1 hb1)
      clear hb1 HCK HST
      go_wp2
      go_loopw [13] (fun i wr => ∃ (k : Nat) (ys : Nat → Qh) (z : SV), i = .int .i64 (k : Int) ∧ RputAt w1 sp xs s m (C : Int) l (SV.putPt l t) f n R k ys z wr) (fun i _ => n - (intOf i).toNat)
      case atStart => exact ⟨0, xs, s, rfl, HS1.out⟩
      case round =>
        obtain ⟨k, ys, z, rfl, hp⟩ := hrel
        have hkn := hp.le
        by_cases hlt : k < n
        · have HLK := toHid (HLA.out w1 wr ys z k hlt HB1.out hp)
          obtain ⟨i1, i2, i3, _⟩ := HIN.out k hlt
          obtain ⟨p1, p2, p3⟩ := HPN.out k hlt
          rw [i1, i2] at HLK
          have HI3 := toHid i3
          have HGO : Hid (∀ e w2, RDid wr sp ys z (m + 10 * k + 10) (SV.putPt l t z (mkPt f n k)) e w2 → (SV.putPt l t z (mkPt f n k)).2 = 0 → ∃ ys' z', RputAt w1 sp xs s m (C : Int) l (SV.putPt l t) f n R (k + (mkPt f n k).n) ys' z' w2) := fun e w2 hd h0 => hp.step (Below.refl _ _) hlt HOP.out hd h0
          have HSP : Hid (∀ e w2, RDid wr sp ys z (m + 10 * k + 10) (SV.putPt l t z (mkPt f n k)) e w2 → (SV.putPt l t z (mkPt f n k)).2 ≠ 0 → R = SV.putPt l t z (mkPt f n k) ∧ RDid w1 sp xs s (m + 2000) R e w2) := fun e w2 hd h0 => hp.stop (Below.refl _ _) hlt (by omega) hd h0
          have HPO : Hid (0 ≤ (SV.putPt l t z (mkPt f n k)).2) := lay_pos _ _ _ _ _
          clear hp HLA HIN HPN i1 i2 i3
          generalize SV.putPt l t z (mkPt f n k) = Z at HLK HGO HSP HPO
          generalize hpn : (mkPt f n k).n = pn at HLK HGO HI3 p1 p2 p3
          clear hpn
          have hat0 : (0 : Int) ≤ (f : Int) + (k : Int) := by omega
          have k1 : IntKind.i64.wrap ((f : Int) + (k : Int)) = (f : Int) + (k : Int) := IntWalk.i64_in _ (by omega)
          have k2 : (0 : Int) ≤ ((f : Int) + (k : Int)) % 4 := by omega
          have k3 : ((f : Int) + (k : Int)) % 4 < 4 := by omega
          have k4 : min (4 - ((f : Int) + (k : Int)) % 4) ((n : Int) - (k : Int)) = (pn : Int) := HI3.out.symm
          have k5 : IntKind.i64.wrap (16 * (k : Int)) = 16 * (k : Int) := IntWalk.i64_in _ (by omega)
          have k6 : IntKind.i64.wrap ((k : Int) + (pn : Int)) = (k : Int) + (pn : Int) := IntWalk.i64_in _ (by omega)
          have k7 : IntKind.i64.wrap (16 * ((k : Int) + (pn : Int))) = 16 * ((k : Int) + (pn : Int)) := IntWalk.i64_in _ (by omega)
          have k8 : (0 : Int) ≤ 16 * (k : Int) := by omega
          have k9 : 16 * (k : Int) ≤ 16 * ((k : Int) + (pn : Int)) := by omega
          have k10 : 16 * ((k : Int) + (pn : Int)) ≤ (t.size : Int) := by omega
          have k11 : (16 * (k : Int)).toNat = 16 * k := by omega
          have k12 : (16 * ((k : Int) + (pn : Int))).toNat = 16 * (k + pn) := by omega
          have k13 : (0 : Int) ≤ 16 * ((k : Int) + (pn : Int)) := by omega
          have k14 : (k : Int) ≤ (k : Int) + (pn : Int) := by omega
          have hsb : secB t k pn = t.extract (16 * k) (16 * (k + pn)) := by unfold secB; rw [show k * 16 = 16 * k by omega, show (k + pn) * 16 = 16 * (k + pn) by omega]
          rw [hsb] at HLK
          clear hsb hn hq16
          go_wp2_with fail
          refine HLK.out.mono ?_
          rintro e w2 hd
          have hd2 := hd
          obtain ⟨ys', rfl, _, _⟩ := hd2
          rw [retN_is]
          by_cases hz : Z.2 = 0
          · obtain ⟨ys2, z2, hp2⟩ := HGO.out _ _ hd hz
            have HP2 := toHid hp2
            rw [hz]
            clear hd hp2 hz
            go_wp2
            go_roundw
            case rel =>
              have fin : ∃ (k1 : Nat) (y1 : Nat → Qh) (z1 : SV), Value.int .i64 ((k : Int) + (pn : Int)) = .int .i64 (k1 : Int) ∧ RputAt w1 sp xs s m (C : Int) l (SV.putPt l t) f n R k1 y1 z1 w2 := ⟨k + pn, ys2, z2, by go_num, HP2.out⟩
              first | exact fin | ((repeat apply Exists.intro); exact ⟨fin, rfl⟩)
            case measure => simp [intOf]; omega
          · obtain ⟨hRZ, hsd⟩ := HSP.out _ _ hd hz
            have HSD := toHid (HFR.out _ _ _ _ HB1.out hsd)
            have hpz : 0 < Z.2 := by have := HPO.out; omega
            clear hd hsd hz hRZ HGO HSP HPO HLK
            generalize Z.2 = fz at hpz HSD ⊢
            have gz : decide (0 < fz) = true := decide_eq_true hpz
            clear hpz
            go_wp2
            go_ret
            exact HSD.out
        · have HD := toHid (HFR.out _ _ _ _ HB1.out (hp.fin hlt (M := m + 2000) (by omega)))
          have gk : decide ((k : Int) < (n : Int)) = false := decide_eq_false (by omega)
          clear hp
          go_wp2
          go_ret
          exact HD.out
    · have HR : Hid (s.put l fr t = (s, s.chkF l fr (n : Int))) := by unfold Hid SV.put; rw [if_pos h16, hn2, if_neg hF]
      have HSM : Hid (∀ W : World, Below w.heap.size w W → RDid w sp xs s (m + 2000) (s, s.chkF l fr (n : Int)) (.returned (.int .i64 (s.chkF l fr (n : Int)))) W) := fun W hb => RDid.same (h.more (by omega)) hb
      have hpos := chkF_pos hF
      rw [HR.out]
      generalize s.chkF l fr (n : Int) = F at HCK HSM hF hpos ⊢
      have gF : decide (0 < F) = true := decide_eq_true hpos
      generalize l.length = q at HCK ⊢
      clear h hl hg ha HR hF hn hn2 h16 hpos
      go_enter Tryz.func36, Tryz.ntmps36
      go_wp2_with fail
      refine HCK.out.mono ?_
      rintro e wA ⟨rfl, hbA⟩
      have HD := toHid (HSM.out _ hbA)
      clear hbA HCK HSM
      go_wp2
      go_ret
      exact HD.out
  · have g16 : decide (0 < (t.size : Int) % 16) = true := decide_eq_true (by omega)
    have HR : Hid (s.put l fr t = (s, 1)) := by unfold Hid SV.put; rw [if_neg h16]
    have HD : Hid (RDid w sp xs s (m + 2000) (s, 1) (.returned (.int .i64 1)) w) := RDid.same (h.more (by omega)) (Below.refl _ _)
    rw [HR.out]
    generalize l.length = q
    clear h hl hg ha HR h16
    go_enter Tryz.func36, Tryz.ntmps36
    go_wp2
    go_ret
    exact HD.out
end Go.Proofs.YtjegaljdindfaabGreatDoor
