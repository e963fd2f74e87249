/-
What the small calls on a shelf give: a file, a kind, the place that has something, how many clusters.
What is read of a list: noughts, sectors of a text, a range's fault, a cluster.
-/
import Derived.Test.YtjegaljdindfaabGreatDoorQRchShelf
import Derived.Deep.RegionHeld3
namespace Go.Proofs.YtjegaljdindfaabGreatDoor
open Go.RowKit Go.Maps
attribute [local go_sem ↓] Go.wp_at_zero Go.wp_at_succ

set_option maxRecDepth 100000 in
set_option maxHeartbeats 1000000 in
theorem file_any {sp m : Nat} {xs : Nat → Ih} {s : SV} (n : Int) (w : World) (h : IsShelf w sp xs s m) :
    Calls Tryz.prog 34 #[.pointer (some ⟨sp, 0, none⟩), .int .i64 n] w fun e w' => e = .returned (ptrO (xs n.toNat) (s.file n)) ∧ w' = w := by
  by_cases h0 : n < 0
  · have g0 : decide (n < 0) = true := decide_eq_true h0
    have hf : s.file n = none := by unfold SV.file; rw [if_neg (by omega)]
    rw [hf]
    clear h
    go_enter Tryz.func34, Tryz.ntmps34
    go_wp2
    go_ret
    exact ⟨rfl, rfl⟩
  · have g0 : decide (n < 0) = false := decide_eq_false h0
    by_cases h1 : 5 ≤ n
    · have g1 : decide (5 ≤ n) = true := decide_eq_true h1
      have hf : s.file n = none := by unfold SV.file; rw [if_neg (by omega)]
      rw [hf]
      clear h
      go_enter Tryz.func34, Tryz.ntmps34
      go_wp2
      go_ret
      exact ⟨rfl, rfl⟩
    · have g1 : decide (5 ≤ n) = false := decide_eq_false h1
      obtain ⟨k, rfl⟩ : ∃ k : Nat, n = (k : Int) := ⟨n.toNat, by omega⟩
      have hc := h.cell (i := k) (by omega)
      have hf : s.file (k : Int) = s k := SV.file_at (by omega)
      rw [hf]
      clear h hf
      have h2 : (0 : Int) ≤ (k : Int) := by omega
      have h3 : (k : Int) < 5 := by omega
      have h4 : ((k : Int)).toNat = k := by omega
      rw [h4]
      generalize ptrO (xs k) (s k) = pv at hc ⊢
      go_enter Tryz.func34, Tryz.ntmps34
      go_wp2
      go_ret
      exact ⟨rfl, rfl⟩

set_option maxRecDepth 100000 in
set_option maxHeartbeats 1000000 in
theorem kindOf_none (c : Int) (w : World) :
    Calls Tryz.prog 104 #[.pointer none, .int .i64 c] w fun e w' => e = .returned (.int .i64 0) ∧ w' = w := by
  go_enter Tryz.func104, Tryz.ntmps104
  go_wp2
  go_ret
  exact ⟨rfl, rfl⟩

set_option maxRecDepth 100000 in
set_option maxHeartbeats 1000000 in
theorem kindOf_img {B : Gd} {x : Ih} {v : IV} (c : Int) (w : World) (h : IsImg B w x v) :
    Calls Tryz.prog 104 #[.pointer (some ⟨x.p, 0, none⟩), .int .i64 c] w fun e w' => e = .returned (.int .i64 (v.entE c).1) ∧ Below w.heap.size w w' := by
  have HK := toHid (kind_img c w h)
  have HC : Hid (v.entF c = 0 ∨ v.entF c = 1 ∧ (v.entE c).1 = 0) := by
    unfold Hid IV.entF IV.entE
    cases v.there c <;> simp
  clear h
  generalize v.entF c = f at HK HC
  generalize (v.entE c).1 = y at HK HC ⊢
  go_enter Tryz.func104, Tryz.ntmps104
  go_wp2_with fail
  refine HK.out.mono ?_
  rintro e w1 ⟨rfl, hb1⟩
  rcases HC.out with h | ⟨h, hy⟩
  · rw [h, erV_0]
    go_wp2
    go_ret
    exact ⟨rfl, hb1⟩
  · rw [h, erV_1]
    have HY := toHid hy
    clear hy
    go_wp2
    go_ret
    exact ⟨ret_i HY.out.symm, hb1⟩

theorem kindOf_file {sp m : Nat} {xs : Nat → Ih} {s : SV} (n c : Int) (w : World) (h : IsShelf w sp xs s m) :
    Calls Tryz.prog 104 #[ptrO (xs n.toNat) (s.file n), .int .i64 c] w fun e w' => e = .returned (.int .i64 (kindO (s.file n) c)) ∧ Below w.heap.size w w' := by
  cases hf : s.file n with
  | none =>
    refine (kindOf_none c w).mono ?_
    rintro e w' ⟨rfl, rfl⟩
    exact ⟨rfl, Below.refl _ _⟩
  | some v => exact kindOf_img c w (h.imgF hf).1

/- Parts of a head. -/
theorem field_c (c p b : Int) (w : World) : (Instr.field 60 (.agg #[.int .i64 c, .int .i64 p, .int .i64 b]) 0).run Tryz.prog w = .ok (.int .i64 c) w := by kernel_rfl
theorem field_b (c p b : Int) (w : World) : (Instr.field 60 (.agg #[.int .i64 c, .int .i64 p, .int .i64 b]) 2).run Tryz.prog w = .ok (.int .i64 b) w := by kernel_rfl

theorem drop_cons {l : List Int} {k : Nat} (h : k < l.length) : l.drop k = l.getD k 0 :: l.drop (k + 1) := by
  rw [List.drop_eq_getElem_cons h, List.getD_eq_getElem?_getD, List.getElem?_eq_getElem h]; rfl

set_option maxRecDepth 100000 in
set_option maxHeartbeats 1000000 in
theorem found_any {sp m cap : Nat} {xs : Nat → Ih} {s : SV} {a : Option Addr} (l : List Int) (c : Int) (w : World) (h : IsShelf w sp xs s m) (hl : Nums w a l) (h5 : l.length ≤ 100) :
    Calls Tryz.prog 44 #[.pointer (some ⟨sp, 0, none⟩), .slice a l.length cap, .int .i64 c] w fun e w' => e = .returned (.int .i64 (s.found l c)) ∧ Below w.heap.size w w' := by
  have HFI : Hid (∀ (n : Int) (W : World), Below w.heap.size w W → Calls Tryz.prog 34 #[.pointer (some ⟨sp, 0, none⟩), .int .i64 n] W fun e w' => e = .returned (ptrO (xs n.toNat) (s.file n)) ∧ w' = W) := fun n W hb => file_any n W (h.below hb)
  have HKO : Hid (∀ (n : Int) (W : World), Below w.heap.size w W → Calls Tryz.prog 104 #[ptrO (xs n.toNat) (s.file n), .int .i64 c] W fun e w' => e = .returned (.int .i64 (kindO (s.file n) c)) ∧ Below W.heap.size W w') := fun n W hb => kindOf_file n c W (h.below hb)
  have HNA : Hid (∀ (k : Nat) (W : World), Below w.heap.size w W → k < l.length → ∃ g o, a = some ⟨g, o, none⟩ ∧ W.cell? ⟨g, o + k, none⟩ = some (.int .i64 (l.getD k 0))) := fun k W hb hk => (hl.below hb) k hk
  have HF0 : Hid (s.foundGo c (l.drop 0) 0 = s.found l c) := rfl
  have HFS : Hid (∀ k, k < l.length → s.foundGo c (l.drop k) k = if kindO (s.file (l.getD k 0)) c = 0 then s.foundGo c (l.drop (k + 1)) (k + 1) else (k : Int)) := fun k hk => by rw [drop_cons hk]; rfl
  have HFE : Hid (s.foundGo c (l.drop l.length) l.length = -1) := by unfold Hid; rw [List.drop_length]; rfl
  generalize s.found l c = R at HF0 ⊢
  generalize hn : l.length = n at HNA HFS HFE h5 ⊢
  clear hn h hl
  go_enter Tryz.func44, Tryz.ntmps44
  go_wp2
  go_loopw [11] (fun i wr => ∃ k : Nat, k ≤ n ∧ i = .int .i64 k ∧ s.foundGo c (l.drop k) k = R ∧ Below w.heap.size w wr) (fun i _ => n - (intOf i).toNat)
  case atStart => exact ⟨0, Nat.zero_le _, rfl, HF0.out, Below.refl _ _⟩
  case round =>
    obtain ⟨k, hkn, rfl, hR, hbel⟩ := hrel
    by_cases hlt : k < n
    · obtain ⟨g, o, rfl, hc⟩ := HNA.out k wr hbel hlt
      have HS := toHid (HFS.out k hlt)
      have HR := toHid hR
      have HF := toHid (HFI.out (l.getD k 0) wr hbel)
      have HK := toHid (HKO.out (l.getD k 0) wr hbel)
      have HB := toHid hbel
      clear hR hbel HFI HKO HFS HNA
      generalize hx : l.getD k 0 = x at hc HS HF HK
      generalize ptrO (xs x.toNat) (s.file x) = pv at HF HK
      generalize kindO (s.file x) c = y at HS HK
      clear hx
      have k0 : (0 : Int) ≤ (k : Int) := by omega
      have k1 : (k : Int) < (n : Int) := by omega
      have k2 : ((k : Int)).toNat = k := by omega
      go_wp2_with fail
      refine HF.out.mono ?_
      rintro e w' ⟨rfl, hw⟩
      have hw' := hw.symm
      subst hw'
      clear hw
      go_wp2_with fail
      refine HK.out.mono ?_
      rintro e w2 ⟨rfl, hb2⟩
      have HB2 := toHid (HB.out.trans (hb2.mono HB.out.size))
      clear hb2
      by_cases hy : y = 0
      · have g1 : (y != 0) = false := by simpa using hy
        have HN : Hid (s.foundGo c (l.drop (k + 1)) (k + 1) = R) := by unfold Hid; rw [← HR.out, HS.out, if_pos hy]
        clear hy
        go_wp2
        go_roundw
        case rel =>
          have fin : ∃ k1 : Nat, k1 ≤ n ∧ Value.int .i64 ((k : Int) + 1) = .int .i64 k1 ∧ s.foundGo c (l.drop k1) k1 = R ∧ Below w.heap.size w w2 := ⟨k + 1, by omega, by go_num, HN.out, HB2.out⟩
          first | exact fin | ((repeat apply Exists.intro); exact ⟨fin, rfl⟩)
        case measure => simp [intOf]; omega
      · have g1 : (y != 0) = true := by simpa using hy
        have HN : Hid ((k : Int) = R) := by unfold Hid; rw [← HR.out, HS.out, if_neg hy]
        clear hy
        go_wp2
        go_ret
        exact ⟨ret_i HN.out, HB2.out⟩
    · have hkc : k = n := by omega
      subst hkc
      have HN : Hid (-1 = R) := by unfold Hid; rw [← hR, HFE.out]
      clear hR
      go_wp2
      go_ret
      exact ⟨ret_i HN.out, hbel⟩

set_option maxRecDepth 100000 in
set_option maxHeartbeats 1000000 in
theorem clusters_any {sp m n cap : Nat} {xs : Nat → Ih} {s : SV} {a : Option Addr} (x : Int) (r : List Int) (w : World) (h : IsShelf w sp xs s m) (hl : Nums w a (x :: r)) (hn : (x :: r).length = n) :
    Calls Tryz.prog 65 #[.pointer (some ⟨sp, 0, none⟩), .slice a n cap] w fun e w' => e = .returned (.int .i64 (s.clusters (x :: r))) ∧ Below w.heap.size w w' := by
  have HFI := toHid (file_any x w h)
  obtain ⟨g, o, rfl, hc⟩ := hl 0 (by simp)
  have hc' : w.cell? ⟨g, o, none⟩ = some (.int .i64 x) := hc
  have hn0 : 0 < n := by rw [← hn]; simp
  have hn1 : (0 : Int) < (n : Int) := by omega
  show Calls _ _ _ _ fun e w' => e = .returned (.int .i64 (s.rootC x)) ∧ _
  unfold SV.rootC
  clear hl hc hn
  cases hf : s.file x with
  | none =>
    rw [hf] at HFI
    clear h hf
    go_enter Tryz.func65, Tryz.ntmps65
    go_wp2_with fail
    refine HFI.out.mono ?_
    rintro e w' ⟨rfl, hw⟩
    have hw' := hw.symm
    subst hw'
    clear hw
    unfold ptrO
    go_wp2
    go_ret
    exact ⟨rfl, Below.refl _ _⟩
  | some v =>
    have HHD := toHid (head_img w (h.imgF hf).1)
    have hfd := field_c v.h.c v.h.p v.h.b
    rw [hf] at HFI
    clear h hf
    go_enter Tryz.func65, Tryz.ntmps65
    go_wp2_with fail
    refine HFI.out.mono ?_
    rintro e w' ⟨rfl, hw⟩
    have hw' := hw.symm
    subst hw'
    clear hw
    unfold ptrO
    go_wp2_with fail
    refine HHD.out.mono ?_
    rintro e w1 ⟨rfl, hb1⟩
    go_wp2
    go_ret
    exact ⟨rfl, hb1⟩
end Go.Proofs.YtjegaljdindfaabGreatDoor

namespace Go.Proofs.YtjegaljdindfaabGreatDoor
open Go.RowKit Go.Maps
attribute [local go_sem ↓] Go.wp_at_zero Go.wp_at_succ

theorem repeat_zeros (k : Nat) : Lib.repeatL [0] k = List.replicate k 0 := by
  have := Lib.repeatL_replicate 0 1 k
  rw [Nat.mul_one] at this
  exact this

set_option maxRecDepth 100000 in
set_option maxHeartbeats 1000000 in
theorem cnoughts_any (n : Nat) (w : World) (hn : n ≤ 1000) :
    Calls Tryz.prog 67 #[.int .i64 (n : Int)] w fun e w' => e = .returned (.string (noughtB (n * 16))) ∧ Below w.heap.size w w' := by
  have HR : Hid (Calls Tryz.prog 132 #[.string ⟨#[0]⟩, .int .i64 ((n : Int) * 16)] w fun e w' => e = .returned (.string (noughtB (n * 16))) ∧ Below w.heap.size w w') := by
    have := Tryz.strings_Repeat ⟨#[0]⟩ (n * 16) w (by omega) (by show 1 * (n * 16) ≤ _; omega)
    rw [show (⟨#[0]⟩ : ByteArray).data.toList = [0] from rfl, repeat_zeros, show (((n * 16 : Nat)) : Int) = (n : Int) * 16 by omega] at this
    exact this
  generalize noughtB (n * 16) = s at HR ⊢
  have k1 : IntKind.i64.wrap ((n : Int) * 16) = (n : Int) * 16 := IntWalk.i64_in _ (by omega)
  go_enter Tryz.func67, Tryz.ntmps67
  go_wp2_with fail
  refine HR.out.mono ?_
  rintro e w1 ⟨rfl, hb1⟩
  go_wp2
  go_ret
  exact ⟨rfl, hb1⟩

set_option maxRecDepth 100000 in
set_option maxHeartbeats 1000000 in
theorem sectors_any (t : ByteArray) (f n : Nat) (w : World) (h : (f + n) * 16 ≤ t.size) (ht : t.size ≤ 100000) :
    Calls Tryz.prog 97 #[.string t, .int .i64 (f : Int), .int .i64 (n : Int)] w fun e w' => e = .returned (.string (secB t f n)) ∧ w' = w := by
  have HS : Hid (t.extract (f * 16) ((f + n) * 16) = secB t f n) := rfl
  have k0 : (0 : Int) ≤ (f : Int) * 16 := by omega
  have k1 : (f : Int) * 16 ≤ ((f : Int) + (n : Int)) * 16 := by omega
  have k2 : ((f : Int) + (n : Int)) * 16 ≤ (t.size : Int) := by omega
  have k3 : ((f : Int) * 16).toNat = f * 16 := by omega
  have k4 : (((f : Int) + (n : Int)) * 16).toNat = (f + n) * 16 := by omega
  have k5 : (0 : Int) ≤ ((f : Int) + (n : Int)) * 16 := by omega
  have k6 : IntKind.i64.wrap ((f : Int) * 16) = (f : Int) * 16 := IntWalk.i64_in _ (by omega)
  have k7 : IntKind.i64.wrap ((f : Int) + (n : Int)) = (f : Int) + (n : Int) := IntWalk.i64_in _ (by omega)
  have k8 : IntKind.i64.wrap (((f : Int) + (n : Int)) * 16) = ((f : Int) + (n : Int)) * 16 := IntWalk.i64_in _ (by omega)
  have k9 : (f : Int) ≤ (f : Int) + (n : Int) := by omega
  have k10 : (0 : Int) ≤ (f : Int) := by omega
  generalize secB t f n = R at HS ⊢
  clear h
  go_enter Tryz.func97, Tryz.ntmps97
  go_wp2
  go_ret
  exact ⟨by rw [HS.out]; rfl, rfl⟩

set_option maxRecDepth 100000 in
set_option maxHeartbeats 1000000 in
theorem check_any {sp m cap : Nat} {xs : Nat → Ih} {s : SV} {a : Option Addr} {C : Int} (l : List Int) (fr n : Int) (w : World) (h : IsShelf w sp xs s m) (hl : Nums w a l) (hg : s.good C l) (hC : 0 ≤ C ∧ C ≤ 1000) (hfr : -9223372036854775808 ≤ fr ∧ fr ≤ 9223372036854775807) :
    Calls Tryz.prog 94 #[.pointer (some ⟨sp, 0, none⟩), .slice a l.length cap, .int .i64 fr, .int .i64 n] w fun e w' => e = .returned (erV (s.chkF l fr n)) ∧ Below w.heap.size w w' := by
  cases l with
  | nil =>
    have e1 : s.chkF [] fr n = 4 := rfl
    rw [e1, erV_some (by decide)]
    clear h hl hg e1
    go_enter Tryz.func94, Tryz.ntmps94
    go_wp2
    go_ret
    exact ⟨rfl, Below.refl _ _⟩
  | cons x r =>
    have HCL := toHid (clusters_any (cap := cap) x r w h hl rfl)
    have hcc : s.clusters (x :: r) = C := hg.clusters (by simp)
    have HF : Hid (s.chkF (x :: r) fr n = if fr < 0 ∨ n < 0 ∨ 4 * C - fr < n then 1 else 0) := by unfold Hid SV.chkF; rw [if_neg (by simp), hcc]
    rw [hcc] at HCL
    generalize s.chkF (x :: r) fr n = F at HF ⊢
    have hn0 : (((x :: r).length : Int) == 0) = false := by simp; omega
    generalize (x :: r).length = q at HCL hn0 ⊢
    have k1 : IntKind.i64.wrap (C * 4) = C * 4 := IntWalk.i64_in _ (by omega)
    clear h hl hg hcc
    by_cases h0 : fr < 0
    · have g0 : decide (fr < 0) = true := decide_eq_true h0
      have HF1 : Hid (F = 1) := by unfold Hid; rw [HF.out, if_pos (.inl h0)]
      clear HF
      go_enter Tryz.func94, Tryz.ntmps94
      go_wp2_with fail
      refine HCL.out.mono ?_
      rintro e w1 ⟨rfl, hb1⟩
      go_wp2
      go_ret
      exact ⟨by rw [HF1.out, erV_1]; rfl, hb1⟩
    · have g0 : decide (fr < 0) = false := decide_eq_false h0
      by_cases h1 : n < 0
      · have g1 : decide (n < 0) = true := decide_eq_true h1
        have HF1 : Hid (F = 1) := by unfold Hid; rw [HF.out, if_pos (.inr (.inl h1))]
        clear HF
        go_enter Tryz.func94, Tryz.ntmps94
        go_wp2_with fail
        refine HCL.out.mono ?_
        rintro e w1 ⟨rfl, hb1⟩
        go_wp2
        go_ret
        exact ⟨by rw [HF1.out, erV_1]; rfl, hb1⟩
      · have g1 : decide (n < 0) = false := decide_eq_false h1
        have k2 : IntKind.i64.wrap (C * 4 - fr) = C * 4 - fr := IntWalk.i64_in _ (by omega)
        by_cases h2 : C * 4 - fr < n
        · have g2 : decide (C * 4 - fr < n) = true := decide_eq_true h2
          have HF1 : Hid (F = 1) := by unfold Hid; rw [HF.out, if_pos (.inr (.inr (by omega)))]
          clear HF
          go_enter Tryz.func94, Tryz.ntmps94
          go_wp2_with fail
          refine HCL.out.mono ?_
          rintro e w1 ⟨rfl, hb1⟩
          go_wp2
          go_ret
          exact ⟨by rw [HF1.out, erV_1]; rfl, hb1⟩
        · have g2 : decide (C * 4 - fr < n) = false := decide_eq_false h2
          have HF1 : Hid (F = 0) := by unfold Hid; rw [HF.out, if_neg (by omega)]
          clear HF
          go_enter Tryz.func94, Tryz.ntmps94
          go_wp2_with fail
          refine HCL.out.mono ?_
          rintro e w1 ⟨rfl, hb1⟩
          go_wp2
          go_ret
          exact ⟨by rw [HF1.out, erV_0]; rfl, hb1⟩

set_option maxRecDepth 100000 in
set_option maxHeartbeats 2000000 in
theorem cread_any {sp m cap : Nat} {xs : Nat → Ih} {s : SV} {a : Option Addr} {C : Int} (l : List Int) (c : Int) (w : World) (h : IsShelf w sp xs s m) (hl : Nums w a l) (hg : s.good C l) (h5 : l.length ≤ 100) :
    Calls Tryz.prog 23 #[.pointer (some ⟨sp, 0, none⟩), .slice a l.length cap, .int .i64 c] w fun e w' => e = .returned (.tuple #[.string (s.read l c).1, erV (s.read l c).2]) ∧ Below w.heap.size w w' := by
  by_cases hnil : l = []
  · subst hnil
    have e1 : s.read [] c = (bytesOf [], 4) := rfl
    rw [e1, erV_some (by decide)]
    clear h hl hg e1
    go_enter Tryz.func23, Tryz.ntmps23
    go_wp2
    go_ret2
    exact ⟨rfl, Below.refl _ _⟩
  · have hcc : s.clusters l = C := hg.clusters hnil
    have HCL : Hid (Calls Tryz.prog 65 #[.pointer (some ⟨sp, 0, none⟩), .slice a l.length cap] w fun e w' => e = .returned (.int .i64 C) ∧ Below w.heap.size w w') := by
      cases l with
      | nil => exact absurd rfl hnil
      | cons x r => rw [← hcc]; exact clusters_any x r w h hl rfl
    have hn0 : ((l.length : Int) == 0) = false := by
      cases l with
      | nil => exact absurd rfl hnil
      | cons x r => simp; omega
    by_cases h0 : c < 0
    · have g0 : decide (c < 0) = true := decide_eq_true h0
      have e1 : s.read l c = (bytesOf [], 1) := by unfold SV.read; rw [if_neg hnil, if_neg (by omega)]
      rw [e1, erV_1]
      clear h hl hg e1 hcc
      generalize l.length = q at HCL hn0 ⊢
      go_enter Tryz.func23, Tryz.ntmps23
      go_wp2
      go_ret2
      exact ⟨rfl, Below.refl _ _⟩
    · have g0 : decide (c < 0) = false := decide_eq_false h0
      by_cases h1 : C ≤ c
      · have g1 : decide (C ≤ c) = true := decide_eq_true h1
        have e1 : s.read l c = (bytesOf [], 1) := by unfold SV.read; rw [if_neg hnil, hcc, if_neg (by omega)]
        rw [e1, erV_1]
        clear h hl hg e1 hcc
        generalize l.length = q at HCL hn0 ⊢
        go_enter Tryz.func23, Tryz.ntmps23
        go_wp2_with fail
        refine HCL.out.mono ?_
        rintro e w1 ⟨rfl, hb1⟩
        go_wp2
        go_ret2
        exact ⟨rfl, hb1⟩
      · have g1 : decide (C ≤ c) = false := decide_eq_false h1
        have HFD : Hid (∀ W : World, Below w.heap.size w W → Calls Tryz.prog 44 #[.pointer (some ⟨sp, 0, none⟩), .slice a l.length cap, .int .i64 c] W fun e w' => e = .returned (.int .i64 (s.found l c)) ∧ Below W.heap.size W w') := fun W hb => found_any l c W (h.below hb) (hl.below hb) h5
        have HRE : Hid (s.read l c = match s.seenAt c l with | none => (bytesOf zeros64, 0) | some v => (bytesOf (v.readS c), v.readF c)) := by unfold Hid SV.read; rw [if_neg hnil, hcc, if_pos (by omega)]; rfl
        have HNO : Hid (∀ W : World, Calls Tryz.prog 67 #[.int .i64 4] W fun e w' => e = .returned (.string (bytesOf zeros64)) ∧ Below W.heap.size W w') := fun W => cnoughts_any 4 W (by decide)
        rcases SV.found_cases s c l 0 with ⟨f1, f2⟩ | ⟨j, n, v, j1, f1, f3, f4, f5, f6, f7⟩
        · have HF1 : Hid (s.found l c = -1) := f1
          rw [f2] at HRE
          rw [HF1.out] at HFD
          rw [HRE.out, erV_0]
          clear h hl hg hcc HRE HF1
          generalize l.length = q at HCL hn0 HFD ⊢
          generalize bytesOf zeros64 = z at HNO ⊢
          go_enter Tryz.func23, Tryz.ntmps23
          go_wp2_with fail
          refine HCL.out.mono ?_
          rintro e w1 ⟨rfl, hb1⟩
          have HB1 := toHid hb1
          clear hb1
          go_wp2_with fail
          refine (HFD.out _ HB1.out).mono ?_
          rintro e w2 ⟨rfl, hb2⟩
          have HB2 := toHid (HB1.out.trans (hb2.mono HB1.out.size))
          clear hb2
          go_wp2_with fail
          refine (HNO.out _).mono ?_
          rintro e w3 ⟨rfl, hb3⟩
          have HB3 := toHid (HB2.out.trans (hb3.mono HB2.out.size))
          clear hb3
          go_wp2
          go_ret2
          exact ⟨rfl, HB3.out⟩
        · have HF1 : Hid (s.found l c = (j : Int)) := by unfold Hid SV.found; rw [f1]; congr 1; omega
          rw [f7] at HRE
          simp only at HRE
          rw [HF1.out] at HFD
          rw [HRE.out]
          obtain ⟨n0, n5, hs⟩ := SV.file_of f5
          have HIM : Hid (∀ W : World, Below w.heap.size w W → Calls Tryz.prog 66 #[.pointer (some ⟨(xs n.toNat).p, 0, none⟩), .int .i64 c] W fun e w' => e = .returned (.tuple #[.string (bytesOf (v.readS c)), erV (v.readF c)]) ∧ Below W.heap.size W w') := fun W hb => by
            obtain ⟨i1, i2⟩ := (h.below hb).imgF f5
            exact read_img c W i1 i2
          have HCE : Hid (∀ W : World, Below w.heap.size w W → W.cell? ⟨sp, n.toNat, none⟩ = some (.pointer (some ⟨(xs n.toNat).p, 0, none⟩))) := fun W hb => (h.below hb).cellF f5
          have HNU : Hid (∀ W : World, Below w.heap.size w W → Nums W a l) := fun W hb => hl.below hb
          obtain ⟨g, o, ha, hcn⟩ := hl j j1
          subst ha
          rw [f3] at hcn
          have hgl : g < w.heap.size := World.block_lt_of_cell? _ _ hcn
          obtain ⟨k, rfl⟩ : ∃ k : Nat, n = (k : Int) := ⟨n.toNat, by omega⟩
          have hk : ((k : Int)).toNat = k := by omega
          rw [hk] at HIM HCE
          have k0 : (0 : Int) ≤ (j : Int) := by omega
          have k1 : (j : Int) < (l.length : Int) := by omega
          have k2 : ((j : Int)).toNat = j := by omega
          have k3 : (0 : Int) ≤ (k : Int) := by omega
          have k4 : (k : Int) < 5 := by omega
          have k5 : decide ((0 : Int) ≤ (j : Int)) = true := by simp
          generalize bytesOf (v.readS c) = z at HIM ⊢
          generalize erV (v.readF c) = er at HIM ⊢
          clear h hl hg hcc HRE HF1 f1 f3 f4 f5 f6 f7 hs HNU
          generalize (xs k).p = xp at HIM HCE
          generalize l.length = q at HCL hn0 HFD k1 ⊢
          go_enter Tryz.func23, Tryz.ntmps23
          go_wp2_with fail
          refine HCL.out.mono ?_
          rintro e w1 ⟨rfl, hb1⟩
          have HB1 := toHid hb1
          clear hb1
          go_wp2_with fail
          refine (HFD.out _ HB1.out).mono ?_
          rintro e w2 ⟨rfl, hb2⟩
          have HB2 := toHid (HB1.out.trans (hb2.mono HB1.out.size))
          clear hb2
          have d1 : w2.cell? ⟨g, o + j, none⟩ = some (.int .i64 (k : Int)) := (HB2.out.cell (p := ⟨g, o + j, none⟩) hgl).trans hcn
          have d2 := HCE.out w2 HB2.out
          have d3 : w2.drew.cell? ⟨g, o + j, none⟩ = some (.int .i64 (k : Int)) := d1
          have d4 : w2.drew.cell? ⟨sp, k, none⟩ = some (.pointer (some ⟨xp, 0, none⟩)) := d2
          have HBD : Hid (Below w.heap.size w w2.drew) := HB2.out.drew
          go_wp2
          go_region_held3 (fun W => W.cell? ⟨g, o + j, none⟩ = some (.int .i64 (k : Int)) ∧ W.cell? ⟨sp, k, none⟩ = some (.pointer (some ⟨xp, 0, none⟩)))
            (first | (exact ⟨d3, d4⟩) | assumption)
            (first
              | (go_at_call 66; refine (HIM.out _ HBD.out).mono ?_; rintro e w3 ⟨rfl, hb3⟩; have hS3 : w3.cell? ⟨g, o + j, none⟩ = some (.int .i64 (k : Int)) ∧ w3.cell? ⟨sp, k, none⟩ = some (.pointer (some ⟨xp, 0, none⟩)) := ⟨(hb3.cell (World.block_lt_of_cell? _ _ d3)).trans d3, (hb3.cell (World.block_lt_of_cell? _ _ d4)).trans d4⟩))
          have HB3 := toHid (HBD.out.trans (hb3.mono HBD.out.size))
          clear hb3 hS3
          go_wp2
          go_ret2
          exact ⟨rfl, HB3.out⟩
end Go.Proofs.YtjegaljdindfaabGreatDoor
