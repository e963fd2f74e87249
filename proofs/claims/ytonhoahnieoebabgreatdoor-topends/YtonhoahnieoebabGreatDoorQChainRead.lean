/-
What a job wants at first (program).
What is read of a list: noughts, sectors of a text, a range's fault, a cluster.
-/
import Derived.Test.YtonhoahnieoebabGreatDoorQJobN1
import Derived.Test.YtonhoahnieoebabGreatDoorQChainGets
import Derived.Deep.RegionHeld3
namespace Go.Proofs.YtonhoahnieoebabGreatDoor
open Go.RowKit Go.Maps
attribute [local go_sem ↓] Go.wp_at_zero Go.wp_at_succ

set_option maxRecDepth 100000 in
set_option maxHeartbeats 2000000 in
theorem wanted_any {jp sp cap C m : Nat} {a : Option Addr} {xs : Nat → Ih} {s : SV} {j : JV} (w : World) (hd : JHd w jp sp a cap j) (hs : IsShelf w sp xs s m) (hn : Nums w a j.l) (ok : JOk s C j) :
    Calls Tryz.prog 85 #[.pointer (some ⟨jp, 0, none⟩), .int .i64 (j.n : Int)] w fun e w' => ∃ lp, e = .returned (.tuple #[.pointer (some ⟨lp, 0, none⟩), .nilIface]) ∧ S4.IsSet w' lp j.n (wantTo s j j.n) ∧ w.heap.size ≤ lp ∧ Below w.heap.size w w' := by
  have hn64 : j.n ≤ 64 := by have := ok.n; have := ok.c40; omega
  have HNW := toHid (S4.snew_good j.n w hn64)
  have HWN : Hid (∀ (c : Int) (W : World), Below w.heap.size w W → Calls Tryz.prog 194 #[.pointer (some ⟨jp, 0, none⟩), .int .i64 c] W fun e w' => e = .returned (.bool (j.wantB s c)) ∧ Below W.heap.size W w') := fun c W hb => wants_any c W (hd.below hb) (hs.below hb) (hn.below hb) ok
  have HX : Hid (∀ k, S4.SetOk j.n (wantTo s j k)) := wantTo_ok s j hn64
  have HXS : Hid (∀ k : Nat, wantTo s j (k + 1) = S4.putV j.n (wantTo s j k) (k : Int) (j.wantB s (k : Int))) := fun k => rfl
  have HX0 : Hid (wantTo s j 0 = 0) := rfl
  generalize wantTo s j = X at HX HXS HX0 ⊢
  generalize j.n = n at HNW HX HXS hn64 ⊢
  clear hd hs hn ok
  go_enter Tryz.func85, Tryz.ntmps85
  go_wp2_with fail
  refine HNW.out.mono ?_
  rintro e w1 ⟨rfl, hi1, hb1⟩
  have HI1 : Hid (S4.IsSet w1 w.heap.size n (X 0)) := by unfold Hid; rw [HX0.out]; exact hi1
  have HB1 := toHid hb1
  clear hi1 hb1 HNW
  obtain ⟨lp, hlp⟩ : ∃ lp, w.heap.size = lp := ⟨_, rfl⟩
  have HLP := toHid hlp
  rw [hlp] at HI1
  rw [hlp]
  clear hlp
  go_wp2
  go_loopw [18] (fun i wr => ∃ k : Nat, k ≤ n ∧ i = .int .i64 (k : Int) ∧ S4.IsSet wr lp n (X k) ∧ Below w.heap.size w wr) (fun i _ => n - (intOf i).toNat)
  case atStart => exact ⟨0, Nat.zero_le _, rfl, HI1.out, HB1.out⟩
  case round =>
    clear HI1 HB1
    obtain ⟨k, hk, rfl, hi, hb⟩ := hrel
    have HI := toHid hi
    have HB := toHid hb
    clear hi hb
    by_cases hlt : k < n
    · have k1 : decide ((k : Int) < (n : Int)) = true := decide_eq_true (by omega)
      have HW := toHid (HWN.out (k : Int) wr HB.out)
      have HNX := toHid (HXS.out k)
      generalize j.wantB s (k : Int) = wb at HW HNX
      go_wp2_with fail
      refine HW.out.mono ?_
      rintro e w2 ⟨rfl, hb2⟩
      have HB2 := toHid (HB.out.trans (hb2.mono HB.out.size))
      have HPT := toHid (S4.sput_any (k : Int) wb w2 (HI.out.below hb2) (HX.out k))
      rw [← HNX.out] at HPT
      generalize S4.putB n (X k) (k : Int) wb = pb at HPT
      clear hb2 HW
      go_wp2_with fail
      refine HPT.out.mono ?_
      rintro e w3 ⟨rfl, hi3, hk3⟩
      have HI3 := toHid hi3
      have HB3 : Hid (Below w.heap.size w w3) := HB2.out.trans ((Kept.of4 hk3).below HB2.out.size (fun i e => by have e' : i = lp := e; rw [e', ← HLP.out]; exact Nat.le_refl _))
      clear hi3 hk3 HPT HB2 HI HB
      go_wp2
      go_roundw
      case rel =>
        have fin : ∃ k1 : Nat, k1 ≤ n ∧ Value.int .i64 ((k : Int) + 1) = .int .i64 (k1 : Int) ∧ S4.IsSet w3 lp n (X k1) ∧ Below w.heap.size w w3 := ⟨k + 1, by omega, by go_num, HI3.out, HB3.out⟩
        first | exact fin | ((repeat apply Exists.intro); exact ⟨fin, rfl⟩)
      case measure => simp [intOf]; omega
    · have hke : k = n := by omega
      subst hke
      have k1 : decide ((k : Int) < (k : Int)) = false := decide_eq_false (by omega)
      go_wp2
      go_ret2
      exact ⟨lp, rfl, HI.out, by rw [HLP.out]; exact Nat.le_refl _, HB.out⟩
end Go.Proofs.YtonhoahnieoebabGreatDoor

namespace Go.Proofs.YtonhoahnieoebabGreatDoor
open Go.RowKit Go.Maps
attribute [local go_sem ↓] Go.wp_at_zero Go.wp_at_succ

theorem repeat_zeros (k : Nat) : Lib.repeatL [0] k = List.replicate k 0 := by
  have := Lib.repeatL_replicate 0 1 k
  rw [Nat.mul_one] at this
  exact this

set_option maxRecDepth 100000 in
set_option maxHeartbeats 1000000 in
theorem cnoughts_any (n : Nat) (w : World) (hn : n ≤ 1000) :
    Calls Tryz.prog 151 #[.int .i64 (n : Int)] w fun e w' => e = .returned (.string (noughtB (n * 16))) ∧ Below w.heap.size w w' := by
  have HR : Hid (Calls Tryz.prog 238 #[.string ⟨#[0]⟩, .int .i64 ((n : Int) * 16)] w fun e w' => e = .returned (.string (noughtB (n * 16))) ∧ Below w.heap.size w w') := by
    have := Tryz.strings_Repeat ⟨#[0]⟩ (n * 16) w (by omega) (by show 1 * (n * 16) ≤ _; omega)
    rw [show (⟨#[0]⟩ : ByteArray).data.toList = [0] from rfl, repeat_zeros, show (((n * 16 : Nat)) : Int) = (n : Int) * 16 by omega] at this
    exact this
  generalize noughtB (n * 16) = s at HR ⊢
  have k1 : IntKind.i64.wrap ((n : Int) * 16) = (n : Int) * 16 := IntWalk.i64_in _ (by omega)
  go_enter Tryz.func151, Tryz.ntmps151
  go_wp2_with fail
  refine HR.out.mono ?_
  rintro e w1 ⟨rfl, hb1⟩
  go_wp2
  go_ret
  exact ⟨rfl, hb1⟩

set_option maxRecDepth 100000 in
set_option maxHeartbeats 1000000 in
theorem sectors_any (t : ByteArray) (f n : Nat) (w : World) (h : (f + n) * 16 ≤ t.size) (ht : t.size ≤ 100000) :
    Calls Tryz.prog 177 #[.string t, .int .i64 (f : Int), .int .i64 (n : Int)] w fun e w' => e = .returned (.string (secB t f n)) ∧ w' = w := by
  have HS : Hid (t.extract (f * 16) ((f + n) * 16) = secB t f n) := rfl
  have k0 : (0 : Int) ≤ (f : Int) * 16 := by omega
  have k1 : (f : Int) * 16 ≤ ((f : Int) + (n : Int)) * 16 := by omega
  have k2 : ((f : Int) + (n : Int)) * 16 ≤ (t.size : Int) := by omega
  have k3 : ((f : Int) * 16).toNat = f * 16 := by omega
  have k4 : (((f : Int) + (n : Int)) * 16).toNat = (f + n) * 16 := by omega
  have k5 : (0 : Int) ≤ ((f : Int) + (n : Int)) * 16 := by omega
  have k6 : IntKind.i64.wrap ((f : Int) * 16) = (f : Int) * 16 := IntWalk.i64_in _ (by omega)
  have k7 : IntKind.i64.wrap ((f : Int) + (n : Int)) = (f : Int) + (n : Int) := IntWalk.i64_in _ (by omega)
  have k8 : IntKind.i64.wrap (((f : Int) + (n : Int)) * 16) = ((f : Int) + (n : Int)) * 16 := IntWalk.i64_in _ (by omega)
  have k9 : (f : Int) ≤ (f : Int) + (n : Int) := by omega
  have k10 : (0 : Int) ≤ (f : Int) := by omega
  generalize secB t f n = R at HS ⊢
  clear h
  go_enter Tryz.func177, Tryz.ntmps177
  go_wp2
  go_ret
  exact ⟨by rw [HS.out]; rfl, rfl⟩

set_option maxRecDepth 100000 in
set_option maxHeartbeats 1000000 in
theorem check_any {sp m cap : Nat} {xs : Nat → Ih} {s : SV} {a : Option Addr} {C : Int} (l : List Int) (fr n : Int) (w : World) (h : IsShelf w sp xs s m) (hl : Nums w a l) (hg : s.good C l) (hC : 0 ≤ C ∧ C ≤ 1000) (hfr : -9223372036854775808 ≤ fr ∧ fr ≤ 9223372036854775807) :
    Calls Tryz.prog 174 #[.pointer (some ⟨sp, 6, none⟩), .slice a l.length cap, .int .i64 fr, .int .i64 n] w fun e w' => e = .returned (erV (s.chkF l fr n)) ∧ Below w.heap.size w w' := by
  cases l with
  | nil =>
    have e1 : s.chkF [] fr n = 4 := rfl
    rw [e1, erV_some (by decide)]
    clear h hl hg e1
    go_enter Tryz.func174, Tryz.ntmps174
    go_wp2
    go_ret
    exact ⟨rfl, Below.refl _ _⟩
  | cons x r =>
    have HCL := toHid (clusters_any (cap := cap) x r w h hl rfl)
    have hcc : s.clusters (x :: r) = C := hg.clusters (by simp)
    have HF : Hid (s.chkF (x :: r) fr n = if fr < 0 ∨ n < 0 ∨ 4 * C - fr < n then 1 else 0) := by unfold Hid SV.chkF; rw [if_neg (by simp), hcc]
    rw [hcc] at HCL
    generalize s.chkF (x :: r) fr n = F at HF ⊢
    have hn0 : (((x :: r).length : Int) == 0) = false := by simp; omega
    generalize (x :: r).length = q at HCL hn0 ⊢
    have k1 : IntKind.i64.wrap (C * 4) = C * 4 := IntWalk.i64_in _ (by omega)
    clear h hl hg hcc
    by_cases h0 : fr < 0
    · have g0 : decide (fr < 0) = true := decide_eq_true h0
      have HF1 : Hid (F = 1) := by unfold Hid; rw [HF.out, if_pos (.inl h0)]
      clear HF
      go_enter Tryz.func174, Tryz.ntmps174
      go_wp2_with fail
      refine HCL.out.mono ?_
      rintro e w1 ⟨rfl, hb1⟩
      go_wp2
      go_ret
      exact ⟨by rw [HF1.out, erV_1]; rfl, hb1⟩
    · have g0 : decide (fr < 0) = false := decide_eq_false h0
      by_cases h1 : n < 0
      · have g1 : decide (n < 0) = true := decide_eq_true h1
        have HF1 : Hid (F = 1) := by unfold Hid; rw [HF.out, if_pos (.inr (.inl h1))]
        clear HF
        go_enter Tryz.func174, Tryz.ntmps174
        go_wp2_with fail
        refine HCL.out.mono ?_
        rintro e w1 ⟨rfl, hb1⟩
        go_wp2
        go_ret
        exact ⟨by rw [HF1.out, erV_1]; rfl, hb1⟩
      · have g1 : decide (n < 0) = false := decide_eq_false h1
        have k2 : IntKind.i64.wrap (C * 4 - fr) = C * 4 - fr := IntWalk.i64_in _ (by omega)
        by_cases h2 : C * 4 - fr < n
        · have g2 : decide (C * 4 - fr < n) = true := decide_eq_true h2
          have HF1 : Hid (F = 1) := by unfold Hid; rw [HF.out, if_pos (.inr (.inr (by omega)))]
          clear HF
          go_enter Tryz.func174, Tryz.ntmps174
          go_wp2_with fail
          refine HCL.out.mono ?_
          rintro e w1 ⟨rfl, hb1⟩
          go_wp2
          go_ret
          exact ⟨by rw [HF1.out, erV_1]; rfl, hb1⟩
        · have g2 : decide (C * 4 - fr < n) = false := decide_eq_false h2
          have HF1 : Hid (F = 0) := by unfold Hid; rw [HF.out, if_neg (by omega)]
          clear HF
          go_enter Tryz.func174, Tryz.ntmps174
          go_wp2_with fail
          refine HCL.out.mono ?_
          rintro e w1 ⟨rfl, hb1⟩
          go_wp2
          go_ret
          exact ⟨by rw [HF1.out, erV_0]; rfl, hb1⟩

set_option maxRecDepth 100000 in
set_option maxHeartbeats 2000000 in
theorem cread_any {sp m cap : Nat} {xs : Nat → Ih} {s : SV} {a : Option Addr} {C : Int} (l : List Int) (c : Int) (w : World) (h : IsShelf w sp xs s m) (hl : Nums w a l) (hg : s.good C l) (h5 : l.length ≤ 100) :
    Calls Tryz.prog 57 #[.pointer (some ⟨sp, 6, none⟩), .slice a l.length cap, .int .i64 c] w fun e w' => e = .returned (.tuple #[.string (s.read l c).1, erV (s.read l c).2]) ∧ Below w.heap.size w w' := by
  by_cases hnil : l = []
  · subst hnil
    have e1 : s.read [] c = (bytesOf [], 4) := rfl
    rw [e1, erV_some (by decide)]
    clear h hl hg e1
    go_enter Tryz.func57, Tryz.ntmps57
    go_wp2
    go_ret2
    exact ⟨rfl, Below.refl _ _⟩
  · have hcc : s.clusters l = C := hg.clusters hnil
    have HCL : Hid (Calls Tryz.prog 149 #[.pointer (some ⟨sp, 6, none⟩), .slice a l.length cap] w fun e w' => e = .returned (.int .i64 C) ∧ Below w.heap.size w w') := by
      cases l with
      | nil => exact absurd rfl hnil
      | cons x r => rw [← hcc]; exact clusters_any x r w h hl rfl
    have hn0 : ((l.length : Int) == 0) = false := by
      cases l with
      | nil => exact absurd rfl hnil
      | cons x r => simp; omega
    by_cases h0 : c < 0
    · have g0 : decide (c < 0) = true := decide_eq_true h0
      have e1 : s.read l c = (bytesOf [], 1) := by unfold SV.read; rw [if_neg hnil, if_neg (by omega)]
      rw [e1, erV_1]
      clear h hl hg e1 hcc
      generalize l.length = q at HCL hn0 ⊢
      go_enter Tryz.func57, Tryz.ntmps57
      go_wp2
      go_ret2
      exact ⟨rfl, Below.refl _ _⟩
    · have g0 : decide (c < 0) = false := decide_eq_false h0
      by_cases h1 : C ≤ c
      · have g1 : decide (C ≤ c) = true := decide_eq_true h1
        have e1 : s.read l c = (bytesOf [], 1) := by unfold SV.read; rw [if_neg hnil, hcc, if_neg (by omega)]
        rw [e1, erV_1]
        clear h hl hg e1 hcc
        generalize l.length = q at HCL hn0 ⊢
        go_enter Tryz.func57, Tryz.ntmps57
        go_wp2_with fail
        refine HCL.out.mono ?_
        rintro e w1 ⟨rfl, hb1⟩
        go_wp2
        go_ret2
        exact ⟨rfl, hb1⟩
      · have g1 : decide (C ≤ c) = false := decide_eq_false h1
        have HFD : Hid (∀ W : World, Below w.heap.size w W → Calls Tryz.prog 78 #[.pointer (some ⟨sp, 6, none⟩), .slice a l.length cap, .int .i64 c] W fun e w' => e = .returned (.int .i64 (s.found l c)) ∧ Below W.heap.size W w') := fun W hb => found_any l c W (h.below hb) (hl.below hb) h5
        have HRE : Hid (s.read l c = match s.seenAt c l with | none => (bytesOf zeros64, 0) | some v => (bytesOf (v.readS c), v.readF c)) := by unfold Hid SV.read; rw [if_neg hnil, hcc, if_pos (by omega)]; rfl
        have HNO : Hid (∀ W : World, Calls Tryz.prog 151 #[.int .i64 4] W fun e w' => e = .returned (.string (bytesOf zeros64)) ∧ Below W.heap.size W w') := fun W => cnoughts_any 4 W (by decide)
        rcases SV.found_cases s c l 0 with ⟨f1, f2⟩ | ⟨j, n, v, j1, f1, f3, f4, f5, f6, f7⟩
        · have HF1 : Hid (s.found l c = -1) := f1
          rw [f2] at HRE
          rw [HF1.out] at HFD
          rw [HRE.out, erV_0]
          clear h hl hg hcc HRE HF1
          generalize l.length = q at HCL hn0 HFD ⊢
          generalize bytesOf zeros64 = z at HNO ⊢
          go_enter Tryz.func57, Tryz.ntmps57
          go_wp2_with fail
          refine HCL.out.mono ?_
          rintro e w1 ⟨rfl, hb1⟩
          have HB1 := toHid hb1
          clear hb1
          go_wp2_with fail
          refine (HFD.out _ HB1.out).mono ?_
          rintro e w2 ⟨rfl, hb2⟩
          have HB2 := toHid (HB1.out.trans (hb2.mono HB1.out.size))
          clear hb2
          go_wp2_with fail
          refine (HNO.out _).mono ?_
          rintro e w3 ⟨rfl, hb3⟩
          have HB3 := toHid (HB2.out.trans (hb3.mono HB2.out.size))
          clear hb3
          go_wp2
          go_ret2
          exact ⟨rfl, HB3.out⟩
        · have HF1 : Hid (s.found l c = (j : Int)) := by unfold Hid SV.found; rw [f1]; congr 1; omega
          rw [f7] at HRE
          simp only at HRE
          rw [HF1.out] at HFD
          rw [HRE.out]
          obtain ⟨n0, n5, hs⟩ := SV.file_of f5
          have HIM : Hid (∀ W : World, Below w.heap.size w W → Calls Tryz.prog 150 #[.pointer (some ⟨(xs n.toNat).p, 0, none⟩), .int .i64 c] W fun e w' => e = .returned (.tuple #[.string (bytesOf (v.readS c)), erV (v.readF c)]) ∧ Below W.heap.size W w') := fun W hb => by
            obtain ⟨i1, i2⟩ := (h.below hb).imgF f5
            exact read_img c W i1 i2
          have HCE : Hid (∀ W : World, Below w.heap.size w W → W.cell? ⟨sp, 6 + n.toNat, none⟩ = some (.pointer (some ⟨(xs n.toNat).p, 0, none⟩))) := fun W hb => (h.below hb).cellF f5
          have HNU : Hid (∀ W : World, Below w.heap.size w W → Nums W a l) := fun W hb => hl.below hb
          obtain ⟨g, o, ha, hcn⟩ := hl j j1
          subst ha
          rw [f3] at hcn
          have hgl : g < w.heap.size := World.block_lt_of_cell? _ _ hcn
          obtain ⟨k, rfl⟩ : ∃ k : Nat, n = (k : Int) := ⟨n.toNat, by omega⟩
          have hk : ((k : Int)).toNat = k := by omega
          rw [hk] at HIM HCE
          have k0 : (0 : Int) ≤ (j : Int) := by omega
          have k1 : (j : Int) < (l.length : Int) := by omega
          have k2 : ((j : Int)).toNat = j := by omega
          have k3 : (0 : Int) ≤ (k : Int) := by omega
          have k4 : (k : Int) < 5 := by omega
          have k5 : decide ((0 : Int) ≤ (j : Int)) = true := by simp
          generalize bytesOf (v.readS c) = z at HIM ⊢
          generalize erV (v.readF c) = er at HIM ⊢
          clear h hl hg hcc HRE HF1 f1 f3 f4 f5 f6 f7 hs HNU
          generalize (xs k).p = xp at HIM HCE
          generalize l.length = q at HCL hn0 HFD k1 ⊢
          go_enter Tryz.func57, Tryz.ntmps57
          go_wp2_with fail
          refine HCL.out.mono ?_
          rintro e w1 ⟨rfl, hb1⟩
          have HB1 := toHid hb1
          clear hb1
          go_wp2_with fail
          refine (HFD.out _ HB1.out).mono ?_
          rintro e w2 ⟨rfl, hb2⟩
          have HB2 := toHid (HB1.out.trans (hb2.mono HB1.out.size))
          clear hb2
          have d1 : w2.cell? ⟨g, o + j, none⟩ = some (.int .i64 (k : Int)) := (HB2.out.cell (p := ⟨g, o + j, none⟩) hgl).trans hcn
          have d2 := HCE.out w2 HB2.out
          have d3 : w2.drew.cell? ⟨g, o + j, none⟩ = some (.int .i64 (k : Int)) := d1
          have d4 : w2.drew.cell? ⟨sp, 6 + k, none⟩ = some (.pointer (some ⟨xp, 0, none⟩)) := d2
          have HBD : Hid (Below w.heap.size w w2.drew) := HB2.out.drew
          go_wp2
          go_region_held3 (fun W => W.cell? ⟨g, o + j, none⟩ = some (.int .i64 (k : Int)) ∧ W.cell? ⟨sp, 6 + k, none⟩ = some (.pointer (some ⟨xp, 0, none⟩)))
            (first | (exact ⟨d3, d4⟩) | assumption)
            (first
              | (go_at_call 150; refine (HIM.out _ HBD.out).mono ?_; rintro e w3 ⟨rfl, hb3⟩; have hS3 : w3.cell? ⟨g, o + j, none⟩ = some (.int .i64 (k : Int)) ∧ w3.cell? ⟨sp, 6 + k, none⟩ = some (.pointer (some ⟨xp, 0, none⟩)) := ⟨(hb3.cell (World.block_lt_of_cell? _ _ d3)).trans d3, (hb3.cell (World.block_lt_of_cell? _ _ d4)).trans d4⟩))
          have HB3 := toHid (HBD.out.trans (hb3.mono HBD.out.size))
          clear hb3 hS3
          go_wp2
          go_ret2
          exact ⟨rfl, HB3.out⟩
end Go.Proofs.YtonhoahnieoebabGreatDoor
