/-
The document's shelf: a cluster that is read; a range's fault.
The parts of a range, one a cluster.
-/
import Derived.Test.YtjegaljdindfaabGreatDoorQLawAsShelf
namespace Go.Proofs.YtjegaljdindfaabGreatDoor
open Go.RowKit Go.Maps
attribute [local go_sem ↓] Go.wp_at_zero Go.wp_at_succ

set_option maxRecDepth 100000 in
set_option maxHeartbeats 2000000 in
theorem rread_any {sp m cap : Nat} {xs : Nat → Qh} {s : SV} {a : Option Addr} {C : Int} (l : List Int) (c : Int) (w : World) (h : IsRshelf w sp xs s m) (hl : Nums w a l) (hg : s.good C l) (h5 : l.length ≤ 100) :
    Calls Tryz.prog 43 #[.pointer (some ⟨sp, 0, none⟩), .slice a l.length cap, .int .i64 c] w fun e w' => e = .returned (.tuple #[.string (s.read l c).1, .int .i64 (s.read l c).2]) ∧ Below w.heap.size w w' := by
  by_cases hnil : l = []
  · subst hnil
    have e1 : s.read [] c = (bytesOf [], 4) := rfl
    rw [e1]
    clear h hl hg e1
    go_enter Tryz.func43, Tryz.ntmps43
    go_wp2
    go_ret2
    exact ⟨rfl, Below.refl _ _⟩
  · have hcc : s.clusters l = C := hg.clusters hnil
    have hl0 : 0 < l.length := List.length_pos_iff.2 hnil
    have hn0 : ((l.length : Int) == 0) = false := by simp; omega
    have hn1 : (0 : Int) < (l.length : Int) := by omega
    have hn2 : 0 < l.length := hl0
    obtain ⟨g, o, x, v, rfl, hx, x5, hf, hvc, hc1, hc2, hi, hok⟩ := h.numAt hl hg hl0
    have hth : v.there c = decide (0 ≤ c ∧ c < C) := by
      unfold IV.there
      have := hok.len
      rw [← hvc, ← this]
    have HTH : Hid (∀ W : World, Below w.heap.size w W → Calls Tryz.prog 85 #[.pointer (some ⟨(xs x).p, 0, none⟩), .int .i64 c] W fun e w' => e = .returned (.bool (v.there c)) ∧ w' = W) := fun W hb => there_rim c W (hi.below hb) hok.len
    have hc1' : w.cell? ⟨g, o, none⟩ = some (.int .i64 (x : Int)) := hc1
    have d1 : w.drew.cell? ⟨g, o, none⟩ = some (.int .i64 (x : Int)) := hc1'
    have d2 : w.drew.cell? ⟨sp, x, none⟩ = some (.pointer (some ⟨(xs x).p, 0, none⟩)) := hc2
    have HDR : Hid (Below w.heap.size w w.drew) := (Below.refl _ _).drew
    have k3 : (0 : Int) ≤ (x : Int) := by omega
    have k4 : (x : Int) < 5 := by omega
    by_cases hin : 0 ≤ c ∧ c < C
    · have HRE : Hid (s.read l c = match s.seenAt c l with | none => (bytesOf zeros64, 0) | some v => (bytesOf (v.readS c), v.readF c)) := by unfold Hid SV.read; rw [if_neg hnil, hcc, if_pos hin]; rfl
      have HFD : Hid (∀ W : World, Below w.heap.size w W → Calls Tryz.prog 45 #[.pointer (some ⟨sp, 0, none⟩), .slice (some ⟨g, o, none⟩) l.length cap, .int .i64 c] W fun e w' => e = .returned (.int .i64 (s.found l c)) ∧ Below W.heap.size W w') := fun W hb => rfound_any l c W (h.below hb) (hl.below hb) hg h5
      have HNO : Hid (∀ W : World, Calls Tryz.prog 38 #[.int .i64 64] W fun e w' => e = .returned (.string (bytesOf zeros64)) ∧ Below W.heap.size W w') := fun W => noughtsN_any 64 W (by decide)
      rw [hth, decide_eq_true hin] at HTH
      rcases SV.found_cases s c l 0 with ⟨f1, f2⟩ | ⟨j, n, u, j1, f1, f3, f4, f5, f6, f7⟩
      · have HF1 : Hid (s.found l c = -1) := f1
        rw [f2] at HRE
        rw [HF1.out] at HFD
        rw [HRE.out]
        clear h hl hg hcc HRE HF1 hi hok hf hvc hth hc1 hc1' hl0
        generalize l.length = q at hn0 hn1 hn2 HFD ⊢
        generalize bytesOf zeros64 = z at HNO ⊢
        generalize (xs x).p = xp at HTH d2 hc2
        go_enter Tryz.func43, Tryz.ntmps43
        go_wp2
        go_region_held3 (fun W => Below w.heap.size w W ∧ W.cell? ⟨g, o, none⟩ = some (.int .i64 (x : Int)) ∧ W.cell? ⟨sp, x, none⟩ = some (.pointer (some ⟨xp, 0, none⟩)))
          (first | (exact ⟨HDR.out, d1, d2⟩) | assumption)
          (first
            | (go_at_call 85; refine (HTH.out _ (by assumption : Below w.heap.size w _ ∧ _).1).mono ?_; rintro e w' ⟨rfl, rfl⟩))
        go_wp2_with fail
        refine (HFD.out _ HDR.out).mono ?_
        rintro e w2 ⟨rfl, hb2⟩
        have HB2 := toHid (HDR.out.trans (hb2.mono HDR.out.size))
        clear hb2
        go_wp2_with fail
        refine (HNO.out _).mono ?_
        rintro e w3 ⟨rfl, hb3⟩
        have HB3 := toHid (HB2.out.trans (hb3.mono HB2.out.size))
        clear hb3
        go_wp2
        go_ret2
        exact ⟨rfl, HB3.out⟩
      · have HF1 : Hid (s.found l c = (j : Int)) := by unfold Hid SV.found; rw [f1]; congr 1; omega
        rw [f7] at HRE
        simp only at HRE
        rw [HF1.out] at HFD
        rw [HRE.out]
        have HNJ : Hid (∀ W : World, Below w.heap.size w W → ∃ (y : Nat), y < 5 ∧ W.cell? ⟨g, o + j, none⟩ = some (.int .i64 (y : Int)) ∧ W.cell? ⟨sp, y, none⟩ = some (.pointer (some ⟨(xs y).p, 0, none⟩)) ∧ s.file (y : Int) = some u) := fun W hb => by
          obtain ⟨g', o', y, u', h1, h2, h3, h4, _, h6, h7, _, _⟩ := (h.below hb).numAt (hl.below hb) hg j1
          cases h1
          rw [f3] at h2
          rw [h2] at f5
          rw [f5] at h4
          cases h4
          exact ⟨y, h3, h6, h7, f5⟩
        obtain ⟨y, y5, hy1, hy2, hyf⟩ := HNJ.out w (Below.refl _ _)
        have HIM : Hid (∀ W : World, Below w.heap.size w W → Calls Tryz.prog 107 #[.pointer (some ⟨(xs y).p, 0, none⟩), .int .i64 c] W fun e w' => e = .returned (.tuple #[.string (bytesOf (u.readS c)), .int .i64 (u.readF c)]) ∧ Below W.heap.size W w') := fun W hb => by
          have := (h.below hb).imgF hyf
          exact read_rim c W this.1 this.2
        have hgl : g < w.heap.size := World.block_lt_of_cell? _ _ hy1
        have hsl : sp < w.heap.size := World.block_lt_of_cell? _ _ hy2
        have k0 : (0 : Int) ≤ (j : Int) := by omega
        have k1 : (j : Int) < (l.length : Int) := by omega
        have k2 : ((j : Int)).toNat = j := by omega
        have k5 : decide ((j : Int) < 0) = false := by simp
        have k6 : (0 : Int) ≤ (y : Int) := by omega
        have k7 : (y : Int) < 5 := by omega
        generalize bytesOf (u.readS c) = z at HIM ⊢
        generalize u.readF c = er at HIM ⊢
        clear h hl hg hcc HRE HF1 hi hok hf hvc hth hc1 hc1' hl0 f1 f3 f4 f5 f6 f7 hyf HNJ HNO
        generalize l.length = q at hn0 hn1 hn2 HFD k1 ⊢
        generalize (xs y).p = yp at HIM hy2
        generalize (xs x).p = xp at HTH d2 hc2
        go_enter Tryz.func43, Tryz.ntmps43
        go_wp2
        go_region_held3 (fun W => Below w.heap.size w W ∧ W.cell? ⟨g, o, none⟩ = some (.int .i64 (x : Int)) ∧ W.cell? ⟨sp, x, none⟩ = some (.pointer (some ⟨xp, 0, none⟩)))
          (first | (exact ⟨HDR.out, d1, d2⟩) | assumption)
          (first
            | (go_at_call 85; refine (HTH.out _ (by assumption : Below w.heap.size w _ ∧ _).1).mono ?_; rintro e w' ⟨rfl, rfl⟩))
        go_wp2_with fail
        refine (HFD.out _ HDR.out).mono ?_
        rintro e w2 ⟨rfl, hb2⟩
        have HB2 := toHid (HDR.out.trans (hb2.mono HDR.out.size))
        clear hb2
        have e1 : w2.cell? ⟨g, o + j, none⟩ = some (.int .i64 (y : Int)) := (HB2.out.cell (p := ⟨g, o + j, none⟩) hgl).trans hy1
        have e2 : w2.cell? ⟨sp, y, none⟩ = some (.pointer (some ⟨yp, 0, none⟩)) := (HB2.out.cell (p := ⟨sp, y, none⟩) hsl).trans hy2
        have e3 : w2.drew.cell? ⟨g, o + j, none⟩ = some (.int .i64 (y : Int)) := e1
        have e4 : w2.drew.cell? ⟨sp, y, none⟩ = some (.pointer (some ⟨yp, 0, none⟩)) := e2
        have HBD : Hid (Below w.heap.size w w2.drew) := HB2.out.drew
        go_wp2
        go_region_held3 (fun W => W.cell? ⟨g, o + j, none⟩ = some (.int .i64 (y : Int)) ∧ W.cell? ⟨sp, y, none⟩ = some (.pointer (some ⟨yp, 0, none⟩)))
          (first | (exact ⟨e3, e4⟩) | assumption)
          (first
            | (go_at_call 107; refine (HIM.out _ HBD.out).mono ?_; rintro e w3 ⟨rfl, hb3⟩; have hS3 : w3.cell? ⟨g, o + j, none⟩ = some (.int .i64 (y : Int)) ∧ w3.cell? ⟨sp, y, none⟩ = some (.pointer (some ⟨yp, 0, none⟩)) := ⟨(hb3.cell (World.block_lt_of_cell? _ _ e3)).trans e3, (hb3.cell (World.block_lt_of_cell? _ _ e4)).trans e4⟩))
        have HB3 := toHid (HBD.out.trans (hb3.mono HBD.out.size))
        clear hb3 hS3
        go_wp2
        go_ret2
        exact ⟨rfl, HB3.out⟩
    · have e1 : s.read l c = (bytesOf [], 1) := by unfold SV.read; rw [if_neg hnil, hcc, if_neg hin]
      rw [e1]
      rw [hth, decide_eq_false hin] at HTH
      clear h hl hg hcc e1 hi hok hf hvc hth hc1 hl0
      generalize l.length = q at hn0 hn1 hn2 ⊢
      generalize (xs x).p = xp at HTH d2 hc2
      go_enter Tryz.func43, Tryz.ntmps43
      go_wp2
      go_region_held3 (fun W => Below w.heap.size w W ∧ W.cell? ⟨g, o, none⟩ = some (.int .i64 (x : Int)) ∧ W.cell? ⟨sp, x, none⟩ = some (.pointer (some ⟨xp, 0, none⟩)))
        (first | (exact ⟨HDR.out, d1, d2⟩) | assumption)
        (first
          | (go_at_call 85; refine (HTH.out _ (by assumption : Below w.heap.size w _ ∧ _).1).mono ?_; rintro e w' ⟨rfl, rfl⟩))
      go_wp2
      go_ret2
      exact ⟨rfl, HDR.out⟩

set_option maxRecDepth 100000 in
set_option maxHeartbeats 2000000 in
theorem rwithin_any {sp m cap : Nat} {xs : Nat → Qh} {s : SV} {a : Option Addr} {C : Int} (l : List Int) (fr n : Int) (w : World) (h : IsRshelf w sp xs s m) (hl : Nums w a l) (hg : s.good C l) (hC : 0 ≤ C ∧ C ≤ 1000) (hfr : -9223372036854775808 ≤ fr ∧ fr ≤ 9223372036854775807) :
    Calls Tryz.prog 98 #[.pointer (some ⟨sp, 0, none⟩), .slice a l.length cap, .int .i64 fr, .int .i64 n] w fun e w' => e = .returned (.int .i64 (s.chkF l fr n)) ∧ Below w.heap.size w w' := by
  by_cases hnil : l = []
  · subst hnil
    have e1 : s.chkF [] fr n = 4 := rfl
    rw [e1]
    clear h hl hg e1
    go_enter Tryz.func98, Tryz.ntmps98
    go_wp2
    go_ret
    exact ⟨rfl, Below.refl _ _⟩
  · have hcc : s.clusters l = C := hg.clusters hnil
    have hl0 : 0 < l.length := List.length_pos_iff.2 hnil
    have hn0 : ((l.length : Int) == 0) = false := by simp; omega
    have hn1 : (0 : Int) < (l.length : Int) := by omega
    have hn2 : 0 < l.length := hl0
    obtain ⟨g, o, x, v, rfl, hx, x5, hf, hvc, hc1, hc2, hi, hok⟩ := h.numAt hl hg hl0
    have hc1' : w.cell? ⟨g, o, none⟩ = some (.int .i64 (x : Int)) := hc1
    have c1 := hi.cells.2.1
    rw [hvc] at c1
    have HF : Hid (s.chkF l fr n = if fr < 0 ∨ n < 0 ∨ 4 * C - fr < n then 1 else 0) := by unfold Hid SV.chkF; rw [if_neg hnil, hcc]
    generalize s.chkF l fr n = F at HF ⊢
    have k1 : IntKind.i64.wrap (4 * C) = 4 * C := IntWalk.i64_in _ (by omega)
    have k3 : (0 : Int) ≤ (x : Int) := by omega
    have k4 : (x : Int) < 5 := by omega
    clear h hl hg hcc hi hok hf hvc hc1 hl0
    generalize l.length = q at hn0 hn1 hn2 ⊢
    generalize (xs x).p = xp at c1 hc2
    have HDR : Hid (Below w.heap.size w w.drew) := (Below.refl _ _).drew
    by_cases h0 : fr < 0
    · have g0 : decide (fr < 0) = true := decide_eq_true h0
      have HF1 : Hid (F = 1) := by unfold Hid; rw [HF.out, if_pos (.inl h0)]
      clear HF
      go_enter Tryz.func98, Tryz.ntmps98
      go_wp2
      go_region
      go_wp2
      go_ret
      exact ⟨ret_i HF1.out.symm, HDR.out⟩
    · have g0 : decide (fr < 0) = false := decide_eq_false h0
      by_cases h1 : n < 0
      · have g1 : decide (n < 0) = true := decide_eq_true h1
        have HF1 : Hid (F = 1) := by unfold Hid; rw [HF.out, if_pos (.inr (.inl h1))]
        clear HF
        go_enter Tryz.func98, Tryz.ntmps98
        go_wp2
        go_region
        go_wp2
        go_ret
        exact ⟨ret_i HF1.out.symm, HDR.out⟩
      · have g1 : decide (n < 0) = false := decide_eq_false h1
        have k2 : IntKind.i64.wrap (4 * C - fr) = 4 * C - fr := IntWalk.i64_in _ (by omega)
        by_cases h3 : 4 * C < fr
        · have g3 : decide (4 * C < fr) = true := decide_eq_true h3
          have HF1 : Hid (F = 1) := by unfold Hid; rw [HF.out, if_pos (.inr (.inr (by omega)))]
          clear HF
          go_enter Tryz.func98, Tryz.ntmps98
          go_wp2
          go_region
          go_wp2
          go_ret
          exact ⟨ret_i HF1.out.symm, HDR.out⟩
        · have g3 : decide (4 * C < fr) = false := decide_eq_false h3
          by_cases h2 : 4 * C - fr < n
          · have g2 : decide (4 * C - fr < n) = true := decide_eq_true h2
            have HF1 : Hid (F = 1) := by unfold Hid; rw [HF.out, if_pos (.inr (.inr (by omega)))]
            clear HF
            go_enter Tryz.func98, Tryz.ntmps98
            go_wp2
            go_region
            go_wp2
            go_ret
            exact ⟨ret_i HF1.out.symm, HDR.out⟩
          · have g2 : decide (4 * C - fr < n) = false := decide_eq_false h2
            have HF1 : Hid (F = 0) := by unfold Hid; rw [HF.out, if_neg (by omega)]
            clear HF
            go_enter Tryz.func98, Tryz.ntmps98
            go_wp2
            go_region
            go_wp2
            go_ret
            exact ⟨ret_i HF1.out.symm, HDR.out⟩
end Go.Proofs.YtjegaljdindfaabGreatDoor

namespace Go.Proofs.YtjegaljdindfaabGreatDoor
open Go.RowKit Go.Maps
attribute [local go_sem ↓] Go.wp_at_zero Go.wp_at_succ

def ptV (p : Pt) : List Value := [.int .i64 (p.c : Int), .int .i64 (p.f : Int), .int .i64 (p.n : Int), .int .i64 (p.a : Int)]
def ptsV (l : List Pt) : List Value := (l.map ptV).flatten

theorem ptsV_len (l : List Pt) : (ptsV l).length = l.length * 4 := by
  induction l with
  | nil => rfl
  | cons p l ih =>
    have : ptsV (p :: l) = ptV p ++ ptsV l := rfl
    rw [this, List.length_append, ih]
    show 4 + l.length * 4 = (l.length + 1) * 4
    omega

theorem ptsV_snoc (l : List Pt) (p : Pt) : ptsV (l ++ [p]) = ptsV l ++ ptV p := by simp [ptsV]

theorem info_part : (Tryz.prog.info? 156).map (fun i => (i.zero, i.size, i.bytes)) = some (some (.agg #[.int .i64 0, .int .i64 0, .int .i64 0, .int .i64 0]), 4, 32) := by kernel_rfl

structure PartsAt (w : World) (fr n : Nat) (l : List Pt) (k : Nat) (a : Option Addr) (cap : Nat) (wr : World) : Prop where
  own : wr.ownsRow w.heap.size 156 4 (.slice a l.length cap) l.length (ptsV l)
  go : l ++ ptsFrom fr n k = ptsFrom fr n 0
  le : k ≤ n
  len : l.length ≤ k
  bel : Below w.heap.size w wr

set_option maxRecDepth 100000 in
set_option maxHeartbeats 2000000 in
theorem parts_any (fr n : Nat) (w : World) (hfn : fr + n ≤ 1000) :
    Calls Tryz.prog 95 #[.int .i64 (fr : Int), .int .i64 (n : Int)] w fun e w' =>
      ∃ (a : Option Addr) (cap : Nat), e = .returned (.slice a (ptsFrom fr n 0).length cap) ∧ w'.ownsRow w.heap.size 156 4 (.slice a (ptsFrom fr n 0).length cap) (ptsFrom fr n 0).length (ptsV (ptsFrom fr n 0)) ∧ Below w.heap.size w w' := by
  obtain ⟨i1, hi1, hx0, hx1, hx2⟩ := info_parts info_part
  have HST : Hid (PartsAt w fr n [] 0 none 0 w) := ⟨World.ownsRow_nil _ _ _ _, rfl, Nat.zero_le _, Nat.zero_le _, Below.refl _ _⟩
  have HNI : Hid (∀ k, ¬ k < n → ptsFrom fr n k = []) := fun k hk => ptsFrom_nil hk
  have HCO : Hid (∀ k, k < n → ptsFrom fr n k = mkPt fr n k :: ptsFrom fr n (k + (mkPt fr n k).n)) := fun k hk => ptsFrom_cons hk
  have HMK : Hid (∀ k, k < n → 1 ≤ (mkPt fr n k).n ∧ (mkPt fr n k).f + (mkPt fr n k).n ≤ 4 ∧ k + (mkPt fr n k).n ≤ n) := fun k hk => mkPt_n hk
  go_enter Tryz.func95, Tryz.ntmps95
  go_wp2
  go_loopw [5, 6] (fun u i wr => ∃ (l : List Pt) (k : Nat) (a : Option Addr) (cap : Nat), u = .slice a l.length cap ∧ i = .int .i64 (k : Int) ∧ PartsAt w fr n l k a cap wr) (fun _ i _ => n - (intOf i).toNat)
  case atStart => exact ⟨[], 0, none, 0, rfl, rfl, HST.out⟩
  case round =>
    obtain ⟨l, k, a, cap, rfl, rfl, hw⟩ := hrel
    have hkn := hw.le
    have hlk := hw.len
    by_cases hlt : k < n
    · have HGO : Hid ((l ++ [mkPt fr n k]) ++ ptsFrom fr n (k + (mkPt fr n k).n) = ptsFrom fr n 0) := by
        unfold Hid
        rw [← hw.go, HCO.out k hlt]; simp
      have HOW := toHid hw.own
      have HB := toHid hw.bel
      have HM : Hid (l.length + 1 ≤ maxLen) := by unfold Hid maxLen; omega
      obtain ⟨m1, m2, m3⟩ := HMK.out k hlt
      have HPV : Hid (ptV (mkPt fr n k) = [.int .i64 (((fr : Int) + (k : Int)) / 4), .int .i64 (((fr : Int) + (k : Int)) % 4), .int .i64 (min (4 - ((fr : Int) + (k : Int)) % 4) ((n : Int) - (k : Int))), .int .i64 (k : Int)]) := by
        unfold Hid ptV
        have e1 : ((mkPt fr n k).c : Int) = ((fr : Int) + (k : Int)) / 4 := by show (((fr + k) / 4 : Nat) : Int) = _; omega
        have e2 : ((mkPt fr n k).f : Int) = ((fr : Int) + (k : Int)) % 4 := by show (((fr + k) % 4 : Nat) : Int) = _; omega
        have e3 : ((mkPt fr n k).n : Int) = min (4 - ((fr : Int) + (k : Int)) % 4) ((n : Int) - (k : Int)) := by show ((min (4 - (fr + k) % 4) (n - k) : Nat) : Int) = _; omega
        rw [e1, e2, e3]; rfl
      have HMN : Hid (min (4 - ((fr : Int) + (k : Int)) % 4) ((n : Int) - (k : Int)) = ((mkPt fr n k).n : Int)) := by
        unfold Hid
        show _ = ((min (4 - (fr + k) % 4) (n - k) : Nat) : Int)
        omega
      clear hw HCO HMK HNI HST
      generalize hp : mkPt fr n k = p at HGO m1 m2 m3 HPV HMN
      clear hp
      have hat0 : (0 : Int) ≤ (fr : Int) + (k : Int) := by omega
      have k1 : IntKind.i64.wrap ((fr : Int) + (k : Int)) = (fr : Int) + (k : Int) := IntWalk.i64_in _ (by omega)
      have k2 : (0 : Int) ≤ ((fr : Int) + (k : Int)) % 4 := by omega
      have k3 : ((fr : Int) + (k : Int)) % 4 < 4 := by omega
      obtain ⟨C, hC⟩ : ∃ C : Array Value, C = #[.int .i64 (((fr : Int) + (k : Int)) / 4), .int .i64 (((fr : Int) + (k : Int)) % 4), .int .i64 (min (4 - ((fr : Int) + (k : Int)) % 4) ((n : Int) - (k : Int))), .int .i64 (k : Int)] := ⟨_, rfl⟩
      have HNP : Hid (C.toList = ptV p) := by unfold Hid; rw [HPV.out, hC]
      have HO1 : Hid (((wr.alloc (.cells C 156)).alloc (.cells C 156)).ownsRow w.heap.size 156 4 (.slice a l.length cap) l.length (ptsV l)) := (HOW.out.alloc _).alloc _
      have HZ1 : Hid (((wr.alloc (.cells C 156)).alloc (.cells C 156)).heap.size = wr.heap.size + 2) := by unfold Hid; simp
      have HB1 : Hid (w.heap.size ≤ ((wr.alloc (.cells C 156)).alloc (.cells C 156)).heap.size) := by unfold Hid; have := HB.out.size; rw [HZ1.out]; omega
      have hx7 : ((wr.alloc (.cells C 156)).alloc (.cells C 156)).heap[wr.heap.size + 1]? = some (.cells C 156 (0, 0)) := by
        have := heap_alloc_new (wr.alloc (.cells C 156)) (.cells C 156)
        rw [show (wr.alloc (.cells C 156)).heap.size = wr.heap.size + 1 by simp] at this; exact this
      have HX5 : Hid (((wr.alloc (.cells C 156)).alloc (.cells C 156)).heap[wr.heap.size]? = some (.cells C 156 (0, 0))) := by unfold Hid; rw [Below.heap_alloc _ _ _ (by simp), heap_alloc_new]
      have HN1 : Hid (∀ j y, ([.int .i64 (((fr : Int) + (k : Int)) / 4), .int .i64 (((fr : Int) + (k : Int)) % 4), .int .i64 (min (4 - ((fr : Int) + (k : Int)) % 4) ((n : Int) - (k : Int))), .int .i64 (k : Int)] : List Value)[j]? = some y → ((wr.alloc (.cells C 156)).alloc (.cells C 156)).cell? ((⟨wr.heap.size + 1, 0, none⟩ : Addr).add j) = some y) := by
        have := World.news_of_block hx7
        rw [hC] at this ⊢
        exact this
      have HBA : Hid (Below w.heap.size w ((wr.alloc (.cells C 156)).alloc (.cells C 156))) := (HB.out.alloc HB.out.size _).alloc (by have := HB.out.size; simp; omega) _
      have HNE : Hid (some wr.heap.size ≠ (Value.slice a l.length cap).ownBlock) := fun e => by have := (HOW.out.lt _ e.symm).2; omega
      rw [hC] at HO1 HZ1 HB1 HX5 HN1 HBA
      clear hx7 hC
      go_wp2_with (at_builtin; refine wpList_append_lies _ (by rfl) _ _ 153 (by rfl) w.heap.size 156 i1 (.agg #[.int .i64 0, .int .i64 0, .int .i64 0, .int .i64 0]) 4 32 Tryz.underlying153 hi1 hx0 hx1 hx2 rfl (by decide) (.slice a l.length cap) l.length (ptsV l) (by rfl) HO1.out ⟨wr.heap.size + 1, 0, none⟩ 1 1 [.int .i64 (((fr : Int) + (k : Int)) / 4), .int .i64 (((fr : Int) + (k : Int)) % 4), .int .i64 (min (4 - ((fr : Int) + (k : Int)) % 4) ((n : Int) - (k : Int))), .int .i64 (k : Int)] (by rfl) (by rfl) HN1.out (fun u hu => by simp at hu; rcases hu with rfl | rfl | rfl | rfl <;> rfl) (by decide) HM.out (by omega) HB1.out (wr.heap.size + 2) HZ1.out ?_
                   intro g kc w1 hown hgrow hat hlt1
                   have HBF : Hid (Below w.heap.size w w1) := HBA.out.grown hgrow HB1.out (fun r e => (HO1.out.lt r e).1)
                   have HOF := toHid hown
                   have hbx : w1.heap[wr.heap.size]? = _ := (hgrow.block _ (by rw [HZ1.out]; omega) HNE.out).trans HX5.out
                   have d2 : w1.cell? ⟨wr.heap.size, 2, none⟩ = some (.int .i64 (min (4 - ((fr : Int) + (k : Int)) % 4) ((n : Int) - (k : Int)))) := by rw [cell_of_row _ _ _ _ _ _ hbx]; rfl
                   clear hown hgrow hat hlt1 hbx)
      have HWK : Hid (PartsAt w fr n (l ++ [p]) (k + p.n) (some ⟨g, 0, none⟩) kc w1) := by
        have e1 : (l ++ [p]).length = l.length + 1 := by simp
        refine ⟨?_, HGO.out, m3, by rw [e1]; omega, HBF.out⟩
        rw [e1, ptsV_snoc, HPV.out]; exact HOF.out
      clear d2
      go_roundw
      case rel =>
        have fin : ∃ (l1 : List Pt) (k1 : Nat) (a1 : Option Addr) (cap1 : Nat), Value.slice (some ⟨g, 0, none⟩) (l.length + 1) kc = .slice a1 l1.length cap1 ∧ Value.int .i64 ((k : Int) + min (4 - ((fr : Int) + (k : Int)) % 4) ((n : Int) - (k : Int))) = .int .i64 (k1 : Int) ∧ PartsAt w fr n l1 k1 a1 cap1 w1 := ⟨l ++ [p], k + p.n, some ⟨g, 0, none⟩, kc, by simp, by rw [HMN.out]; go_num, HWK.out⟩
        first | exact fin | ((repeat apply Exists.intro); exact ⟨fin, rfl⟩)
      case measure =>
        have := HMN.out
        simp [intOf]
        omega
    · have hke : k = n := by omega
      subst hke
      have HR : Hid (l = ptsFrom fr k 0) := by unfold Hid; rw [← hw.go, HNI.out k hlt, List.append_nil]
      have HOW := toHid hw.own
      have HB := toHid hw.bel
      clear hw HCO HMK HNI HST
      go_wp2
      go_ret
      exact ⟨a, cap, by rw [← HR.out]; rfl, by rw [← HR.out]; exact HOW.out, HB.out⟩
end Go.Proofs.YtjegaljdindfaabGreatDoor
