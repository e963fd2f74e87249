/-
A new job's checks, and what it wants at first (program).
-/
import Derived.Test.YtjegaljdindfaabGreatDoorQJobNew
import Derived.Test.YtjegaljdindfaabGreatDoorQJobP1
import Derived.BigQuiet
namespace Go.Proofs.YtjegaljdindfaabGreatDoor
open Go.RowKit Go.Maps
attribute [local go_sem ↓] Go.wp_at_zero Go.wp_at_succ

set_option maxRecDepth 100000 in
set_option maxHeartbeats 2000000 in
theorem checkTarget_any {sp m cap : Nat} {xs : Nat → Ih} {s : SV} {a : Option Addr} {C : Int} (l : List Int) (f : Int) (w : World) (h : IsShelf w sp xs s m) (hl : Nums w a l) (hg : s.good C l) (h0 : l ≠ []) (h5 : l.length ≤ 100) :
    Calls Tryz.prog 119 #[.pointer (some ⟨sp, 0, none⟩), .slice a l.length cap, .int .i64 f] w fun e w' => e = .returned (erV (targetF s l f)) ∧ Below w.heap.size w w' := by
  have HFI := toHid (file_any f w h)
  unfold targetF
  cases hf : s.file f with
  | none =>
    rw [hf] at HFI
    unfold ptrO at HFI
    simp only
    rw [erV_some (by decide)]
    clear h hl hg hf
    generalize l.length = ln
    go_enter Tryz.func119, Tryz.ntmps119
    go_wp2_with fail
    refine HFI.out.mono ?_
    rintro e w' ⟨rfl, hw⟩
    have hw' := hw.symm
    subst hw'
    clear hw
    go_wp2
    go_ret
    exact ⟨rfl, Below.refl _ _⟩
  | some v =>
    rw [hf] at HFI
    unfold ptrO at HFI
    simp only
    have hcl := hg.clusters h0
    obtain ⟨n, r, hnr⟩ : ∃ n r, l = n :: r := by
      cases l with
      | nil => exact absurd rfl h0
      | cons n r => exact ⟨n, r, rfl⟩
    obtain ⟨u, hu, huc⟩ := hg n (by rw [hnr]; exact List.mem_cons_self)
    obtain ⟨g, o, ha, hcn⟩ := hl 0 (by rw [hnr]; simp)
    subst ha
    rw [hnr, Nat.add_zero] at hcn
    have hcn' : w.cell? ⟨g, o, none⟩ = some (.int .i64 n) := hcn
    have HHD : Hid (∀ W : World, Below w.heap.size w W → Calls Tryz.prog 33 #[.pointer (some ⟨(xs f.toNat).p, 0, none⟩)] W fun e w' => e = .returned (.agg #[.int .i64 v.h.c, .int .i64 v.h.p, .int .i64 v.h.b]) ∧ Below W.heap.size W w') := fun W hb => head_img W ((h.below hb).imgF hf).1
    have HH2 : Hid (∀ W : World, Below w.heap.size w W → Calls Tryz.prog 33 #[.pointer (some ⟨(xs n.toNat).p, 0, none⟩)] W fun e w' => e = .returned (.agg #[.int .i64 u.h.c, .int .i64 u.h.p, .int .i64 u.h.b]) ∧ Below W.heap.size W w') := fun W hb => head_img W ((h.below hb).imgF hu).1
    have HCO : Hid (∀ W : World, Below w.heap.size w W → Calls Tryz.prog 120 #[.slice (some ⟨g, o, none⟩) l.length cap, .int .i64 f] W fun e w' => e = .returned (.bool (l.contains f)) ∧ w' = W) := fun W hb => contains_any l f W (hl.below hb) rfl h5
    obtain ⟨n0, n5, _⟩ := SV.file_of hu
    obtain ⟨nk, rfl⟩ : ∃ nk : Nat, n = (nk : Int) := ⟨n.toNat, by omega⟩
    have hnk : ((nk : Int)).toNat = nk := by omega
    have HCE : Hid (∀ W : World, Below w.heap.size w W → W.cell? ⟨g, o, none⟩ = some (.int .i64 (nk : Int)) ∧ W.cell? ⟨sp, nk, none⟩ = some (.pointer (some ⟨(xs nk).p, 0, none⟩))) := fun W hb => ⟨(hb.cell (p := ⟨g, o, none⟩) (World.block_lt_of_cell? _ _ hcn')).trans hcn', by have := (h.below hb).cellF hu; rw [hnk] at this; exact this⟩
    have hln : 0 < l.length := by rw [hnr]; simp
    have hlen : (0 : Int) < (l.length : Int) := by omega
    rw [hnk] at HH2
    rw [hcl, ← huc]
    have f1 := field_c u.h.c u.h.p u.h.b
    clear h hl hg hf hu hcn hcn' hcl huc hnr h0 hnk
    generalize (xs f.toNat).p = xf at HFI HHD
    generalize (xs nk).p = xn at HH2 HCE
    generalize l.contains f = cb at HCO ⊢
    generalize l.length = ln at HCO hln hlen h5 ⊢
    generalize v.h.c = vc at HHD ⊢
    generalize v.h.p = vp at HHD
    generalize v.h.b = vb at HHD ⊢
    generalize u.h.c = uc at HH2 f1 ⊢
    generalize u.h.p = up at HH2 f1
    generalize u.h.b = ub at HH2 f1
    have k0 : (0 : Int) ≤ (nk : Int) := by omega
    have k5 : (nk : Int) < 5 := by omega
    cases cb with
    | true =>
      rw [if_pos (.inl rfl), erV_some (by decide)]
      go_enter Tryz.func119, Tryz.ntmps119
      go_wp2_with fail
      refine HFI.out.mono ?_
      rintro e w' ⟨rfl, hw⟩
      have hw' := hw.symm
      subst hw'
      clear hw
      go_wp2_with fail
      refine (HHD.out _ (Below.refl _ _)).mono ?_
      rintro e w1 ⟨rfl, hb1⟩
      have HBA : Hid (Below w.heap.size w (w1.alloc (.cells #[.int .i64 vc, .int .i64 vp, .int .i64 vb] 60))) := hb1.alloc hb1.size _
      have b0 : (w1.alloc (.cells #[.int .i64 vc, .int .i64 vp, .int .i64 vb] 60)).cell? ⟨w1.heap.size, 0, none⟩ = some (.int .i64 vc) := by rw [cell_of_row _ _ _ _ _ _ (heap_alloc_new w1 _)]; rfl
      have b2 : (w1.alloc (.cells #[.int .i64 vc, .int .i64 vp, .int .i64 vb] 60)).cell? ⟨w1.heap.size, 2, none⟩ = some (.int .i64 vb) := by rw [cell_of_row _ _ _ _ _ _ (heap_alloc_new w1 _)]; rfl
      clear hb1
      go_wp2_with fail
      generalize w1.alloc (.cells #[.int .i64 vc, .int .i64 vp, .int .i64 vb] 60) = W1 at HBA b0 b2 ⊢
      generalize w1.heap.size = N1 at b0 b2 ⊢
      go_quiet (first
        | (go_at_call 120; refine Calls.quiet_of_same (HCO.out _ (below_drewN HBA.out _))))
      go_wp2
      go_ret
      exact ⟨rfl, below_drewN HBA.out _⟩
    | false =>
      by_cases hb : vb = -1
      · have gb : (vb != -1) = false := by simpa using hb
        by_cases hc : vc = uc
        · have gc : (vc != uc) = false := by simpa using hc
          rw [if_neg (by rintro (e | e | e); cases e; exact e hb; exact e hc), erV_0]
          clear hb hc
          go_enter Tryz.func119, Tryz.ntmps119
          go_wp2_with fail
          refine HFI.out.mono ?_
          rintro e w' ⟨rfl, hw⟩
          have hw' := hw.symm
          subst hw'
          clear hw
          go_wp2_with fail
          refine (HHD.out _ (Below.refl _ _)).mono ?_
          rintro e w1 ⟨rfl, hb1⟩
          have HBA : Hid (Below w.heap.size w (w1.alloc (.cells #[.int .i64 vc, .int .i64 vp, .int .i64 vb] 60))) := hb1.alloc hb1.size _
          have b0 : (w1.alloc (.cells #[.int .i64 vc, .int .i64 vp, .int .i64 vb] 60)).cell? ⟨w1.heap.size, 0, none⟩ = some (.int .i64 vc) := by rw [cell_of_row _ _ _ _ _ _ (heap_alloc_new w1 _)]; rfl
          have b2 : (w1.alloc (.cells #[.int .i64 vc, .int .i64 vp, .int .i64 vb] 60)).cell? ⟨w1.heap.size, 2, none⟩ = some (.int .i64 vb) := by rw [cell_of_row _ _ _ _ _ _ (heap_alloc_new w1 _)]; rfl
          clear hb1
          go_wp2_with fail
          generalize w1.alloc (.cells #[.int .i64 vc, .int .i64 vp, .int .i64 vb] 60) = W1 at HBA b0 b2 ⊢
          generalize w1.heap.size = N1 at b0 b2 ⊢
          obtain ⟨s1, s2⟩ := HCE.out _ HBA.out.drew
          have HBD : Hid (Below w.heap.size w W1.drew) := HBA.out.drew
          have t0 : W1.drew.cell? ⟨N1, 0, none⟩ = some (.int .i64 vc) := b0
          have t2 : W1.drew.cell? ⟨N1, 2, none⟩ = some (.int .i64 vb) := b2
          go_region_held3 (fun W => W.cell? ⟨N1, 0, none⟩ = some (.int .i64 vc) ∧ W.cell? ⟨N1, 2, none⟩ = some (.int .i64 vb) ∧ W.cell? ⟨g, o, none⟩ = some (.int .i64 (nk : Int)) ∧ W.cell? ⟨sp, nk, none⟩ = some (.pointer (some ⟨xn, 0, none⟩)))
            (first | (exact ⟨t0, t2, s1, s2⟩) | assumption)
            (first
              | (go_at_call 120; refine (HCO.out _ HBD.out).mono ?_; rintro e w' ⟨rfl, rfl⟩)
              | (go_at_call 33; refine (HH2.out _ HBD.out).mono ?_; rintro e w3 ⟨rfl, hb3⟩; have HB3 := toHid (HBD.out.trans (hb3.mono HBD.out.size)); have hS3 : w3.cell? ⟨N1, 0, none⟩ = some (.int .i64 vc) ∧ w3.cell? ⟨N1, 2, none⟩ = some (.int .i64 vb) ∧ w3.cell? ⟨g, o, none⟩ = some (.int .i64 (nk : Int)) ∧ w3.cell? ⟨sp, nk, none⟩ = some (.pointer (some ⟨xn, 0, none⟩)) := ⟨(hb3.cell (p := ⟨N1, 0, none⟩) (World.block_lt_of_cell? _ _ t0)).trans t0, (hb3.cell (p := ⟨N1, 2, none⟩) (World.block_lt_of_cell? _ _ t2)).trans t2, (HCE.out _ HB3.out).1, (HCE.out _ HB3.out).2⟩; clear hb3))
          clear hS3
          go_wp2
          go_ret
          exact ⟨rfl, HB3.out⟩
        · have gc : (vc != uc) = true := by simpa using hc
          rw [if_pos (.inr (.inr hc)), erV_some (by decide)]
          clear hb hc
          go_enter Tryz.func119, Tryz.ntmps119
          go_wp2_with fail
          refine HFI.out.mono ?_
          rintro e w' ⟨rfl, hw⟩
          have hw' := hw.symm
          subst hw'
          clear hw
          go_wp2_with fail
          refine (HHD.out _ (Below.refl _ _)).mono ?_
          rintro e w1 ⟨rfl, hb1⟩
          have HBA : Hid (Below w.heap.size w (w1.alloc (.cells #[.int .i64 vc, .int .i64 vp, .int .i64 vb] 60))) := hb1.alloc hb1.size _
          have b0 : (w1.alloc (.cells #[.int .i64 vc, .int .i64 vp, .int .i64 vb] 60)).cell? ⟨w1.heap.size, 0, none⟩ = some (.int .i64 vc) := by rw [cell_of_row _ _ _ _ _ _ (heap_alloc_new w1 _)]; rfl
          have b2 : (w1.alloc (.cells #[.int .i64 vc, .int .i64 vp, .int .i64 vb] 60)).cell? ⟨w1.heap.size, 2, none⟩ = some (.int .i64 vb) := by rw [cell_of_row _ _ _ _ _ _ (heap_alloc_new w1 _)]; rfl
          clear hb1
          go_wp2_with fail
          generalize w1.alloc (.cells #[.int .i64 vc, .int .i64 vp, .int .i64 vb] 60) = W1 at HBA b0 b2 ⊢
          generalize w1.heap.size = N1 at b0 b2 ⊢
          obtain ⟨s1, s2⟩ := HCE.out _ HBA.out.drew
          have HBD : Hid (Below w.heap.size w W1.drew) := HBA.out.drew
          have t0 : W1.drew.cell? ⟨N1, 0, none⟩ = some (.int .i64 vc) := b0
          have t2 : W1.drew.cell? ⟨N1, 2, none⟩ = some (.int .i64 vb) := b2
          go_region_held3 (fun W => W.cell? ⟨N1, 0, none⟩ = some (.int .i64 vc) ∧ W.cell? ⟨N1, 2, none⟩ = some (.int .i64 vb) ∧ W.cell? ⟨g, o, none⟩ = some (.int .i64 (nk : Int)) ∧ W.cell? ⟨sp, nk, none⟩ = some (.pointer (some ⟨xn, 0, none⟩)))
            (first | (exact ⟨t0, t2, s1, s2⟩) | assumption)
            (first
              | (go_at_call 120; refine (HCO.out _ HBD.out).mono ?_; rintro e w' ⟨rfl, rfl⟩)
              | (go_at_call 33; refine (HH2.out _ HBD.out).mono ?_; rintro e w3 ⟨rfl, hb3⟩; have HB3 := toHid (HBD.out.trans (hb3.mono HBD.out.size)); have hS3 : w3.cell? ⟨N1, 0, none⟩ = some (.int .i64 vc) ∧ w3.cell? ⟨N1, 2, none⟩ = some (.int .i64 vb) ∧ w3.cell? ⟨g, o, none⟩ = some (.int .i64 (nk : Int)) ∧ w3.cell? ⟨sp, nk, none⟩ = some (.pointer (some ⟨xn, 0, none⟩)) := ⟨(hb3.cell (p := ⟨N1, 0, none⟩) (World.block_lt_of_cell? _ _ t0)).trans t0, (hb3.cell (p := ⟨N1, 2, none⟩) (World.block_lt_of_cell? _ _ t2)).trans t2, (HCE.out _ HB3.out).1, (HCE.out _ HB3.out).2⟩; clear hb3))
          clear hS3
          go_wp2
          go_ret
          exact ⟨rfl, HB3.out⟩
      · have gb : (vb != -1) = true := by simpa using hb
        rw [if_pos (.inr (.inl hb)), erV_some (by decide)]
        clear hb
        go_enter Tryz.func119, Tryz.ntmps119
        go_wp2_with fail
        refine HFI.out.mono ?_
        rintro e w' ⟨rfl, hw⟩
        have hw' := hw.symm
        subst hw'
        clear hw
        go_wp2_with fail
        refine (HHD.out _ (Below.refl _ _)).mono ?_
        rintro e w1 ⟨rfl, hb1⟩
        have HBA : Hid (Below w.heap.size w (w1.alloc (.cells #[.int .i64 vc, .int .i64 vp, .int .i64 vb] 60))) := hb1.alloc hb1.size _
        have b0 : (w1.alloc (.cells #[.int .i64 vc, .int .i64 vp, .int .i64 vb] 60)).cell? ⟨w1.heap.size, 0, none⟩ = some (.int .i64 vc) := by rw [cell_of_row _ _ _ _ _ _ (heap_alloc_new w1 _)]; rfl
        have b2 : (w1.alloc (.cells #[.int .i64 vc, .int .i64 vp, .int .i64 vb] 60)).cell? ⟨w1.heap.size, 2, none⟩ = some (.int .i64 vb) := by rw [cell_of_row _ _ _ _ _ _ (heap_alloc_new w1 _)]; rfl
        clear hb1
        go_wp2_with fail
        generalize w1.alloc (.cells #[.int .i64 vc, .int .i64 vp, .int .i64 vb] 60) = W1 at HBA b0 b2 ⊢
        generalize w1.heap.size = N1 at b0 b2 ⊢
        go_quiet (first
          | (go_at_call 120; refine Calls.quiet_of_same (HCO.out _ (below_drewN HBA.out _))))
        go_wp2
        go_ret
        exact ⟨rfl, below_drewN HBA.out _⟩

theorem Nums.tail {w : World} {g o : Nat} {n : Int} {r : List Int} (h : Nums w (some ⟨g, o, none⟩) (n :: r)) : Nums w (some ⟨g, o + 1, none⟩) r := fun k hk => by
  obtain ⟨g', o', e1, e2⟩ := h (k + 1) (by simpa using hk)
  cases e1
  refine ⟨g, o + 1, rfl, ?_⟩
  rw [show o + 1 + k = o + (k + 1) by omega, e2]; rfl

set_option maxRecDepth 100000 in
set_option maxHeartbeats 2000000 in
theorem check_job {sp m cap : Nat} {xs : Nat → Ih} {s : SV} {a : Option Addr} {C : Int} (l : List Int) (d : KDesk) (w : World) (h : IsShelf w sp xs s m) (hl : Nums w a l) (hg : s.good C l) (h0 : l ≠ []) (h5 : l.length ≤ 100) (hcap : l.length ≤ cap) :
    Calls Tryz.prog 50 #[.pointer (some ⟨sp, 0, none⟩), .slice a l.length cap, .agg #[.int .i64 d.root, .int .i64 d.kind, .int .i64 d.file, .int .i64 d.rate, .int .i64 d.burst]] w fun e w' => e = .returned (erV (chkJ s l d)) ∧ Below w.heap.size w w' := by
  have HBA : Hid (Below w.heap.size w (w.alloc (.cells #[.int .i64 d.root, .int .i64 d.kind, .int .i64 d.file, .int .i64 d.rate, .int .i64 d.burst] 47))) := (Below.refl _ _).alloc (Nat.le_refl _) _
  have b1 : (w.alloc (.cells #[.int .i64 d.root, .int .i64 d.kind, .int .i64 d.file, .int .i64 d.rate, .int .i64 d.burst] 47)).cell? ⟨w.heap.size, 1, none⟩ = some (.int .i64 d.kind) := by rw [cell_of_row _ _ _ _ _ _ (heap_alloc_new w _)]; rfl
  have b2 : (w.alloc (.cells #[.int .i64 d.root, .int .i64 d.kind, .int .i64 d.file, .int .i64 d.rate, .int .i64 d.burst] 47)).cell? ⟨w.heap.size, 2, none⟩ = some (.int .i64 d.file) := by rw [cell_of_row _ _ _ _ _ _ (heap_alloc_new w _)]; rfl
  unfold chkJ
  by_cases h1 : d.kind = 1
  · rw [if_pos h1]
    have HCT : Hid (∀ W : World, Below w.heap.size w W → Calls Tryz.prog 119 #[.pointer (some ⟨sp, 0, none⟩), .slice a l.length cap, .int .i64 d.file] W fun e w' => e = .returned (erV (targetF s l d.file)) ∧ Below W.heap.size W w') := fun W hb => checkTarget_any l d.file W (h.below hb) (hl.below hb) hg h0 h5
    generalize targetF s l d.file = tf at HCT ⊢
    rw [h1] at b1 HBA b2 ⊢
    clear h hl hg h1
    generalize l.length = ln at HCT ⊢
    go_enter Tryz.func50, Tryz.ntmps50
    go_wp2_with fail
    refine (HCT.out _ HBA.out).mono ?_
    rintro e w1 ⟨rfl, hb1⟩
    have HB1 := toHid (HBA.out.trans (hb1.mono HBA.out.size))
    clear hb1
    go_wp2
    go_ret
    exact ⟨rfl, HB1.out⟩
  · rw [if_neg h1]
    have g1 : (d.kind == 1) = false := by simpa using h1
    by_cases h23 : d.kind = 2 ∨ d.kind = 3
    · rw [if_pos h23]
      obtain ⟨n, r, rfl⟩ : ∃ n r, l = n :: r := by
        cases l with
        | nil => exact absurd rfl h0
        | cons n r => exact ⟨n, r, rfl⟩
      obtain ⟨g, o, ha, _⟩ := hl 0 (by simp)
      subst ha
      have HCO : Hid (∀ W : World, Below w.heap.size w W → Calls Tryz.prog 120 #[.slice (if cap = 1 then some ⟨g, o, none⟩ else some ⟨g, o + 1, none⟩) r.length (cap - 1), .int .i64 d.file] W fun e w' => e = .returned (.bool (r.contains d.file)) ∧ w' = W) := fun W hb => by
        by_cases hr : r = []
        · subst hr
          exact Tryz.slices_Contains_int_empty _ _ _ W
        · have hr1 : 0 < r.length := List.length_pos_iff.2 hr
          have hc1 : ¬ cap = 1 := by have : r.length + 1 ≤ cap := hcap; omega
          rw [if_neg hc1]
          exact contains_any r d.file W (hl.below hb).tail rfl (by have : r.length + 1 ≤ 100 := h5; omega)
      rw [show (n :: r).drop 1 = r from rfl]
      have hc0 : r.length + 1 ≤ cap := hcap
      have hlen : (n :: r).length = r.length + 1 := rfl
      rw [hlen]
      clear h hl hg h0 h5 hcap hlen
      generalize r.contains d.file = cb at HCO ⊢
      generalize r.length = ln at HCO hc0 ⊢
      have q1 : (1 : Int) ≤ ((ln + 1 : Nat) : Int) := by omega
      have q2 : 1 ≤ ln + 1 := by omega
      have q3 : ln + 1 - 1 = ln := by omega
      have q4 : 1 ≤ cap := by omega
      by_cases h2 : d.kind = 2
      · have g2 : (d.kind == 2) = true := by simpa using h2
        by_cases hf : d.file = -1
        · have gf : (d.file == -1) = true := by simpa using hf
          rw [if_pos (.inl ⟨h2, hf⟩), erV_0]
          clear h2 hf h23 h1 HCO
          go_enter Tryz.func50, Tryz.ntmps50
          go_wp2_with fail
          go_quiet (fail)
          go_wp2
          go_ret
          exact ⟨rfl, below_drewN HBA.out _⟩
        · have gf : (d.file == -1) = false := by simpa using hf
          have HIF : Hid ((if d.kind = 2 ∧ d.file = -1 ∨ cb = true then (0 : Int) else 4) = if cb = true then 0 else 4) := by
            unfold Hid
            by_cases e : cb = true
            · rw [if_pos (.inr e), if_pos e]
            · rw [if_neg (by rintro (x | x); exact hf x.2; exact e x), if_neg e]
          rw [HIF.out]
          clear h2 hf h23 h1 HIF
          cases cb with
          | true =>
            rw [if_pos rfl, erV_0]
            go_enter Tryz.func50, Tryz.ntmps50
            go_wp2_with fail
            go_quiet (first
              | (go_at_call 120; refine Calls.quiet_of_same (HCO.out _ (below_drewN HBA.out _))))
            all_goals
              go_wp2
              all_goals
                go_ret
                exact ⟨rfl, below_drewN HBA.out _⟩
          | false =>
            rw [if_neg (by decide), erV_some (by decide)]
            go_enter Tryz.func50, Tryz.ntmps50
            go_wp2_with fail
            go_quiet (first
              | (go_at_call 120; refine Calls.quiet_of_same (HCO.out _ (below_drewN HBA.out _))))
            all_goals
              go_wp2
              all_goals
                go_ret
                exact ⟨rfl, below_drewN HBA.out _⟩
      · have g2 : (d.kind == 2) = false := by simpa using h2
        have g3 : (d.kind == 3) = true := by have : d.kind = 3 := by omega
                                             simpa using this
        have HIF : Hid ((if d.kind = 2 ∧ d.file = -1 ∨ cb = true then (0 : Int) else 4) = if cb = true then 0 else 4) := by
          unfold Hid
          by_cases e : cb = true
          · rw [if_pos (.inr e), if_pos e]
          · rw [if_neg (by rintro (x | x); exact h2 x.1; exact e x), if_neg e]
        rw [HIF.out]
        clear h2 h23 h1 HIF
        cases cb with
        | true =>
          rw [if_pos rfl, erV_0]
          go_enter Tryz.func50, Tryz.ntmps50
          go_wp2_with fail
          go_quiet (first
            | (go_at_call 120; refine Calls.quiet_of_same (HCO.out _ (below_drewN HBA.out _))))
          all_goals
            go_wp2
            all_goals
              go_ret
              exact ⟨rfl, below_drewN HBA.out _⟩
        | false =>
          rw [if_neg (by decide), erV_some (by decide)]
          go_enter Tryz.func50, Tryz.ntmps50
          go_wp2_with fail
          go_quiet (first
            | (go_at_call 120; refine Calls.quiet_of_same (HCO.out _ (below_drewN HBA.out _))))
          all_goals
            go_wp2
            all_goals
              go_ret
              exact ⟨rfl, below_drewN HBA.out _⟩
    · rw [if_neg h23, erV_1]
      have g2 : (d.kind == 2) = false := by simp; omega
      have g3 : (d.kind == 3) = false := by simp; omega
      clear h hl hg h23
      generalize l.length = ln
      go_enter Tryz.func50, Tryz.ntmps50
      go_wp2
      go_ret
      exact ⟨rfl, HBA.out⟩
end Go.Proofs.YtjegaljdindfaabGreatDoor
