/-
A table of rows (C2), in the document's answer: TableOf, where the head and the number of rows are as they should be.
-/
import Derived.Test.YtncjnjlakhohgaaGreatQTabOf
namespace Go.Proofs.YtncjnjlakhohgaaGreat
open Go.RowKit
attribute [local go_sem ↓] Go.wp_at_zero Go.wp_at_succ

theorem dupB_zero (a : List (Int × Int)) (e : Int × Int) : dupB a e 0 = false := by simp [dupB]

theorem start_bool (eb : Bool) (a : List (Int × Int)) (e : Int × Int) : Value.bool eb = .bool (eb && !dupB a e 0) := by rw [dupB_zero]; cases eb <;> rfl

theorem same_bool {eb x y : Bool} (h : y = x) : Value.bool (eb && !x) = .bool (eb && !y) := by rw [h]

theorem false_bool {eb y : Bool} (h : y = true) : Value.bool false = .bool (eb && !y) := by rw [h]; cases eb <;> rfl

theorem stepT_full {h : HV} {a : List (Int × Int)} {y0 y1 : Int} (hf : (a.length : Int) = h.c) : stepT h a (y0, y1) = if y0 = 0 ∧ y1 = 0 then some a else none := by
  unfold stepT
  rw [if_pos hf]
  by_cases hz : y0 = 0 ∧ y1 = 0
  · rw [if_pos hz, if_pos (by rw [hz.1, hz.2])]
  · rw [if_neg hz, if_neg (fun e => hz ⟨congrArg Prod.fst e, congrArg Prod.snd e⟩)]

theorem stepT_open {h : HV} {a : List (Int × Int)} {y0 y1 : Int} (hf : (a.length : Int) ≠ h.c) : stepT h a (y0, y1) = if (entB y0 y1 h.p && !dupB a (y0, y1) a.length) = true then some (a ++ [(y0, y1)]) else none := by
  unfold stepT
  rw [if_neg hf, dupB_all]
  by_cases hz : entB y0 y1 h.p = true ∧ ¬ (y0 = 2 ∧ (y0, y1) ∈ a)
  · rw [if_pos hz, if_pos (by rw [hz.1, decide_eq_false hz.2]; rfl)]
  · rw [if_neg hz, if_neg]
    intro h2
    rw [Bool.and_eq_true] at h2
    exact hz ⟨h2.1, fun h3 => by rw [decide_eq_true h3] at h2; exact absurd h2.2 (by decide)⟩

set_option maxRecDepth 100000 in
set_option maxHeartbeats 4000000 in
theorem tableOf_in (c p b : Int) (la : Option Addr) (len cap : Nat) (rows : List ByteArray) (w : World) (hT : Texts w la len rows) (hlen : len ≤ 20) (hk : HV.ok ⟨c, p, b⟩ = true) (hr : len = rowsN c.toNat) :
    Calls Tryz.prog 46 #[.agg #[.int .i64 c, .int .i64 p, .int .i64 b], .slice la len cap] w fun e w' =>
      ∃ lt cp, e = .returned (.tuple #[.slice lt (tableT ⟨c, p, b⟩ rows).length cp, .int .i64 (tableF ⟨c, p, b⟩ rows)]) ∧ TabO w.heap.size w' lt cp (tableT ⟨c, p, b⟩ rows) ∧ Below w.heap.size w w' := by
  have hi : tableIn ⟨c, p, b⟩ rows = true := by unfold tableIn; rw [hk, hT.1, decide_eq_true hr]; rfl
  have ef : HV.fault ⟨c, p, b⟩ = 0 := if_pos hk
  have HC : Hid (∀ W : World, Calls Tryz.prog 33 #[.agg #[.int .i64 c, .int .i64 p, .int .i64 b]] W fun e w' => e = .returned (.int .i64 0) ∧ Below W.heap.size W w') := fun W => by have := headFault_any c p b W; rw [ef] at this; exact this
  obtain ⟨g1, g2, _⟩ := HV.of_ok hk
  simp only at g1 g2
  have HR : Hid (∀ W : World, Calls Tryz.prog 34 #[.int .i64 c] W fun e w' => e = .returned (.int .i64 (len : Int)) ∧ w' = W) := fun W => by have := refRows_any c.toNat W (by omega); rw [show ((c.toNat : Nat) : Int) = c by omega, ← hr] at this; exact this
  have HT := toHid hT
  have HI := toHid hi
  have HLN : Hid (rows.length = len) := hT.1
  have HFT : Hid (∀ (j : Nat) (f : Int), f ≠ 0 → j ≤ len → tabTo ⟨c, p, b⟩ rows j = ([], f) → tableT ⟨c, p, b⟩ rows = [] ∧ tableF ⟨c, p, b⟩ rows = f) := fun j f hf hj e => by
    obtain ⟨e1, e2⟩ := tableF_yes HI.out
    have e3 := tabTo_fault hf e rows.length (by rw [HLN.out]; exact hj)
    rw [e1, e2, e3]
    exact ⟨rfl, rfl⟩
  obtain ⟨i0, hi0, hz0, hz1, hz2⟩ := info_parts info_ent
  clear hk hi ef hT hr
  go_enter Tryz.func46, Tryz.ntmps46
  go_wp2_with fail
  refine (HC.out _).mono ?_
  rintro e w1 ⟨rfl, hb1⟩
  have x0 := new_cell hb1 0 _ rfl
  obtain ⟨W0, hW0⟩ : ∃ W0, W0 = w.alloc (.cells #[.int .i64 c, .int .i64 p, .int .i64 b] 23) := ⟨_, rfl⟩
  have HF : Hid (∀ W : World, Below W0.heap.size W0 W → W.cell? ⟨w.heap.size, 0, none⟩ = some (.int .i64 c) ∧ W.cell? ⟨w.heap.size, 1, none⟩ = some (.int .i64 p) ∧ Texts W la len rows ∧ Below w.heap.size w W) := fun W hb => by
    rw [hW0] at hb
    have hx : Below w.heap.size w W := ((Below.refl _ _).alloc (Nat.le_refl _) _).trans (hb.mono (by simp))
    exact ⟨new_cell hb 0 _ rfl, new_cell hb 1 _ rfl, HT.out.below hx, hx⟩
  have HB1 : Hid (Below W0.heap.size W0 w1) := by unfold Hid; rw [hW0]; exact hb1
  have HW00 : Hid (w.heap.size ≤ W0.heap.size) := by unfold Hid; rw [hW0]; simp
  clear hW0 hb1 HT
  go_wp2_with (go_at_call 34; refine (HR.out _).mono ?_; rintro e w' ⟨rfl, hw⟩; have hw' := hw.symm; subst hw'; clear hw)
  clear x0 HC HR
  go_loopw [7, 8] (fun v i wr => ∃ j : Nat, j ≤ len ∧ i = .int .i64 j ∧ (tabTo ⟨c, p, b⟩ rows j).2 = 0 ∧ (((tabTo ⟨c, p, b⟩ rows j).1.length : Nat) : Int) ≤ c ∧ IsOf W0.heap.size wr v (tabTo ⟨c, p, b⟩ rows j).1 ∧ Below W0.heap.size W0 wr) (fun _ i _ => len - (intOf i).toNat)
  case atStart => exact ⟨0, Nat.zero_le _, rfl, rfl, (by show (0 : Int) ≤ c; omega), ⟨World.ownsRow_nil _ _ _ _⟩, HB1.out⟩
  case round =>
    obtain ⟨j, hj, rfl, hf0, hl, ho, hbel⟩ := hrel
    obtain ⟨d0, d1, dT, dB⟩ := HF.out _ hbel
    by_cases hlt : j < len
    · obtain ⟨bb, off, rfl, hcell, hsz⟩ := dT.2 j hlt
      unfold maxLen at hsz
      have j0 : (0 : Int) ≤ (j : Int) := by omega
      have j1 : (j : Int) < (len : Int) := by omega
      have HBL := toHid hbel
      by_cases hs : (rows.getD j ByteArray.empty).size = 16
      · have HG : Hid (∀ a2, rowSt ⟨c, p, b⟩ (tabTo ⟨c, p, b⟩ rows j).1 (rows.getD j ByteArray.empty) 8 = some a2 → tabTo ⟨c, p, b⟩ rows (j + 1) = (a2, 0)) := fun a2 hx => tabTo_good hf0 hs hx
        have HN : Hid (rowSt ⟨c, p, b⟩ (tabTo ⟨c, p, b⟩ rows j).1 (rows.getD j ByteArray.empty) 8 = none → tableT ⟨c, p, b⟩ rows = [] ∧ tableF ⟨c, p, b⟩ rows = 2) := fun hx => HFT.out (j + 1) 2 (by decide) (by omega) (tabTo_bad hf0 hs hx)
        have HO := toHid ho
        have HCL : Hid (∀ W : World, Below W0.heap.size W0 W → W.cell? ⟨bb, off + j, none⟩ = some (.string (rows.getD j ByteArray.empty))) := fun W hb => by
          obtain ⟨b2, o2, e2, hc2, _⟩ := (HF.out W hb).2.2.1.2 j hlt
          cases e2; exact hc2
        clear hf0 ho hbel d0 d1 dT
        generalize (tabTo ⟨c, p, b⟩ rows j).1 = acc at HG HN HO hl
        generalize rows.getD j ByteArray.empty = s at HG HN HCL hcell hsz hs
        have g16 : ((s.size : Int) != 16) = false := by simp; omega
        have HS := toHid hs
        clear hs
        go_wp2
        clear hcell g16
        go_loopw [7, 9] (fun v k wr => ∃ (q : Nat) (a : List (Int × Int)), q ≤ 8 ∧ k = .int .i64 q ∧ rowSt ⟨c, p, b⟩ acc s q = some a ∧ (a.length : Int) ≤ c ∧ IsOf W0.heap.size wr v a ∧ Below W0.heap.size W0 wr) (fun _ k _ => 8 - (intOf k).toNat)
        case atStart => exact ⟨0, acc, Nat.zero_le _, rfl, rfl, hl, HO.out, HBL.out⟩
        case round =>
          obtain ⟨q, a, hq, rfl, hst, hal, ho, hbel⟩ := hrel
          obtain ⟨wq, ewq⟩ : ∃ wq, wq = wr := ⟨wr, rfl⟩
          subst ewq
          have hB0 : W0.heap.size ≤ wq.heap.size := hbel.size
          by_cases hq8 : q < 8
          · have hst2 := rowSt_some hst
            have i0' : 2 * q < s.size := by rw [HS.out]; omega
            have i1' : 2 * q + 1 < s.size := by rw [HS.out]; omega
            have x0 := bAt_eq s (2 * q) i0'
            have x1 := bAt_eq s (2 * q + 1) i1'
            have HST : Hid (rowSt ⟨c, p, b⟩ acc s (q + 1) = stepT ⟨c, p, b⟩ a (bAt s (2 * q), bAt s (2 * q + 1))) := by
              unfold Hid; rw [hst2]; unfold entAt; rw [Nat.mul_comm q 2]
            obtain ⟨l0, u0⟩ := bAt_bd s (2 * q)
            obtain ⟨l1, u1⟩ := bAt_bd s (2 * q + 1)
            generalize bAt s (2 * q) = y0 at x0 HST l0 u0
            generalize bAt s (2 * q + 1) = y1 at x1 HST l1 u1
            have j2 : (0 : Int) ≤ 2 * (q : Int) := by omega
            have j3 : 2 * (q : Int) < (s.size : Int) := by omega
            have j4 : (2 * (q : Int)).toNat = 2 * q := by omega
            have j5 : (0 : Int) ≤ 2 * (q : Int) + 1 := by omega
            have j6 : 2 * (q : Int) + 1 < (s.size : Int) := by omega
            have j7 : (2 * (q : Int) + 1).toNat = 2 * q + 1 := by omega
            have hcell := HCL.out wq hbel
            have hcell2 : (wq.alloc (.cells #[.int .i64 0, .int .i64 0] 74)).cell? ⟨bb, off + j, none⟩ = some (.string s) := by rw [World.cell?_alloc_past _ _ _ (World.block_lt_of_cell? wq _ hcell)]; exact hcell
            have B1 : Below W0.heap.size W0 (wq.alloc (.cells #[.int .i64 y0, .int .i64 y1] 74)).drew := (hbel.alloc hB0 _).drew
            obtain ⟨d0, d1, _, dB⟩ := HF.out _ B1
            obtain ⟨ga, gcap, hv, hEn⟩ := ho.ents
            subst hv
            have HO1 := toHid ho
            have HB1' := toHid B1
            have HDB := toHid dB
            clear ho hbel hst hst2 dB
            by_cases hfull : (a.length : Int) = c
            · obtain ⟨f1, f2⟩ := eq_b hfull
              have hsf := stepT_full (h := ⟨c, p, b⟩) (y0 := y0) (y1 := y1) hfull
              by_cases hz : y0 = 0 ∧ y1 = 0
              · have HS1 : Hid (rowSt ⟨c, p, b⟩ acc s (q + 1) = some a) := by unfold Hid; rw [HST.out, hsf, if_pos hz]
                obtain ⟨z0, z1⟩ := hz
                subst z0 z1
                clear hfull hsf HST hEn
                go_wp2
                go_region
                go_wp2
                go_roundw
                case rel =>
                  have fin : ∃ (q1 : Nat) (a1 : List (Int × Int)), q1 ≤ 8 ∧ Value.int .i64 ((q : Int) + 1) = .int .i64 q1 ∧ rowSt ⟨c, p, b⟩ acc s q1 = some a1 ∧ (a1.length : Int) ≤ c ∧ IsOf W0.heap.size (wq.alloc (.cells #[.int .i64 0, .int .i64 0] 74)).drew (.slice ga a.length gcap) a1 ∧ Below W0.heap.size W0 (wq.alloc (.cells #[.int .i64 0, .int .i64 0] 74)).drew :=
                    ⟨q + 1, a, by omega, by go_num, HS1.out, hal, HO1.out.below (((Below.refl _ _).alloc (Nat.le_refl _) _).drew), HB1'.out⟩
                  first | exact fin | ((repeat apply Exists.intro); exact ⟨fin, rfl⟩)
                case measure => simp [intOf]; omega
              · have HS1 : Hid (rowSt ⟨c, p, b⟩ acc s 8 = none) := rowSt_none (show rowSt ⟨c, p, b⟩ acc s (q + 1) = none by rw [HST.out, hsf, if_neg hz]) 8 (by omega)
                have gp : decide (0 < y0 + y1) = true := decide_eq_true (by omega)
                obtain ⟨e1, e2⟩ := HN.out HS1.out
                have HE1 := toHid e1
                have HE2 := toHid e2
                clear hfull hsf HST hEn hz e1 e2
                go_wp2
                go_region
                go_wp2
                go_ret2
                exact ⟨none, 0, by rw [HE1.out, HE2.out]; rfl, by rw [HE1.out]; exact tabO_nil _ _, HDB.out⟩
            · obtain ⟨f1, f2⟩ := ne_b hfull
              have hso := stepT_open (h := ⟨c, p, b⟩) (y0 := y0) (y1 := y1) hfull
              have HSO : Hid (rowSt ⟨c, p, b⟩ acc s (q + 1) = if (entB y0 y1 p && !dupB a (y0, y1) a.length) = true then some (a ++ [(y0, y1)]) else none) := by unfold Hid; rw [HST.out, hso]
              have hE := entry_any y0 y1 p (wq.alloc (.cells #[.int .i64 y0, .int .i64 y1] 74)).drew
              generalize entB y0 y1 p = eb at HSO hE
              have HE := toHid hE
              have HEn := toHid hEn
              clear hso HST hE hEn
              go_wp2
              go_region
              go_wp2_with fail
              refine HE.out.mono ?_
              rintro e w2 ⟨rfl, hb2⟩
              have HB2 : Hid (Below W0.heap.size W0 w2) := HB1'.out.trans (hb2.mono HB1'.out.size)
              have HW2 : Hid (Below wq.heap.size wq w2) := (((Below.refl _ _).alloc (Nat.le_refl _) _).drew).trans (hb2.mono (by simp))
              have b0 : w2.cell? ⟨wq.heap.size, 0, none⟩ = some (.int .i64 y0) := by
                rw [hb2.cell (by simp)]
                show (wq.alloc _).cell? _ = _
                rw [cell_of_row _ _ _ _ _ _ (heap_alloc_new wq _)]; rfl
              have b1 : w2.cell? ⟨wq.heap.size, 1, none⟩ = some (.int .i64 y1) := by
                rw [hb2.cell (by simp)]
                show (wq.alloc _).cell? _ = _
                rw [cell_of_row _ _ _ _ _ _ (heap_alloc_new wq _)]; rfl
              have HE2n := toHid (HEn.out.below HW2.out)
              have HBX : Hid (∀ W : World, Below w2.heap.size w2 W → W.cell? ⟨wq.heap.size, 0, none⟩ = some (.int .i64 y0) ∧ W.cell? ⟨wq.heap.size, 1, none⟩ = some (.int .i64 y1)) := fun W hb => ⟨by rw [hb.cell (World.block_lt_of_cell? w2 _ b0)]; exact b0, by rw [hb.cell (World.block_lt_of_cell? w2 _ b1)]; exact b1⟩
              clear hb2 HE HEn d0 d1 hcell hcell2
              go_wp2
              go_loopw [11, 12] (fun okv m wx => ∃ mm : Nat, mm ≤ a.length ∧ m = .int .i64 mm ∧ okv = .bool (eb && !dupB a (y0, y1) mm) ∧ Below w2.heap.size w2 wx) (fun _ m _ => a.length - (intOf m).toNat)
              case atStart => exact ⟨0, Nat.zero_le _, rfl, start_bool _ _ _, Below.refl _ _⟩
              case round =>
                obtain ⟨mm, hmm, rfl, rfl, hbx⟩ := hrel
                obtain ⟨c0, c1⟩ := HBX.out _ hbx
                have ha32 : a.length ≤ 32 := by omega
                by_cases hm : mm < a.length
                · obtain ⟨b3, o3, e3, h1, h2⟩ := HE2n.out.2 mm hm
                  subst e3
                  rw [← hbx.cell (World.block_lt_of_cell? w2 _ h1)] at h1
                  rw [← hbx.cell (World.block_lt_of_cell? w2 _ h2)] at h2
                  have hD := dupB_succ a (y0, y1) mm hm
                  have m0 : (0 : Int) ≤ (mm : Int) := by omega
                  have m1 : (mm : Int) < (a.length : Int) := by omega
                  have HBX2 := toHid hbx
                  clear hbx
                  by_cases hy : y0 = 2
                  · subst hy
                    by_cases hsame : a.getD mm (0, 0) = (2, y1)
                    · have hD2 : dupB a (2, y1) (mm + 1) = true := by rw [hD, decide_eq_true ⟨rfl, hsame⟩, Bool.or_true]
                      rw [hsame] at h1 h2
                      have HD2 := toHid hD2
                      clear hD hD2 hsame
                      go_wp2
                      go_quiet (fail)
                      go_wp2
                      go_roundw
                      case rel =>
                        have fin : ∃ m2 : Nat, m2 ≤ a.length ∧ Value.int .i64 ((mm : Int) + 1) = .int .i64 m2 ∧ Value.bool false = .bool (eb && !dupB a (2, y1) m2) ∧ Below w2.heap.size w2 (wr.drewN nq) := ⟨mm + 1, by omega, by go_num, false_bool HD2.out, below_drewN HBX2.out _⟩
                        first | exact fin | ((repeat apply Exists.intro); exact ⟨fin, rfl⟩)
                      case measure => simp [intOf]; omega
                    · have hD2 : dupB a (2, y1) (mm + 1) = dupB a (2, y1) mm := by rw [hD, decide_eq_false (fun e => hsame e.2), Bool.or_false]
                      have HD2 := toHid hD2
                      have hne : (a.getD mm (0, 0)).1 ≠ 2 ∨ (a.getD mm (0, 0)).2 ≠ y1 := by
                        by_cases e1 : (a.getD mm (0, 0)).1 = 2
                        · exact .inr (fun e2 => hsame (Prod.ext e1 e2))
                        · exact .inl e1
                      clear hD hD2 hsame
                      generalize (a.getD mm (0, 0)).1 = xk at h1 hne
                      generalize (a.getD mm (0, 0)).2 = xp at h2 hne
                      by_cases hxk : xk = 2
                      · have hxp : xp ≠ y1 := by omega
                        obtain ⟨t1, t2⟩ := ne_b hxp
                        subst hxk
                        clear hne hxp
                        go_wp2
                        go_quiet (fail)
                        go_wp2
                        go_roundw
                        case rel =>
                          have fin : ∃ m2 : Nat, m2 ≤ a.length ∧ Value.int .i64 ((mm : Int) + 1) = .int .i64 m2 ∧ Value.bool (eb && !dupB a (2, y1) mm) = .bool (eb && !dupB a (2, y1) m2) ∧ Below w2.heap.size w2 (wr.drewN nq) := ⟨mm + 1, by omega, by go_num, same_bool HD2.out, below_drewN HBX2.out _⟩
                          first | exact fin | ((repeat apply Exists.intro); exact ⟨fin, rfl⟩)
                        case measure => simp [intOf]; omega
                      · obtain ⟨t1, t2⟩ := ne_b hxk
                        clear hne hxk
                        go_wp2
                        go_quiet (fail)
                        go_wp2
                        go_roundw
                        case rel =>
                          have fin : ∃ m2 : Nat, m2 ≤ a.length ∧ Value.int .i64 ((mm : Int) + 1) = .int .i64 m2 ∧ Value.bool (eb && !dupB a (2, y1) mm) = .bool (eb && !dupB a (2, y1) m2) ∧ Below w2.heap.size w2 (wr.drewN nq) := ⟨mm + 1, by omega, by go_num, same_bool HD2.out, below_drewN HBX2.out _⟩
                          first | exact fin | ((repeat apply Exists.intro); exact ⟨fin, rfl⟩)
                        case measure => simp [intOf]; omega
                  · have hD2 : dupB a (y0, y1) (mm + 1) = dupB a (y0, y1) mm := by rw [hD, decide_eq_false (fun e => hy e.1), Bool.or_false]
                    have HD2 := toHid hD2
                    obtain ⟨t1, t2⟩ := ne_b hy
                    clear hD hD2 hy
                    go_wp2
                    go_quiet (fail)
                    go_wp2
                    go_roundw
                    case rel =>
                      have fin : ∃ m2 : Nat, m2 ≤ a.length ∧ Value.int .i64 ((mm : Int) + 1) = .int .i64 m2 ∧ Value.bool (eb && !dupB a (y0, y1) mm) = .bool (eb && !dupB a (y0, y1) m2) ∧ Below w2.heap.size w2 (wr.drewN nq) := ⟨mm + 1, by omega, by go_num, same_bool HD2.out, below_drewN HBX2.out _⟩
                      first | exact fin | ((repeat apply Exists.intro); exact ⟨fin, rfl⟩)
                    case measure => simp [intOf]; omega
                · have hml : mm = a.length := by omega
                  subst hml
                  have HBW : Hid (Below W0.heap.size W0 wr) := HB2.out.trans (hbx.mono HB2.out.size)
                  have HOW := toHid (((HO1.out.below HW2.out).below hbx).own)
                  cases hX : (eb && !dupB a (y0, y1) a.length) with
                  | false =>
                    have HS1 : Hid (rowSt ⟨c, p, b⟩ acc s 8 = none) := rowSt_none (show rowSt ⟨c, p, b⟩ acc s (q + 1) = none by rw [HSO.out, hX, if_neg (by decide)]) 8 (by omega)
                    obtain ⟨e1, e2⟩ := HN.out HS1.out
                    have HE1 := toHid e1
                    have HE2 := toHid e2
                    clear e1 e2 HSO hbx
                    go_wp2
                    go_ret2
                    exact ⟨none, 0, by rw [HE1.out, HE2.out]; rfl, by rw [HE1.out]; exact tabO_nil _ _, (HF.out _ HBW.out).2.2.2⟩
                  | true =>
                    have HS1 : Hid (rowSt ⟨c, p, b⟩ acc s (q + 1) = some (a ++ [(y0, y1)])) := by unfold Hid; rw [HSO.out, hX, if_pos rfl]
                    have HOA : Hid ((wr.alloc (.cells #[.int .i64 y0, .int .i64 y1] 74)).ownsRow W0.heap.size 74 2 (.slice ga a.length gcap) a.length (entV a)) := HOW.out.alloc _
                    have HSB : Hid (W0.heap.size ≤ wr.heap.size) := HBW.out.size
                    have HSA : Hid (W0.heap.size ≤ (wr.alloc (.cells #[.int .i64 y0, .int .i64 y1] 74)).heap.size) := by unfold Hid; have := HSB.out; simp; omega
                    have HEV : Hid (entV (a ++ [(y0, y1)]) = entV a ++ [.int .i64 y0, .int .i64 y1]) := by unfold Hid; simp [entV]
                    clear HSO hbx
                    go_wp2_with (at_builtin; go_loud (refine wpList_append_lies _ (by rfl) _ _ 68 (by rfl) W0.heap.size 74 i0 (.agg #[.int .i64 0, .int .i64 0]) 2 16 Tryz.underlying68 hi0 hz0 hz1 hz2 rfl (by decide) (.slice ga a.length gcap) a.length (entV a) (by rfl) HOA.out ⟨wr.heap.size, 0, none⟩ 1 1 [.int .i64 y0, .int .i64 y1] (by rfl) (by rfl) (two_news _ _ _ _) (fun u hu => by simp at hu; rcases hu with rfl | rfl <;> rfl) (by decide) (by unfold maxLen; omega) (by omega) HSA.out (wr.heap.size + 1) (by simp) ?_; intro g3 cap3 w3 hown hgrow hat hlt3))
                    go_roundw
                    case rel =>
                      have fin : ∃ (q1 : Nat) (a1 : List (Int × Int)), q1 ≤ 8 ∧ Value.int .i64 ((q : Int) + 1) = .int .i64 q1 ∧ rowSt ⟨c, p, b⟩ acc s q1 = some a1 ∧ (a1.length : Int) ≤ c ∧ IsOf W0.heap.size w3 (.slice (some ⟨g3, 0, none⟩) (a.length + 1) cap3) a1 ∧ Below W0.heap.size W0 w3 := by
                        refine ⟨q + 1, a ++ [(y0, y1)], by omega, by go_num, HS1.out, ?_, ⟨?_⟩, (HBW.out.alloc HSB.out _).grown hgrow HSA.out (fun r e => (HOW.out.lt r e).1)⟩
                        · rw [List.length_append]; simp; omega
                        · rw [HEV.out, List.length_append]; exact hown
                      first | exact fin | ((repeat apply Exists.intro); exact ⟨fin, rfl⟩)
                    case measure => simp [intOf]; omega
          · have hq9 : q = 8 := by omega
            subst hq9
            have hg := HG.out a hst
            have HGG := toHid hg
            have HO1 := toHid ho
            have HB1' := toHid hbel
            clear hg hst ho hbel
            go_wp2
            go_roundw
            case rel =>
              have fin : ∃ j1 : Nat, j1 ≤ len ∧ Value.int .i64 ((j : Int) + 1) = .int .i64 j1 ∧ (tabTo ⟨c, p, b⟩ rows j1).2 = 0 ∧ (((tabTo ⟨c, p, b⟩ rows j1).1.length : Nat) : Int) ≤ c ∧ IsOf W0.heap.size wq u7 (tabTo ⟨c, p, b⟩ rows j1).1 ∧ Below W0.heap.size W0 wq := by
                refine ⟨j + 1, by omega, by go_num, ?_, ?_, ?_, HB1'.out⟩
                · rw [HGG.out]
                · rw [HGG.out]; exact hal
                · rw [HGG.out]; exact HO1.out
              first | exact fin | ((repeat apply Exists.intro); exact ⟨fin, rfl⟩)
            case measure => simp [intOf]; omega
      · obtain ⟨e1, e2⟩ := HFT.out (j + 1) 1 (by decide) (by omega) (tabTo_short hf0 hs)
        have HE1 := toHid e1
        have HE2 := toHid e2
        have HDB := toHid dB
        generalize rows.getD j ByteArray.empty = s at hcell hsz hs
        have g16 : ((s.size : Int) != 16) = true := by simp; omega
        clear e1 e2 hs hf0 hl ho hbel HFT d0 d1 dT dB
        go_wp2
        go_ret2
        exact ⟨none, 0, by rw [HE1.out, HE2.out]; rfl, by rw [HE1.out]; exact tabO_nil _ _, HDB.out⟩
    · have hjl : j = rows.length := by rw [HLN.out]; omega
      obtain ⟨e1, e2⟩ := tableF_yes HI.out
      rw [← hjl] at e1 e2
      obtain ⟨a, cp, hv, hEn⟩ := ho.ents
      subst hv
      have HE2 : Hid (tableF ⟨c, p, b⟩ rows = 0) := by unfold Hid; rw [e1, hf0]
      have HE1 := toHid e2
      have HEN : Hid (TabO w.heap.size wr a cp (tabTo ⟨c, p, b⟩ rows j).1) := ⟨hEn, ownsRow_basex ho.own HW00.out⟩
      have HDB := toHid dB
      clear ho hbel hf0 hl e1 e2 HFT hjl hEn d0 d1 dT dB
      go_wp2
      go_ret2
      exact ⟨a, cp, by rw [HE1.out, HE2.out]; rfl, by rw [HE1.out]; exact HEN.out, HDB.out⟩

theorem tableOf_any (c p b : Int) (la : Option Addr) (len cap : Nat) (rows : List ByteArray) (w : World) (hT : Texts w la len rows) (hlen : len ≤ 20) :
    Calls Tryz.prog 46 #[.agg #[.int .i64 c, .int .i64 p, .int .i64 b], .slice la len cap] w fun e w' =>
      ∃ lt cp, e = .returned (.tuple #[.slice lt (tableT ⟨c, p, b⟩ rows).length cp, .int .i64 (tableF ⟨c, p, b⟩ rows)]) ∧ TabO w.heap.size w' lt cp (tableT ⟨c, p, b⟩ rows) ∧ Below w.heap.size w w' := by
  cases hk : HV.ok ⟨c, p, b⟩ with
  | false => exact tableOf_head c p b la len cap rows w hk
  | true =>
    by_cases hr : len = rowsN c.toNat
    · exact tableOf_in c p b la len cap rows w hT hlen hk hr
    · exact tableOf_rows c p b la len cap rows w hT hk hr
end Go.Proofs.YtncjnjlakhohgaaGreat
