/-
Whatever the sector, the head and the rows: FormReads answers true (C1 to C3); its arguments stay. No condition.
-/
import Derived.Test.YtmallmchibdkgaaTabOf2
import Derived.Test.YtmallmchibdkgaaFormSays
import Derived.Test.YtmallmchibdkgaaSumSays
namespace Go.Proofs.Ytmallmchibdkgaa.formReads
open Go.ChangeShapes Go.WideShapes Go.ChangeAt Go.RowKit
open Go.ChangeMaps (open_string shut_string)
attribute [local go_sem ↓] Go.wp_at_zero Go.wp_at_succ

def fewN (ls : List ByteArray) (most : Nat) : Bool := decide (ls.length ≤ 20 ∧ ∀ k, k < ls.length → (ls.getD k ByteArray.empty).size ≤ most)

set_option maxRecDepth 100000 in
set_option maxHeartbeats 400000 in
theorem few_any (la : Option Addr) (len cap : Nat) (ls : List ByteArray) (w : World) (hT : Texts w la len ls) (hn : len ≤ maxLen) :
    Calls Try.prog 10 #[.slice la len cap, .int .i64 100] w fun e w' => e = .returned (.bool (fewN ls 100)) ∧ w' = w := by
  unfold maxLen at hn
  obtain ⟨hlen, hT⟩ := hT
  by_cases h20 : 20 < len
  · have HF : Hid (fewN ls 100 = false) := by unfold Hid fewN; simp; omega
    clear hT
    go_enter Try.func10, Try.ntmps10
    go_wp2
    go_ret
    exact ⟨ret_bool HF.out.symm, rfl⟩
  · have HT : Hid (∀ k, k < len → ∃ b off, la = some ⟨b, off, none⟩ ∧ w.cell? ⟨b, off + k, none⟩ = some (.string (ls.getD k ByteArray.empty)) ∧ (ls.getD k ByteArray.empty).size ≤ maxLen) := hT
    have HL : Hid (ls.length = len) := hlen
    clear hT hlen
    go_enter Try.func10, Try.ntmps10
    go_wp2
    go_loop [5] (fun i => ∃ k : Nat, k ≤ len ∧ i = .int .i64 k ∧ ∀ j, j < k → (ls.getD j ByteArray.empty).size ≤ 100) (fun i => len - (intOf i).toNat)
    case atStart => exact ⟨0, Nat.zero_le _, rfl, fun j hj => by omega⟩
    case round =>
      obtain ⟨k, hk, rfl, hall⟩ := hrel
      by_cases hlt : k < len
      · obtain ⟨b, off, rfl, hcell, hsz⟩ := HT.out k hlt
        unfold maxLen at hsz
        by_cases h5 : 100 < (ls.getD k ByteArray.empty).size
        · have HF : Hid (fewN ls 100 = false) := by
            unfold Hid fewN
            simp only [decide_eq_false_iff_not]
            rintro ⟨_, h⟩
            have := h k (by rw [HL.out]; exact hlt)
            omega
          clear hall
          generalize ls.getD k ByteArray.empty = s at hcell hsz h5
          go_wp2
          go_ret
          exact ⟨ret_bool HF.out.symm, rfl⟩
        · have HA : Hid (∀ j, j < k + 1 → (ls.getD j ByteArray.empty).size ≤ 100) := by
            intro j hj
            by_cases e : j = k
            · rw [e]; omega
            · exact hall j (by omega)
          clear hall
          generalize ls.getD k ByteArray.empty = s at hcell hsz h5
          go_wp2
          go_round
          case rel => exact ⟨k + 1, by omega, by go_num, HA.out⟩
          case measure => simp [intOf]; omega
      · have HF : Hid (fewN ls 100 = true) := by
          unfold Hid fewN
          simp only [decide_eq_true_eq]
          exact ⟨by rw [HL.out]; omega, fun j hj => hall j (by have := HL.out; omega)⟩
        clear hall
        go_wp2
        go_ret
        exact ⟨ret_bool HF.out.symm, rfl⟩

theorem stay_cell {w w' : World} (hb : Below w.heap.size w w') {p : Addr} {v : Value} (h : w.cell? p = some v) : w'.cell? p = some v := by
  rw [hb.cell (World.block_lt_of_cell? w _ h)]; exact h

theorem tabTo_len (h : HV) (rows : List ByteArray) (hp : 0 ≤ h.c) : ∀ j, (((tabTo h rows j).1.length : Nat) : Int) ≤ h.c := by
  intro j
  induction j with
  | zero => exact hp
  | succ j ih =>
    by_cases e : (tabTo h rows j).2 = 0
    · by_cases hs : (rows.getD j ByteArray.empty).size = 16
      · cases hr : rowSt h (tabTo h rows j).1 (rows.getD j ByteArray.empty) 8 with
        | none => rw [tabTo_bad e hs hr]; exact hp
        | some a => rw [tabTo_good e hs hr]; exact rowSt_len ih 8 a hr
      · rw [tabTo_short e hs]; exact hp
    · have : tabTo h rows (j + 1) = ([], (tabTo h rows j).2) := by
        show (if (tabTo h rows j).2 = 0 then _ else _) = _
        rw [if_neg e]
      rw [this]; exact hp

theorem tableT_len (c p b : Int) (rows : List ByteArray) : (tableT ⟨c, p, b⟩ rows).length ≤ 50 := by
  unfold tableT
  split
  · next hi =>
    unfold tableIn at hi
    rw [Bool.and_eq_true] at hi
    have hb := HV.of_ok hi.1
    have := tabTo_len ⟨c, p, b⟩ rows (by omega) rows.length
    omega
  · simp

set_option maxRecDepth 100000 in
set_option maxHeartbeats 4000000 in
theorem walkMain (s : ByteArray) (c p b : Int) (la : Option Addr) (len cap : Nat) (rows : List ByteArray) (w : World) (hT : Texts w la len rows) (hnil : la = none → cap = 0) (hs : s.size ≤ 100) (hf : fewN rows 100 = true) :
    Calls Try.prog 8 #[.string s, .agg #[.int .i64 c, .int .i64 p, .int .i64 b], .slice la len cap] w fun e w' => e = .returned (.bool true) ∧ Below w.heap.size w w' := by
  have hlen : len ≤ 20 := by have := (of_decide_eq_true hf).1; rw [hT.1] at this; exact this
  have g100 : decide (100 < (s.size : Int)) = false := by simp; omega
  obtain ⟨h0, h1, h2, hh⟩ : ∃ h0 h1 h2 : Int, headOf s = ⟨h0, h1, h2⟩ := ⟨_, _, _, rfl⟩
  obtain ⟨k0, k1, k2, k3, k4, hd⟩ : ∃ k0 k1 k2 k3 k4 : Int, deskOf s = ⟨k0, k1, k2, k3, k4⟩ := ⟨_, _, _, _, _, rfl⟩
  have HA : Hid (∀ W : World, Calls Try.prog 40 #[.string s] W fun e w' => e = .returned (.tuple #[.agg #[.int .i64 h0, .int .i64 h1, .int .i64 h2], erV (headF s)]) ∧ Below W.heap.size W w') := fun W => by have := readHead_any s W; rw [hh] at this; exact this
  have HB : Hid (∀ W : World, Calls Try.prog 52 #[.string s] W fun e w' => e = .returned (.tuple #[.agg #[.int .i64 h0, .int .i64 h1, .int .i64 h2], .int .i64 (headF s)]) ∧ Below W.heap.size W w') := fun W => by have := refHeadOf_any s W; rw [hh] at this; exact this
  have HCd : Hid (∀ W : World, Calls Try.prog 50 #[.string s] W fun e w' => e = .returned (.tuple #[.agg #[.int .i64 k0, .int .i64 k1, .int .i64 k2, .int .i64 k3, .int .i64 k4], erV (deskF s)]) ∧ Below W.heap.size W w') := fun W => by have := readDesk_any s W; rw [hd] at this; exact this
  have HDd : Hid (∀ W : World, Calls Try.prog 53 #[.string s] W fun e w' => e = .returned (.tuple #[.agg #[.int .i64 k0, .int .i64 k1, .int .i64 k2, .int .i64 k3, .int .i64 k4], .int .i64 (deskF s)]) ∧ Below W.heap.size W w') := fun W => by have := refDeskOf_any s W; rw [hd] at this; exact this
  have HS1 : Hid (∀ W : World, Calls Try.prog 19 #[erV (headF s), .int .i64 (headF s)] W fun e w' => e = .returned (.bool true) ∧ w' = W) := fun W => errSame _ W (headF_nonneg s)
  have HS2 : Hid (∀ W : World, Calls Try.prog 19 #[erV (deskF s), .int .i64 (deskF s)] W fun e w' => e = .returned (.bool true) ∧ w' = W) := fun W => errSame _ W (deskF_nonneg s)
  have HS3 : Hid (∀ W : World, Calls Try.prog 19 #[erV (tableF ⟨c, p, b⟩ rows), .int .i64 (tableF ⟨c, p, b⟩ rows)] W fun e w' => e = .returned (.bool true) ∧ w' = W) := fun W => errSame _ W (tableF_nonneg _ _)
  have HRT : Hid (∀ (W : World) (lb : Option Addr) (cap2 : Nat), Texts W lb len rows → Calls Try.prog 54 #[.agg #[.int .i64 c, .int .i64 p, .int .i64 b], .slice lb len cap2] W fun e w' => ∃ lt cp, e = .returned (.tuple #[.slice lt (tableT ⟨c, p, b⟩ rows).length cp, erV (tableF ⟨c, p, b⟩ rows)]) ∧ Ents w' lt (tableT ⟨c, p, b⟩ rows).length (tableT ⟨c, p, b⟩ rows) ∧ Below W.heap.size W w') := fun W lb cap2 h => readTable_any c p b lb len cap2 rows W h hlen
  have HTO : Hid (∀ W : World, Texts W la len rows → Calls Try.prog 55 #[.agg #[.int .i64 c, .int .i64 p, .int .i64 b], .slice la len cap] W fun e w' => ∃ lt cp, e = .returned (.tuple #[.slice lt (tableT ⟨c, p, b⟩ rows).length cp, .int .i64 (tableF ⟨c, p, b⟩ rows)]) ∧ Ents w' lt (tableT ⟨c, p, b⟩ rows).length (tableT ⟨c, p, b⟩ rows) ∧ Below W.heap.size W w') := fun W h => tableOf_any c p b la len cap rows W h hlen
  have ht50 : (tableT ⟨c, p, b⟩ rows).length ≤ 50 := tableT_len c p b rows
  generalize erV (headF s) = E1 at HA HS1
  generalize headF s = F1 at HB HS1
  generalize erV (deskF s) = E2 at HCd HS2
  generalize deskF s = F2 at HDd HS2
  generalize erV (tableF ⟨c, p, b⟩ rows) = E3 at HRT HS3
  generalize tableF ⟨c, p, b⟩ rows = F3 at HTO HS3
  generalize tableT ⟨c, p, b⟩ rows = T at HRT HTO ht50
  have HFW : Hid (∀ W : World, Texts W la len rows → Calls Try.prog 10 #[.slice la len cap, .int .i64 100] W fun e w' => e = .returned (.bool true) ∧ w' = W) := fun W h => by have := few_any la len cap rows W h (by unfold maxLen; omega); rw [hf] at this; exact this
  have HT := toHid hT
  have HNL := toHid hnil
  have HSZ : Hid (∀ j, j < len → (rows.getD j ByteArray.empty).size ≤ maxLen) := fun j hj => by obtain ⟨_, _, _, _, h⟩ := hT.2 j hj; exact h
  clear hT hnil hf hh hd
  go_enter Try.func8, Try.ntmps8
  go_wp2_with fail
  refine (heads_any _).mono ?_
  rintro e w1 ⟨rfl, hb1⟩
  have K0_0 : Hid (Below (w.alloc (.cells #[.int .i64 c, .int .i64 p, .int .i64 b] 67)).heap.size (w.alloc (.cells #[.int .i64 c, .int .i64 p, .int .i64 b] 67)) w1) := hb1
  have HX0 : Hid (Below w.heap.size w w1) := ((Below.refl _ _).alloc (Nat.le_refl _) _).trans (hb1.mono (by simp))
  go_wp2_with (go_at_call 10; refine (HFW.out _ (HT.out.below HX0.out)).mono ?_; rintro e w' ⟨rfl, hw⟩; have hw' := hw.symm; subst hw'; clear hw)
  refine (HA.out _).mono ?_
  rintro e w2 ⟨rfl, hb2⟩
  have K0_1 := toHid (K0_0.out.trans (hb2.mono K0_0.out.size))
  clear K0_0
  clear hb2
  have K0_2 := toHid (K0_1.out.alloc K0_1.out.size (.cells #[.int .i64 h0, .int .i64 h1, .int .i64 h2] 67))
  clear K0_1
  have K8_0 : Hid (Below (w2.alloc (.cells #[.int .i64 h0, .int .i64 h1, .int .i64 h2] 67)).heap.size (w2.alloc (.cells #[.int .i64 h0, .int .i64 h1, .int .i64 h2] 67)) (w2.alloc (.cells #[.int .i64 h0, .int .i64 h1, .int .i64 h2] 67))) := Below.refl _ _
  go_wp2_with fail
  refine (HB.out _).mono ?_
  rintro e w3 ⟨rfl, hb3⟩
  have K0_3 := toHid (K0_2.out.trans (hb3.mono K0_2.out.size))
  clear K0_2
  have K8_1 := toHid (K8_0.out.trans (hb3.mono K8_0.out.size))
  clear K8_0
  clear hb3
  have K0_4 := toHid (K0_3.out.alloc K0_3.out.size (.cells #[.int .i64 h0, .int .i64 h1, .int .i64 h2] 67))
  clear K0_3
  have K8_2 := toHid (K8_1.out.alloc K8_1.out.size (.cells #[.int .i64 h0, .int .i64 h1, .int .i64 h2] 67))
  clear K8_1
  have K10_0 : Hid (Below (w3.alloc (.cells #[.int .i64 h0, .int .i64 h1, .int .i64 h2] 67)).heap.size (w3.alloc (.cells #[.int .i64 h0, .int .i64 h1, .int .i64 h2] 67)) (w3.alloc (.cells #[.int .i64 h0, .int .i64 h1, .int .i64 h2] 67))) := Below.refl _ _
  go_wp2_with fail
  refine (HCd.out _).mono ?_
  rintro e w4 ⟨rfl, hb4⟩
  have K0_5 := toHid (K0_4.out.trans (hb4.mono K0_4.out.size))
  clear K0_4
  have K8_3 := toHid (K8_2.out.trans (hb4.mono K8_2.out.size))
  clear K8_2
  have K10_1 := toHid (K10_0.out.trans (hb4.mono K10_0.out.size))
  clear K10_0
  clear hb4
  have K0_6 := toHid (K0_5.out.alloc K0_5.out.size (.cells #[.int .i64 k0, .int .i64 k1, .int .i64 k2, .int .i64 k3, .int .i64 k4] 70))
  clear K0_5
  have K8_4 := toHid (K8_3.out.alloc K8_3.out.size (.cells #[.int .i64 k0, .int .i64 k1, .int .i64 k2, .int .i64 k3, .int .i64 k4] 70))
  clear K8_3
  have K10_2 := toHid (K10_1.out.alloc K10_1.out.size (.cells #[.int .i64 k0, .int .i64 k1, .int .i64 k2, .int .i64 k3, .int .i64 k4] 70))
  clear K10_1
  have K12_0 : Hid (Below (w4.alloc (.cells #[.int .i64 k0, .int .i64 k1, .int .i64 k2, .int .i64 k3, .int .i64 k4] 70)).heap.size (w4.alloc (.cells #[.int .i64 k0, .int .i64 k1, .int .i64 k2, .int .i64 k3, .int .i64 k4] 70)) (w4.alloc (.cells #[.int .i64 k0, .int .i64 k1, .int .i64 k2, .int .i64 k3, .int .i64 k4] 70))) := Below.refl _ _
  go_wp2_with fail
  refine (HDd.out _).mono ?_
  rintro e w5 ⟨rfl, hb5⟩
  have K0_7 := toHid (K0_6.out.trans (hb5.mono K0_6.out.size))
  clear K0_6
  have K8_5 := toHid (K8_4.out.trans (hb5.mono K8_4.out.size))
  clear K8_4
  have K10_3 := toHid (K10_2.out.trans (hb5.mono K10_2.out.size))
  clear K10_2
  have K12_1 := toHid (K12_0.out.trans (hb5.mono K12_0.out.size))
  clear K12_0
  clear hb5
  have K0_8 := toHid (K0_7.out.alloc K0_7.out.size (.cells #[.int .i64 k0, .int .i64 k1, .int .i64 k2, .int .i64 k3, .int .i64 k4] 70))
  clear K0_7
  have K8_6 := toHid (K8_5.out.alloc K8_5.out.size (.cells #[.int .i64 k0, .int .i64 k1, .int .i64 k2, .int .i64 k3, .int .i64 k4] 70))
  clear K8_5
  have K10_4 := toHid (K10_3.out.alloc K10_3.out.size (.cells #[.int .i64 k0, .int .i64 k1, .int .i64 k2, .int .i64 k3, .int .i64 k4] 70))
  clear K10_3
  have K12_2 := toHid (K12_1.out.alloc K12_1.out.size (.cells #[.int .i64 k0, .int .i64 k1, .int .i64 k2, .int .i64 k3, .int .i64 k4] 70))
  clear K12_1
  have K14_0 : Hid (Below (w5.alloc (.cells #[.int .i64 k0, .int .i64 k1, .int .i64 k2, .int .i64 k3, .int .i64 k4] 70)).heap.size (w5.alloc (.cells #[.int .i64 k0, .int .i64 k1, .int .i64 k2, .int .i64 k3, .int .i64 k4] 70)) (w5.alloc (.cells #[.int .i64 k0, .int .i64 k1, .int .i64 k2, .int .i64 k3, .int .i64 k4] 70))) := Below.refl _ _
  have hTi : Texts (w5.alloc (.cells #[.int .i64 k0, .int .i64 k1, .int .i64 k2, .int .i64 k3, .int .i64 k4] 70)) la len rows := HT.out.below (((Below.refl _ _).alloc (Nat.le_refl _) _).trans (K0_8.out.mono (by simp)))
  obtain ⟨v1, wv, g, cap2, wo, hr1, hr2, hbo, hcap, hcapm, hg, hcells⟩ := sumSays.own_run (w5.alloc (.cells #[.int .i64 k0, .int .i64 k1, .int .i64 k2, .int .i64 k3, .int .i64 k4] 70)) la len cap rows hTi HNL.out hlen
  unfold maxLen at hcapm
  have HA1 := toHid hr1
  have HA2 := toHid hr2
  have HTo := toHid (hTi.below hbo)
  have HCo := toHid hcells
  have HEo : Hid (Texts wo (some ⟨g, 0, none⟩) len rows) := ⟨HT.out.1, fun j hj => ⟨g, 0, rfl, by rw [Nat.zero_add]; exact HCo.out j hj, HSZ.out j hj⟩⟩
  have K0_9 := toHid (K0_8.out.trans (hbo.mono K0_8.out.size))
  clear K0_8
  have K8_7 := toHid (K8_6.out.trans (hbo.mono K8_6.out.size))
  clear K8_6
  have K10_5 := toHid (K10_4.out.trans (hbo.mono K10_4.out.size))
  clear K10_4
  have K12_3 := toHid (K12_2.out.trans (hbo.mono K12_2.out.size))
  clear K12_2
  have K14_1 := toHid (K14_0.out.trans (hbo.mono K14_0.out.size))
  clear K14_0
  have c0 := new_cell K0_9.out 0 _ rfl
  have c1 := new_cell K0_9.out 1 _ rfl
  have c2 := new_cell K0_9.out 2 _ rfl
  clear hTi hr1 hr2 hbo hcells hb1 hg
  go_wp2_with (first | (at_builtin; refine sumSays.wpList_append_run rfl _ _ 22 22 rfl rfl rfl rfl HA1.out ?_) | (at_builtin; refine sumSays.wpList_append_run rfl _ _ 22 22 rfl rfl rfl rfl HA2.out ?_))
  clear c0 c1 c2 HA1 HA2
  refine (HRT.out _ _ _ HEo.out).mono ?_
  rintro e w6 ⟨l6, p6, rfl, hE6, hb6⟩
  have K0_10 := toHid (K0_9.out.trans (hb6.mono K0_9.out.size))
  clear K0_9
  have K8_8 := toHid (K8_7.out.trans (hb6.mono K8_7.out.size))
  clear K8_7
  have K10_6 := toHid (K10_5.out.trans (hb6.mono K10_5.out.size))
  clear K10_5
  have K12_4 := toHid (K12_3.out.trans (hb6.mono K12_3.out.size))
  clear K12_3
  have K14_2 := toHid (K14_1.out.trans (hb6.mono K14_1.out.size))
  clear K14_1
  have HTo2 := toHid (HTo.out.below hb6)
  have HCo2 : Hid (∀ j, j < len → w6.cell? ⟨g, j, none⟩ = some (.string (rows.getD j ByteArray.empty))) := fun j hj => stay_cell hb6 (HCo.out j hj)
  have c0 := new_cell K0_10.out 0 _ rfl
  have c1 := new_cell K0_10.out 1 _ rfl
  have c2 := new_cell K0_10.out 2 _ rfl
  have HE6 := toHid hE6
  clear hE6 hb6 HTo HCo HEo
  go_wp2_with fail
  clear c0 c1 c2
  refine (HTO.out _ HTo2.out).mono ?_
  rintro e w7 ⟨l7, p7, rfl, hE7, hb7⟩
  have K0_11 := toHid (K0_10.out.trans (hb7.mono K0_10.out.size))
  clear K0_10
  have K8_9 := toHid (K8_8.out.trans (hb7.mono K8_8.out.size))
  clear K8_8
  have K10_7 := toHid (K10_6.out.trans (hb7.mono K10_6.out.size))
  clear K10_6
  have K12_5 := toHid (K12_4.out.trans (hb7.mono K12_4.out.size))
  clear K12_4
  have K14_3 := toHid (K14_2.out.trans (hb7.mono K14_2.out.size))
  clear K14_2
  have HE6b := toHid (HE6.out.below hb7)
  have HE7 := toHid hE7
  have HTo3 := toHid (HTo2.out.below hb7)
  have HCo3 : Hid (∀ j, j < len → w7.cell? ⟨g, j, none⟩ = some (.string (rows.getD j ByteArray.empty))) := fun j hj => stay_cell hb7 (HCo2.out j hj)
  have k8_0 := new_cell K8_9.out 0 _ rfl
  have k8_1 := new_cell K8_9.out 1 _ rfl
  have k8_2 := new_cell K8_9.out 2 _ rfl
  have k10_0 := new_cell K10_7.out 0 _ rfl
  have k10_1 := new_cell K10_7.out 1 _ rfl
  have k10_2 := new_cell K10_7.out 2 _ rfl
  have k12_0 := new_cell K12_5.out 0 _ rfl
  have k12_1 := new_cell K12_5.out 1 _ rfl
  have k12_2 := new_cell K12_5.out 2 _ rfl
  have k12_3 := new_cell K12_5.out 3 _ rfl
  have k12_4 := new_cell K12_5.out 4 _ rfl
  have k14_0 := new_cell K14_3.out 0 _ rfl
  have k14_1 := new_cell K14_3.out 1 _ rfl
  have k14_2 := new_cell K14_3.out 2 _ rfl
  have k14_3 := new_cell K14_3.out 3 _ rfl
  have k14_4 := new_cell K14_3.out 4 _ rfl
  have HX7 : Hid (Below w.heap.size w w7) := ((Below.refl _ _).alloc (Nat.le_refl _) _).trans (K0_11.out.mono (by simp))
  clear hE7 hb7 HTo2 HCo2 HE6 K0_11 K8_9 K10_7 K12_5 K14_3
  go_wp2_with fail
  refine (HS1.out _).mono ?_
  rintro e w' ⟨rfl, hw⟩
  have hw' := hw.symm
  subst hw'
  clear hw
  go_wp2_with fail
  refine (HS2.out _).mono ?_
  rintro e w' ⟨rfl, hw⟩
  have hw' := hw.symm
  subst hw'
  clear hw
  go_wp2_with fail
  refine (HS3.out _).mono ?_
  rintro e w' ⟨rfl, hw⟩
  have hw' := hw.symm
  subst hw'
  clear hw
  go_wp2_with fail
  refine (sameTable_any _ _ _ _ _ T _ HE6b.out HE7.out ht50).mono ?_
  rintro e w8 ⟨rfl, hb8⟩
  have HTo4 := toHid (HTo3.out.below hb8)
  have HCo4 : Hid (∀ j, j < len → w8.cell? ⟨g, j, none⟩ = some (.string (rows.getD j ByteArray.empty))) := fun j hj => stay_cell hb8 (HCo3.out j hj)
  go_wp2_with fail
  refine (sameTexts_any g cap2 la len cap rows w8 HTo4.out (by unfold maxLen; omega) HCo4.out).mono ?_
  rintro e w9 ⟨rfl, hb9⟩
  go_wp2
  go_ret
  have hx := HX7.out.trans (hb8.mono HX7.out.size)
  exact ⟨rfl, hx.trans (hb9.mono hx.size)⟩

set_option maxRecDepth 100000 in
set_option maxHeartbeats 1000000 in
theorem walkLong (s : ByteArray) (c p b : Int) (la : Option Addr) (len cap : Nat) (w : World) (h100 : 100 < s.size) :
    Calls Try.prog 8 #[.string s, .agg #[.int .i64 c, .int .i64 p, .int .i64 b], .slice la len cap] w fun e w' => e = .returned (.bool true) ∧ Below w.heap.size w w' := by
  have g100 : decide (100 < (s.size : Int)) = true := by simp; omega
  go_enter Try.func8, Try.ntmps8
  go_wp2_with fail
  refine (heads_any _).mono ?_
  rintro e w1 ⟨rfl, hb1⟩
  go_wp2
  go_ret
  exact ⟨rfl, ((Below.refl _ _).alloc (Nat.le_refl _) _).trans (hb1.mono (by simp))⟩

set_option maxRecDepth 100000 in
set_option maxHeartbeats 1000000 in
theorem walkNone (s : ByteArray) (c p b : Int) (la : Option Addr) (len cap : Nat) (rows : List ByteArray) (w : World) (hT : Texts w la len rows) (hlen : len ≤ maxLen) (hs : s.size ≤ 100) (hf : fewN rows 100 = false) :
    Calls Try.prog 8 #[.string s, .agg #[.int .i64 c, .int .i64 p, .int .i64 b], .slice la len cap] w fun e w' => e = .returned (.bool true) ∧ Below w.heap.size w w' := by
  have g100 : decide (100 < (s.size : Int)) = false := by simp; omega
  have HFW : Hid (∀ W : World, Texts W la len rows → Calls Try.prog 10 #[.slice la len cap, .int .i64 100] W fun e w' => e = .returned (.bool false) ∧ w' = W) := fun W h => by have := few_any la len cap rows W h hlen; rw [hf] at this; exact this
  have HT := toHid hT
  clear hT hf
  go_enter Try.func8, Try.ntmps8
  go_wp2_with fail
  refine (heads_any _).mono ?_
  rintro e w1 ⟨rfl, hb1⟩
  have HX0 : Hid (Below w.heap.size w w1) := ((Below.refl _ _).alloc (Nat.le_refl _) _).trans (hb1.mono (by simp))
  go_wp2_with (go_at_call 10; refine (HFW.out _ (HT.out.below HX0.out)).mono ?_; rintro e w' ⟨rfl, hw⟩; have hw' := hw.symm; subst hw'; clear hw)
  go_ret
  exact ⟨rfl, HX0.out⟩

theorem walk (s : ByteArray) (c p b : Int) (la : Option Addr) (len cap : Nat) (rows : List ByteArray) (w : World) (hT : Texts w la len rows) (hnil : la = none → cap = 0) (hlen : len ≤ maxLen) :
    Calls Try.prog 8 #[.string s, .agg #[.int .i64 c, .int .i64 p, .int .i64 b], .slice la len cap] w fun e w' => e = .returned (.bool true) ∧ Below w.heap.size w w' := by
  by_cases hs : 100 < s.size
  · exact walkLong s c p b la len cap w hs
  · cases hf : fewN rows 100 with
    | false => exact walkNone s c p b la len cap rows w hT hlen (by omega) hf
    | true => exact walkMain s c p b la len cap rows w hT hnil (by omega) hf

theorem own : ownKnob Try.prog.godebug = none := by kernel_rfl
theorem laidOut : laidOutB Try.prog = true := by kernel_rfl

set_option maxRecDepth 100000 in
theorem lifted (os : Os) (started : os.Started) (H : Type) (enc : TypeId × Value → H) :
    ReturnsInHanded {} Try.checked os 8 .any (Rows.formReadsSpec.pre6 enc Try.prog Try.f8 Rows.formReadsRow.domain false) (Rows.formReadsSpec.post enc Try.prog Try.f8 false true false false) := by
  refine returnsInHanded_of_change (C := Try.checked) own started (by kernel_rfl) Try.func8
    (ChangeSpec.witness6 (enc := enc) (C := Try.checked) false ⟨#[], #[.string ByteArray.empty, .agg #[.int .i64 0, .int .i64 0, .int .i64 0], .slice none 0 0], []⟩ 8 (by kernel_rfl) (by kernel_rfl) (by kernel_rfl) (by kernel_rfl)) ?_
  intro W base args ds gs before hval0 hW hcnd _
  have hval : ∀ (j : Nat) t v, Try.f8.params[j]? = some t → args[j]? = some v → Value.okWide Try.prog W .any base t v := hval0
  have hW' := hW
  obtain ⟨p, q, hA0, hV, rfl, hfz, hnd⟩ := hW
  have hA : DataW.TrodAll enc Try.prog W 0 (fun _ => true) true Try.f8.params.toList args.toList ds p := hA0
  rw [Try.params8] at hA hval
  obtain ⟨v0, vs0, d0, ds0, p0, q0, hargs, rfl, rfl, h0, r0⟩ := trodAll_cons hA
  obtain ⟨v1, vs1, d1, ds1, p1, q1, rfl, rfl, rfl, h1, r1⟩ := trodAll_cons r0
  obtain ⟨v2, vs2, d2, ds2, p2, q2, rfl, rfl, rfl, h2, r2⟩ := trodAll_cons r1
  obtain ⟨rfl, rfl, rfl⟩ := trodAll_nil r2
  obtain rfl : args = #[v0, v1, v2] := by cases args; simp_all
  obtain ⟨rfl, rfl⟩ := trodVars_none hV
  have k1 := h1
  have k2 := h2
  have lt1 : ∀ x ∈ p1, x.block < W.heap.size := by obtain ⟨m, hm⟩ := k1; exact DataW.trod_lt m _ _ _ hm
  have lt2 : ∀ x ∈ p2, x.block < W.heap.size := by obtain ⟨m, hm⟩ := k2; exact DataW.trod_lt m _ _ _ hm
  obtain ⟨a0, rfl, rfl, rfl, w0⟩ := open_string Try.underlying9 (hval 0 9 v0 rfl rfl) h0
  obtain ⟨cs1, rfl, _⟩ := okWide_struct Try.underlying67 (hval 1 67 v1 rfl rfl)
  obtain ⟨la, len, cap, rfl⟩ := okWide_slice Try.underlying22 (hval 2 22 v2 rfl rfl)
  obtain ⟨fuel1, hf1⟩ := h1
  obtain ⟨c, pl, b, e1⟩ := formSays.open_head hf1
  obtain ⟨ls, hT, hnil, hlen⟩ : ∃ ls, Texts W la len ls ∧ (la = none → cap = 0) ∧ len ≤ maxLen := by
    obtain ⟨fuel, hf⟩ := h2
    rcases open_strings Try.underlying22 Try.underlying9 (by kernel_rfl) hf with ⟨hcs, _⟩ | ⟨x, l, c, ss, hcs, _, hl, hm, hz, _, hcell, hws⟩
    · simp [Value.cells] at hcs
      obtain ⟨rfl, rfl, rfl⟩ := hcs
      exact ⟨[], ⟨rfl, fun k hk => by omega⟩, fun _ => rfl, by unfold maxLen; omega⟩
    · simp [Value.cells] at hcs
      obtain ⟨rfl, rfl, rfl⟩ := hcs
      have hz' : ss.length = cap := by simpa using hz
      refine ⟨ss.take len, ⟨by rw [List.length_take]; omega, fun k hk => ?_⟩, (fun e => by cases e), by omega⟩
      obtain ⟨b, off, rfl, hc⟩ := sumSays.texts_at hcell (by omega)
      have hg : (ss.take len).getD k ByteArray.empty = ss.getD k ByteArray.empty := by simp [List.getD, hk]
      refine ⟨b, off, rfl, by rw [hg]; exact hc k (by omega), ?_⟩
      rw [hg]
      have hkl : k < ss.length := by omega
      have : ss.getD k ByteArray.empty = ss[k] := by simp [List.getD, List.getElem?_eq_getElem hkl]
      rw [this]
      exact hws _ (List.getElem_mem hkl)
  have e1' := formSays.arr_of e1
  subst e1'
  clear hA0 hval0 hf1 e1
  refine (walk a0 c pl b la len cap ls W hT hnil hlen).mono fun e W' ⟨he, bel⟩ => ?_
  subst he
  exact ⟨_, rfl, _, _, _, [], _, [], hW', trodAll_mk1 (shut_bool Try.underlying4 _), (trodAll_cons_mk (shut_string Try.underlying9 w0) (trodAll_cons_mk (Below.trod laidOut (by kernel_rfl) (of_decide_eq_true (by kernel_rfl)) k1 bel lt1) (trodAll_cons_mk (Below.trod laidOut (by kernel_rfl) (of_decide_eq_true (by kernel_rfl)) k2 bel lt2) trodAll_mk0))), rfl, bel.frame _, fun h => by cases h⟩

theorem over : Rows.formReadsRow.holds Try.pinned (OpenSpec.ofChange Rows.formReadsSpec) :=
  OpenClaim.holds_of_wide 8 Try.f8 rfl rfl rfl rfl rfl rfl rfl ⟨rfl, rfl, rfl, rfl, rfl⟩ rfl rfl rfl rfl rfl (by kernel_rfl) Try.func8 (by kernel_rfl)
    (of_decide_eq_true (by kernel_rfl)) (by unfold Func.isWrapper; first | (rw [if_pos (by decide +kernel)]; kernel_rfl) | (rw [if_neg (by decide +kernel)]; exact ⟨rfl, rfl⟩))
    (fun os started H enc _ => lifted os started H enc)
end Go.Proofs.Ytmallmchibdkgaa.formReads

namespace Go.Proofs.Ytmallmchibdkgaa
theorem formReads_holds : Rows.FormReadsSaid := formReads.over
#print axioms formReads_holds
end Go.Proofs.Ytmallmchibdkgaa
