/-
ImageSays: where it ends early, where no image is made, and its rounds.
-/
import Derived.Test.YtncjnjlakhohgaaGreatQSays0
namespace Go.Proofs.YtncjnjlakhohgaaGreat
open Go.RowKit Go.Maps
attribute [local go_sem ↓] Go.wp_at_zero Go.wp_at_succ

theorem act_oneZ (x : ActV) : ∀ v ∈ x.cells.toArray.toList, v.oneCell' = true := by
  intro v hv
  simp only [ActV.cells, List.mem_cons, List.not_mem_nil, or_false] at hv
  rcases hv with rfl | rfl | rfl | rfl | rfl | rfl | rfl <;> rfl

set_option maxRecDepth 100000 in
set_option maxHeartbeats 1000000 in
theorem says_early (c p b sectors : Int) (la : Option Addr) (len cap : Nat) (xs : List ActV) (w : World) (hT : Acts w la len xs) (hlen : len ≤ maxLen) (hf : lightB xs 50 = false) :
    Calls Tryz.prog 3 #[.agg #[.int .i64 c, .int .i64 p, .int .i64 b], .int .i64 sectors, .slice la len cap] w fun e w' => e = .returned (.bool true) ∧ Below w.heap.size w w' := by
  have HT0 : Hid (Acts w la len xs) := hT
  clear hT
  have HBX : Hid (Below w.heap.size w (w.alloc (.cells #[.int .i64 c, .int .i64 p, .int .i64 b] 23))) := (Below.refl _ _).alloc (Nat.le_refl _) _
  go_enter Tryz.func3, Tryz.ntmps3
  go_wp2_with fail
  generalize w.alloc (.cells #[.int .i64 c, .int .i64 p, .int .i64 b] 23) = wA at HBX ⊢
  refine (images_any wA).mono ?_
  rintro e w1 ⟨rfl, hb1⟩
  have HB1 := toHid (HBX.out.trans (hb1.mono HBX.out.size))
  clear hb1
  go_wp2_with fail
  refine (light_any la len cap 50 xs w1 (HT0.out.below HB1.out) hlen (by omega)).mono ?_
  rintro e w' ⟨he, hw⟩
  have hw' := hw.symm
  subst hw'
  clear hw
  rw [hf] at he
  subst he
  go_wp2
  go_ret
  exact ⟨rfl, HB1.out⟩

set_option maxRecDepth 100000 in
set_option maxHeartbeats 1000000 in
theorem says_no (c p b sectors : Int) (la : Option Addr) (len cap : Nat) (xs : List ActV) (w : World) (hT : Acts w la len xs) (hlen : len ≤ maxLen) (hf : lightB xs 50 = true) (hn : sectors < 1 ∨ 200 < sectors) :
    Calls Tryz.prog 3 #[.agg #[.int .i64 c, .int .i64 p, .int .i64 b], .int .i64 sectors, .slice la len cap] w fun e w' => e = .returned (.bool true) ∧ Below w.heap.size w w' := by
  have HT0 : Hid (Acts w la len xs) := hT
  have HNN := toHid (fun W : World => new_no sectors W hn)
  clear hT hn
  have HBX : Hid (Below w.heap.size w (w.alloc (.cells #[.int .i64 c, .int .i64 p, .int .i64 b] 23))) := (Below.refl _ _).alloc (Nat.le_refl _) _
  go_enter Tryz.func3, Tryz.ntmps3
  go_wp2_with fail
  generalize w.alloc (.cells #[.int .i64 c, .int .i64 p, .int .i64 b] 23) = wA at HBX ⊢
  refine (images_any wA).mono ?_
  rintro e w1 ⟨rfl, hb1⟩
  have HB1 := toHid (HBX.out.trans (hb1.mono HBX.out.size))
  clear hb1
  go_wp2_with fail
  refine (light_any la len cap 50 xs w1 (HT0.out.below HB1.out) hlen (by omega)).mono ?_
  rintro e w' ⟨he, hw⟩
  have hw' := hw.symm
  subst hw'
  clear hw
  rw [hf] at he
  subst he
  go_wp2_with fail
  refine (HNN.out _).mono ?_
  rintro e w' ⟨rfl, hw⟩
  have hw' := hw.symm
  subst hw'
  clear hw
  go_wp2
  go_ret
  exact ⟨rfl, HB1.out⟩

theorem box_head {w W : World} {c p b : Int} (hb : W.heap[w.heap.size]? = some (.cells #[.int .i64 c, .int .i64 p, .int .i64 b] 23 (0, 0))) :
    W.cell? ⟨w.heap.size, 0, none⟩ = some (.int .i64 c) ∧ W.cell? ⟨w.heap.size, 1, none⟩ = some (.int .i64 p) ∧ W.cell? ⟨w.heap.size, 2, none⟩ = some (.int .i64 b) := by
  refine ⟨?_, ?_, ?_⟩ <;> (rw [cell_of_row _ _ _ _ _ _ hb]; rfl)

set_option maxRecDepth 100000 in
set_option maxHeartbeats 16000000 in
theorem says_yes (c p b : Int) (n : Nat) (la : Option Addr) (len cap : Nat) (xs : List ActV) (w : World) (hT : Acts w la len xs) (hlen : len ≤ maxLen) (hB : ActsB xs) (hf : lightB xs 50 = true) (hn1 : 1 ≤ n) (hn2 : n ≤ 200) :
    Calls Tryz.prog 3 #[.agg #[.int .i64 c, .int .i64 p, .int .i64 b], .int .i64 (n : Int), .slice la len cap] w fun e w' => e = .returned (.bool true) ∧ Below w.heap.size w w' := by
  have HT0 : Hid (Acts w la len xs) := hT
  have hlt0 : xs.length = len := hT.1
  have hl50 : len ≤ 50 := by
    unfold lightB at hf
    simp only [decide_eq_true_eq] at hf
    omega
  have HLT : Hid (∀ k, k < len → (xs.getD k ActV.none_).s.size ≤ 700 ∧ (-9223372036854775808 ≤ (xs.getD k ActV.none_).b ∧ (xs.getD k ActV.none_).b ≤ 9223372036854775807)) := by
    have hf2 := hf
    unfold lightB at hf2
    simp only [decide_eq_true_eq] at hf2
    intro k hk
    exact ⟨(hf2.2 k (by omega)).1, hB k (by omega)⟩
  have HF := toHid hf
  have HFN : Hid ((DV.made (List.replicate n noughts) 0).fine (DV.made (List.replicate n noughts) 0).fl.length 0) := ⟨DV.made_ok (by simpa using hn1) (by simpa using hn2) (fun s hs => by rw [List.eq_of_mem_replicate hs]; decide) (by decide), made_sn _ _, rfl, Nat.le_refl _⟩
  have HBX : Hid (Below w.heap.size w (w.alloc (.cells #[.int .i64 c, .int .i64 p, .int .i64 b] 23))) := (Below.refl _ _).alloc (Nat.le_refl _) _
  have HX1 : Hid ((w.alloc (.cells #[.int .i64 c, .int .i64 p, .int .i64 b] 23)).heap[w.heap.size]? = some (.cells #[.int .i64 c, .int .i64 p, .int .i64 b] 23 (0, 0))) := heap_alloc_new _ _
  clear hT hf hB hlt0
  go_enter Tryz.func3, Tryz.ntmps3
  go_wp2_with fail
  generalize w.alloc (.cells #[.int .i64 c, .int .i64 p, .int .i64 b] 23) = wA at HBX HX1 ⊢
  have hNl : w.heap.size < wA.heap.size := lt_of_some HX1.out
  refine (images_any wA).mono ?_
  rintro e w1 ⟨rfl, hb1⟩
  have HB1 := toHid (HBX.out.trans (hb1.mono HBX.out.size))
  have HA1 := toHid hb1
  clear hb1
  go_wp2_with fail
  refine (light_any la len cap 50 xs w1 (HT0.out.below HB1.out) hlen (by omega)).mono ?_
  rintro e w' ⟨he, hw⟩
  have hw' := hw.symm
  subst hw'
  clear hw
  rw [HF.out] at he
  subst he
  go_wp2_with fail
  refine (new_yes n _ hn1 hn2).mono ?_
  rintro e w2 ⟨h, rfl, hd2, hb2⟩
  have HB2 := toHid (HB1.out.trans (hb2.mono HB1.out.size))
  have HA2 := toHid (HA1.out.trans (hb2.mono HA1.out.size))
  have HD2 := toHid (hd2.base HB1.out.size)
  clear hd2 hb2 HB1 HA1 HF
  go_wp2_with fail
  refine (newDev_any n _ hn1 hn2).mono ?_
  rintro e w3 ⟨q, rfl, hr3, hb3⟩
  have HB3 := toHid (HB2.out.trans (hb3.mono HB2.out.size))
  have HA3 := toHid (HA2.out.trans (hb3.mono HA2.out.size))
  have HR3 := toHid (hr3.base HB2.out.size)
  have HD3 : Hid (IsDev w.heap.size w3 h (DV.made (List.replicate n noughts) 0)) := HD2.out.keep fun k hk => hb3.block k (HD2.out.lt k hk).2
  clear hr3 hb3 HB2 HD2 HA2
  have HX3 : Hid (w3.heap[w.heap.size]? = some (.cells #[.int .i64 c, .int .i64 p, .int .i64 b] 23 (0, 0))) := by unfold Hid; rw [HA3.out.block _ hNl]; exact HX1.out
  obtain ⟨y0, y1, y2⟩ := box_head HX3.out
  have HCR := toHid (create_two c p b HD3.out HR3.out HFN.out (by decide) HB3.out.size)
  generalize DV.made (List.replicate n noughts) 0 = dm at HCR HD3 HR3 HFN
  have hfp := crF_pos dm ⟨c, p, b⟩
  have HND := toHid (fun (W : World) (hk : HV.ok ⟨c, p, b⟩ = true) => need_any c p b W hk)
  have HNR := toHid (fun (W : World) (hk : HV.ok ⟨c, p, b⟩ = true) => refNeed_any c p b W hk)
  generalize crV dm ⟨c, p, b⟩ = V0 at HCR
  generalize crT ⟨c, p, b⟩ = U0 at HCR
  generalize crF dm ⟨c, p, b⟩ = f at HCR hfp
  generalize needN ⟨c, p, b⟩ = nn at HND HNR
  go_wp2_with fail
  refine HCR.out.mono ?_
  rintro e w4 ⟨vi, tb, rfl, htb, hk4, hcr2⟩
  have HC2 := toHid hcr2
  have hx4 := hk4.box HX3.out (by decide) (by have := lt_of_some HX3.out; omega)
  obtain ⟨z0, z1, z2⟩ := box_head hx4
  have HX4 := toHid hx4
  have HB4 := toHid (HB3.out.trans (hk4.below HB3.out.size))
  clear hcr2 hx4 hk4 htb y0 y1 y2 HCR HD3 HR3 HX3 HA3 HFN
  go_wp2_with fail
  refine HC2.out.mono ?_
  rintro e w5 ⟨vm, rfl, hk5, hor⟩
  have hx5 := hk5.box HX4.out (by decide)
  obtain ⟨y0, y1, y2⟩ := box_head hx5
  have HB5 := toHid (HB4.out.trans (hk5.below HB4.out.size))
  have hNl5 := lt_of_some hx5
  clear hx5 hk5 z0 z1 z2 HC2 HX4 HB4 HX1 HBX
  have HSM : Hid (∀ W : World, Calls Tryz.prog 11 #[erV f, .int .i64 f] W fun e w' => e = .returned (.bool true) ∧ w' = W) := fun W => errSame f W hfp
  rcases hor with ⟨hf0, rfl, rfl⟩ | ⟨rfl, hk, x, r, rfl, rfl, hxp, hrp, hpr, hsf⟩
  · clear HND HNR
    generalize erV f = ef at HSM ⊢
    have gf : (f == 0) = false := beq_eq_false_iff_ne.2 hf0
    go_wp2
    have hSA : Below w5.heap.size w5 w5.drew := Below.drew (Below.refl _ _)
    refine wp_region_noPanic ?_
    refine wp_region_held_drew (S := fun W => Below w5.heap.size w5 W) (by kernel_rfl) hSA (fun _ => ?_)
    refine wpAnyH_take (i := 0) (oi := _) (v := ?_) rfl (by kernel_rfl) (by kernel_rfl) (by kernel_rfl) (fun _ _ _ h => h) (Or.inl ⟨by rfl, ?_⟩) hSA ?_
    rotate_left
    · (intro w hSw; go_simp; try with_reducible rfl)
    (try simp only [Act.put, List.getElem_toArray, List.getElem_cons_zero, List.setIfInBounds_toArray, List.set_cons_zero, List.set_cons_succ])
    refine wpAnyH_take (i := 1) (oi := _) (v := ?_) rfl (by kernel_rfl) (by kernel_rfl) (by kernel_rfl) (fun _ _ _ h => h) (Or.inl ⟨by rfl, ?_⟩) hSA ?_
    rotate_left
    · (intro w hSw; go_simp; try with_reducible rfl)
    (try simp only [Act.put, List.getElem_toArray, List.getElem_cons_succ, List.getElem_cons_zero, List.setIfInBounds_toArray, List.set_cons_zero, List.set_cons_succ])
    refine wpAnyH_ready (rs := [2]) (by kernel_rfl) (by simp) ?_
    refine AllReadyH.cons (o := _) rfl (fun K hK => ?_) ?_
    · go_simp
      refine (HSM.out _).mono ?_
      rintro e wN ⟨rfl, rfl⟩
      try go_wp2_with fail
      refine hK.out _ _ hSA (fun _ => ?_)
      clear hK K
      (try simp only [Act.put, List.getElem_toArray, List.getElem_cons_succ, List.getElem_cons_zero, List.setIfInBounds_toArray, List.set_cons_zero, List.set_cons_succ])
      refine wpAnyH_take (i := 3) (oi := _) (v := ?_) rfl (by kernel_rfl) (by kernel_rfl) (by kernel_rfl) (fun _ _ _ h => h) (Or.inl ⟨by rfl, ?_⟩) hSA ?_
      rotate_left
      · (intro w hSw; go_simp; try with_reducible rfl)
      (try simp only [Act.put, List.getElem_toArray, List.getElem_cons_succ, List.getElem_cons_zero, List.setIfInBounds_toArray, List.set_cons_zero, List.set_cons_succ])
      refine wpAnyH_take (i := 4) (oi := _) (v := ?_) rfl (by kernel_rfl) (by kernel_rfl) (by kernel_rfl) (fun _ _ _ h => h) (Or.inl ⟨by rfl, ?_⟩) hSA ?_
      rotate_left
      · (intro w hSw; go_simp; try with_reducible rfl)
      (try simp only [Act.put, List.getElem_toArray, List.getElem_cons_succ, List.getElem_cons_zero, List.setIfInBounds_toArray, List.set_cons_zero, List.set_cons_succ])
      refine wpAnyH_take (i := 5) (oi := _) (v := ?_) rfl (by kernel_rfl) (by kernel_rfl) (by kernel_rfl) (fun _ _ _ h => h) (Or.inl ⟨by rfl, ?_⟩) hSA ?_
      rotate_left
      · (intro w hSw; go_simp; try with_reducible rfl)
      (try simp only [Act.put, List.getElem_toArray, List.getElem_cons_succ, List.getElem_cons_zero, List.setIfInBounds_toArray, List.set_cons_zero, List.set_cons_succ])
      refine wpAnyH_take (i := 6) (oi := _) (v := ?_) rfl (by kernel_rfl) (by kernel_rfl) (by kernel_rfl) (fun _ _ _ h => h) (Or.inl ⟨by rfl, ?_⟩) hSA ?_
      rotate_left
      · (intro w hSw; go_simp; try with_reducible rfl)
      (try simp only [Act.put, List.getElem_toArray, List.getElem_cons_succ, List.getElem_cons_zero, List.setIfInBounds_toArray, List.set_cons_zero, List.set_cons_succ])
      refine wpAnyH_take (i := 7) (oi := _) (v := ?_) rfl (by kernel_rfl) (by kernel_rfl) (by kernel_rfl) (fun _ _ _ h => h) (Or.inl ⟨by rfl, ?_⟩) hSA ?_
      rotate_left
      · (intro w hSw; go_simp; try with_reducible rfl)
      (try simp only [Act.put, List.getElem_toArray, List.getElem_cons_succ, List.getElem_cons_zero, List.setIfInBounds_toArray, List.set_cons_zero, List.set_cons_succ])
      refine wpAnyH_take (i := 8) (oi := _) (v := ?_) rfl (by kernel_rfl) (by kernel_rfl) (by kernel_rfl) (fun _ _ _ h => h) (Or.inl ⟨by rfl, ?_⟩) hSA ?_
      rotate_left
      · (intro w hSw; go_simp; try with_reducible rfl)
      (try simp only [Act.put, List.getElem_toArray, List.getElem_cons_succ, List.getElem_cons_zero, List.setIfInBounds_toArray, List.set_cons_zero, List.set_cons_succ])
      refine wpAnyH_take (i := 9) (oi := _) (v := ?_) rfl (by kernel_rfl) (by kernel_rfl) (by kernel_rfl) (fun _ _ _ h => h) (Or.inl ⟨by rfl, ?_⟩) hSA ?_
      rotate_left
      · (intro w hSw; go_simp; try with_reducible rfl)
      (try simp only [Act.put, List.getElem_toArray, List.getElem_cons_succ, List.getElem_cons_zero, List.setIfInBounds_toArray, List.set_cons_zero, List.set_cons_succ])
      refine wpAnyH_take (i := 10) (oi := _) (v := ?_) rfl (by kernel_rfl) (by kernel_rfl) (by kernel_rfl) (fun _ _ _ h => h) (Or.inl ⟨by rfl, ?_⟩) hSA ?_
      rotate_left
      · (intro w hSw; go_simp; try with_reducible rfl)
      (try simp only [Act.put, List.getElem_toArray, List.getElem_cons_succ, List.getElem_cons_zero, List.setIfInBounds_toArray, List.set_cons_zero, List.set_cons_succ])
      refine wpAnyH_take (i := 11) (oi := _) (v := ?_) rfl (by kernel_rfl) (by kernel_rfl) (by kernel_rfl) (fun _ _ _ h => h) (Or.inl ⟨by rfl, ?_⟩) hSA ?_
      rotate_left
      · (intro w hSw; go_simp; try with_reducible rfl)
      (try simp only [Act.put, List.getElem_toArray, List.getElem_cons_succ, List.getElem_cons_zero, List.setIfInBounds_toArray, List.set_cons_zero, List.set_cons_succ])
      refine wpAnyH_take (i := 12) (oi := _) (v := ?_) rfl (by kernel_rfl) (by kernel_rfl) (by kernel_rfl) (fun _ _ _ h => h) (Or.inl ⟨by rfl, ?_⟩) hSA ?_
      rotate_left
      · (intro w hSw; go_simp; try with_reducible rfl)
      (try simp only [Act.put, List.getElem_toArray, List.getElem_cons_succ, List.getElem_cons_zero, List.setIfInBounds_toArray, List.set_cons_zero, List.set_cons_succ])
      refine wpAnyH_take (i := 13) (oi := _) (v := ?_) rfl (by kernel_rfl) (by kernel_rfl) (by kernel_rfl) (fun _ _ _ h => h) (Or.inl ⟨by rfl, ?_⟩) hSA ?_
      rotate_left
      · (intro w hSw; go_simp; try with_reducible rfl)
      (try simp only [Act.put, List.getElem_toArray, List.getElem_cons_succ, List.getElem_cons_zero, List.setIfInBounds_toArray, List.set_cons_zero, List.set_cons_succ])
      refine wpAnyH_take (i := 14) (oi := _) (v := ?_) rfl (by kernel_rfl) (by kernel_rfl) (by kernel_rfl) (fun _ _ _ h => h) (Or.inl ⟨by rfl, ?_⟩) hSA ?_
      rotate_left
      · (intro w hSw; go_simp; try with_reducible rfl)
      (try simp only [Act.put, List.getElem_toArray, List.getElem_cons_succ, List.getElem_cons_zero, List.setIfInBounds_toArray, List.set_cons_zero, List.set_cons_succ])
      refine wpAnyH_take (i := 15) (oi := _) (v := undef) rfl (by kernel_rfl) (by kernel_rfl) (by kernel_rfl) (fun _ _ _ h => h) (Or.inr ⟨by kernel_rfl, rfl⟩) hSA ?_
      (try simp only [Act.put, List.getElem_toArray, List.getElem_cons_succ, List.getElem_cons_zero, List.setIfInBounds_toArray, List.set_cons_zero, List.set_cons_succ])
      refine wpAnyH_take (i := 16) (oi := _) (v := undef) rfl (by kernel_rfl) (by kernel_rfl) (by kernel_rfl) (fun _ _ _ h => h) (Or.inr ⟨by kernel_rfl, rfl⟩) hSA ?_
      (try simp only [Act.put, List.getElem_toArray, List.getElem_cons_succ, List.getElem_cons_zero, List.setIfInBounds_toArray, List.set_cons_zero, List.set_cons_succ])
      refine wpAnyH_take (i := 17) (oi := _) (v := undef) rfl (by kernel_rfl) (by kernel_rfl) (by kernel_rfl) (fun _ _ _ h => h) (Or.inr ⟨by kernel_rfl, rfl⟩) hSA ?_
      (try simp only [Act.put, List.getElem_toArray, List.getElem_cons_succ, List.getElem_cons_zero, List.setIfInBounds_toArray, List.set_cons_zero, List.set_cons_succ])
      refine wpAnyH_take (i := 18) (oi := _) (v := undef) rfl (by kernel_rfl) (by kernel_rfl) (by kernel_rfl) (fun _ _ _ h => h) (Or.inr ⟨by kernel_rfl, rfl⟩) hSA ?_
      (try simp only [Act.put, List.getElem_toArray, List.getElem_cons_succ, List.getElem_cons_zero, List.setIfInBounds_toArray, List.set_cons_zero, List.set_cons_succ])
      refine wpAnyH_take (i := 19) (oi := _) (v := undef) rfl (by kernel_rfl) (by kernel_rfl) (by kernel_rfl) (fun _ _ _ h => h) (Or.inr ⟨by kernel_rfl, rfl⟩) hSA ?_
      (try simp only [Act.put, List.getElem_toArray, List.getElem_cons_succ, List.getElem_cons_zero, List.setIfInBounds_toArray, List.set_cons_zero, List.set_cons_succ])
      refine wpAnyH_take (i := 20) (oi := _) (v := ?_) rfl (by kernel_rfl) (by kernel_rfl) (by kernel_rfl) (fun _ _ _ h => h) (Or.inl ⟨by rfl, ?_⟩) hSA ?_
      rotate_left
      · (intro w hSw; go_simp; try with_reducible rfl)
      (try simp only [Act.put, List.getElem_toArray, List.getElem_cons_succ, List.getElem_cons_zero, List.setIfInBounds_toArray, List.set_cons_zero, List.set_cons_succ])
      refine wpAnyH_take (i := 21) (oi := _) (v := ?_) rfl (by kernel_rfl) (by kernel_rfl) (by kernel_rfl) (fun _ _ _ h => h) (Or.inl ⟨by rfl, ?_⟩) hSA ?_
      rotate_left
      · (intro w hSw; go_simp; try with_reducible rfl)
      (try simp only [Act.put, List.getElem_toArray, List.getElem_cons_succ, List.getElem_cons_zero, List.setIfInBounds_toArray, List.set_cons_zero, List.set_cons_succ])
      refine wpAnyH_done (by kernel_rfl) ?_ _
      refine NoPanic.normal ?_
      have HBW := toHid (HB5.out.trans (hSA.mono HB5.out.size))
      clear hSA
      go_wp2
      go_ret
      exact ⟨rfl, HBW.out⟩
    · exact AllReadyH.nil
  · rw [erV_0] at HSM
    have HST : Hid (Pair w.heap.size w5 x r V0 (0 * 10 + 20) ∧ Safe V0 U0) := ⟨hpr, hsf⟩
    have HXP := toHid hxp
    have HRP := toHid hrp
    have HN1 := toHid (fun W : World => HND.out W hk)
    have HN2 := toHid (fun W : World => HNR.out W hk)
    clear hpr hsf hxp hrp HND HNR hk hfp
    rw [erV_0]
    go_wp2
    go_region_held3 (fun W => Below w5.heap.size w5 W ∧ W.cell? ⟨w.heap.size, 0, none⟩ = some (.int .i64 c) ∧ W.cell? ⟨w.heap.size, 1, none⟩ = some (.int .i64 p) ∧ W.cell? ⟨w.heap.size, 2, none⟩ = some (.int .i64 b))
      (first | (exact ⟨Below.drew (Below.refl _ _), y0, y1, y2⟩) | assumption | (exact ⟨by assumption, (Below.cell (by assumption) hNl5).trans y0, (Below.cell (by assumption) hNl5).trans y1, (Below.cell (by assumption) hNl5).trans y2⟩))
      (first
        | (go_at_call 11; refine (HSM.out _).mono ?_; rintro e w' ⟨rfl, rfl⟩)
        | (go_at_call 12; refine (HN1.out _).mono ?_; rintro e wN ⟨rfl, hb'⟩; have hB' := Below.trans (by assumption : Below w5.heap.size w5 _ ∧ _).1 (hb'.mono (by assumption : Below w5.heap.size w5 _ ∧ _).1.size))
        | (go_at_call 13; refine (HN2.out _).mono ?_; rintro e wM ⟨rfl, hb''⟩; have hB'' := Below.trans (by assumption : Below w5.heap.size w5 _ ∧ _).1 (hb''.mono (by assumption : Below w5.heap.size w5 _ ∧ _).1.size)))
    all_goals
      have hq := (by assumption : Below w5.heap.size w5 wM ∧ _).1
      have HQ := toHid hq
      clear hq
      have HS0 : Hid (Went w 0 (.pointer (some ⟨h.p, 0, none⟩)) (.pointer (some ⟨q.p, 0, none⟩)) (.pointer (some ⟨x.p, 0, none⟩)) (.pointer (some ⟨r.p, 0, none⟩)) wM) := ⟨x, r, V0, U0, by rw [HXP.out], by rw [HRP.out], rfl, rfl, HST.out.1.below HQ.out, HST.out.2, HB5.out.trans (HQ.out.mono HB5.out.size)⟩
      clear HXP HRP HST HN1 HN2 y0 y1 y2 hNl5 HQ
      go_wp2
      go_loopw [8, 10, 11, 12, 14] (fun vd vn vi vm i wr => ∃ k : Nat, k ≤ len ∧ i = .int .i64 k ∧ Went w k vd vn vi vm wr) (fun _ _ _ _ i _ => len - (intOf i).toNat)
      case atStart => exact ⟨0, Nat.zero_le _, rfl, HS0.out⟩
      case round =>
        clear HS0
        obtain ⟨k, hk, rfl, x, q, V, U, rfl, rfl, rfl, rfl, hpr, hsf, hbl⟩ := hrel
        have HPR := toHid hpr
        have HSF := toHid hsf
        have HBL := toHid hbl
        clear hpr hsf hbl
        by_cases hlt : k < len
        · obtain ⟨blk, off, hla, hrg, hok⟩ := (HT0.out.below HBL.out).2 k hlt
          have hlx := HLT.out k hlt
          generalize xs.getD k ActV.none_ = y at hrg hok hlx
          subst hla
          have HRG := toHid hrg
          have HI : Hid ((Tryz.prog.info? 44).map (·.size) = some y.cells.length) := size_actZ
          have HI2 : Hid ((Tryz.prog.info? 44).map (·.size) = some y.cells.toArray.size) := size_actZ
          have HO1 : Hid (∀ v ∈ y.cells.toArray.toList, v.oneCell' = true) := act_oneZ y
          clear hrg
          have j0 : (0 : Int) ≤ (k : Int) := by omega
          have j1 : (k : Int) < (len : Int) := by omega
          go_upto_region 18 with (first
            | (refine wpList_load_mid (by rfl) 44 (.tmp 85) (by rfl) blk (off + k * 7) (by rfl) y.cells _ HRG.out Tryz.underlying44 rfl HI.out ?_)
            | (refine wpList_store_new (by rfl) 44 44 (.tmp 15) (.tmp 86) (by rfl) _ y.cells.toArray (by rfl) (by rfl) rfl HI2.out HO1.out ?_))
          have hba : Below wr.heap.size wr (wr.alloc (.cells y.cells.toArray 44)) := (Below.refl _ _).alloc (Nat.le_refl _) _
          have HBA := toHid hba
          have hat : ActAt (wr.alloc (.cells y.cells.toArray 44)) wr.heap.size y := ⟨heap_alloc_new wr _⟩
          have HPW := toHid (HPR.out.below hba)
          have HBW := toHid (HBL.out.trans (hba.mono HBL.out.size))
          have HK : Hid (Bools (wr.alloc (.cells y.cells.toArray 44)) y.ka y.kl y.ks) := hok.keep.below hba
          have hkl : y.kl ≤ maxLen := hok.kl1
          have ha1 := hok.a1.2
          have HAT := toHid hat
          clear hba hat HRG HPR hok HI2 HO1
          generalize wr.alloc (.cells y.cells.toArray 44) = W at HBA HPW HBW HK HAT ⊢
          generalize wr.heap.size = N at HAT ⊢
          have c0 : W.cell? ⟨N, 0, none⟩ = some (.string y.kind) := by rw [cell_of_row _ _ _ _ _ _ HAT.out.blk]; rfl
          have c6 : W.cell? ⟨N, 6, none⟩ = some (.slice y.ka y.kl y.kc) := by rw [cell_of_row _ _ _ _ _ _ HAT.out.blk]; rfl
          have hn4 : N < W.heap.size := lt_of_some HAT.out.blk
          by_cases e0 : y.kind.toList = [99, 114, 97, 115, 104]
          · have g0 : (y.kind.toList == [99, 114, 97, 115, 104]) = true := beq_iff_eq.2 e0
            clear e0
            as_aux_lemma =>
              go_wp2_with fail
              refine (crash_any y.ka y.kl y.kc y.ks W HPW.out.img.dev HK.out hkl).mono ?_
              rintro e W1 ⟨h', rfl, hd1, hb1⟩
              have HD1 := toHid (hd1.base HBW.out.size)
              have HB1 := toHid hb1
              have c6' : W1.cell? ⟨N, 6, none⟩ = some (.slice y.ka y.kl y.kc) := (hb1.cell hn4).trans c6
              have HR1 : Hid (IsRef w.heap.size W1 q.d V.d) := HPW.out.rim.dev.keep fun j hj => hb1.block j (HPW.out.rim.dev.lt j hj).2
              have HK1 := toHid (HK.out.below hb1)
              clear hd1 hb1 c6 HAT
              go_wp2_with fail
              refine (refCrash_any y.ka y.kl y.kc y.ks W1 HR1.out HPW.out.ok.d.ok HK1.out hkl).mono ?_
              rintro e W2 ⟨q', rfl, hr2, hb2⟩
              have hb12 : Below w.heap.size w W2 := HBW.out.trans ((HB1.out.trans (hb2.mono HB1.out.size)).mono HBW.out.size)
              have HO2 := toHid (open_two (B := w.heap.size) (HD1.out.keep fun j hj => hb2.block j (HD1.out.lt j hj).2) (hr2.base (Nat.le_trans HBW.out.size HB1.out.size)) (crash_fine HPW.out.ok.d y.ks) hb12.size (HSF.out.crash HPW.out.ok y.ks V.d.wr).1)
              have HS2 := toHid (HSF.out.crash HPW.out.ok y.ks V.d.wr).2
              have HB2 := toHid hb12
              have c0' : W2.cell? ⟨N, 0, none⟩ = some (.string y.kind) := ((HB1.out.trans (hb2.mono HB1.out.size)).cell hn4).trans c0
              clear hr2 hb2 hb12 HR1 HD1 HK1 HB1 HPW HSF
              generalize DV.made (keepTo V.d.pend y.ks V.d.fl V.d.pend.length) V.d.wr = d2 at HO2 HS2
              go_wp2_with fail
              refine HO2.out.mono ?_
              rintro e W3 ⟨x2, rfl, hx2, hop⟩
              have HOP := toHid hop
              have HX2 := toHid hx2
              clear hop hx2 HO2
              go_wp2_with fail
              refine HOP.out.mono ?_
              rintro e W4 ⟨r2, rfl, hr2, hp4, hb4⟩
              have HWE : Hid (Went w (k + 1) (.pointer (some ⟨h'.p, 0, none⟩)) (.pointer (some ⟨q'.p, 0, none⟩)) (.pointer (some ⟨x2.p, 0, none⟩)) (.pointer (some ⟨r2.p, 0, none⟩)) W4) := ⟨x2, r2, _, _, by rw [HX2.out], by rw [hr2], rfl, rfl, hp4.more (by omega), HS2.out, HB2.out.trans (hb4.mono HB2.out.size)⟩
              clear hr2 hp4 hb4 HOP HX2 HS2 HB2
              go_wp2_with fail
              refine (HSM.out _).mono ?_
              rintro e w' ⟨rfl, hw⟩
              have hw' := hw.symm
              subst hw'
              clear hw
              go_wp2
              go_roundw
              case rel =>
                have fin : ∃ k' : Nat, k' ≤ len ∧ Value.int .i64 ((k : Int) + 1) = .int .i64 k' ∧ Went w k' (.pointer (some ⟨h'.p, 0, none⟩)) (.pointer (some ⟨q'.p, 0, none⟩)) (.pointer (some ⟨x2.p, 0, none⟩)) (.pointer (some ⟨r2.p, 0, none⟩)) W4 := ⟨k + 1, by omega, by go_num, HWE.out⟩
                first | exact fin | ((repeat apply Exists.intro); exact ⟨fin, rfl⟩)
              case measure => simp [intOf]; omega
          have g0 : (y.kind.toList == [99, 114, 97, 115, 104]) = false := beq_eq_false_iff_ne.2 e0
          clear e0
          by_cases e1 : y.kind.toList = [111, 112, 101, 110]
          · have g1 : (y.kind.toList == [111, 112, 101, 110]) = true := beq_iff_eq.2 e1
            clear e1
            as_aux_lemma =>
              have HO2 := toHid (open_two HPW.out.img.dev HPW.out.rim.dev HPW.out.ok.d HBW.out.size (HSF.out.open HPW.out.ok).1)
              have HS2 := toHid (HSF.out.open HPW.out.ok).2
              clear HPW HSF HK HAT c6
              go_wp2_with fail
              refine HO2.out.mono ?_
              rintro e W3 ⟨x2, rfl, hx2, hop⟩
              have HOP := toHid hop
              have HX2 := toHid hx2
              clear hop hx2 HO2
              go_wp2_with fail
              refine HOP.out.mono ?_
              rintro e W4 ⟨r2, rfl, hr2, hp4, hb4⟩
              have HWE : Hid (Went w (k + 1) (.pointer (some ⟨x.h.p, 0, none⟩)) (.pointer (some ⟨q.d.p, 0, none⟩)) (.pointer (some ⟨x2.p, 0, none⟩)) (.pointer (some ⟨r2.p, 0, none⟩)) W4) := ⟨x2, r2, _, _, by rw [HX2.out], by rw [hr2], rfl, rfl, hp4.more (by omega), HS2.out, HBW.out.trans (hb4.mono HBW.out.size)⟩
              clear hr2 hp4 hb4 HOP HX2 HS2
              go_wp2_with fail
              refine (HSM.out _).mono ?_
              rintro e w' ⟨rfl, hw⟩
              have hw' := hw.symm
              subst hw'
              clear hw
              go_wp2
              go_roundw
              case rel =>
                have fin : ∃ k' : Nat, k' ≤ len ∧ Value.int .i64 ((k : Int) + 1) = .int .i64 k' ∧ Went w k' (.pointer (some ⟨x.h.p, 0, none⟩)) (.pointer (some ⟨q.d.p, 0, none⟩)) (.pointer (some ⟨x2.p, 0, none⟩)) (.pointer (some ⟨r2.p, 0, none⟩)) W4 := ⟨k + 1, by omega, by go_num, HWE.out⟩
                first | exact fin | ((repeat apply Exists.intro); exact ⟨fin, rfl⟩)
              case measure => simp [intOf]; omega
          have g1 : (y.kind.toList == [111, 112, 101, 110]) = false := beq_eq_false_iff_ne.2 e1
          clear e1
          as_aux_lemma =>
            have HRN : Hid (W.rangeAt N 0 y.cells) := fun j v hv => by
              rw [cell_of_row _ _ _ _ _ _ HAT.out.blk]
              rw [Nat.zero_add, List.getElem?_toArray]
              exact hv
            have HIM : Hid (Calls Tryz.prog 18 #[.pointer (some ⟨x.p, 0, none⟩), .pointer (some ⟨q.p, 0, none⟩), .agg y.cells.toArray] W fun e w' => e = .returned (.bool true) ∧ Went w (k + 1) (.pointer (some ⟨x.h.p, 0, none⟩)) (.pointer (some ⟨q.d.p, 0, none⟩)) (.pointer (some ⟨x.p, 0, none⟩)) (.pointer (some ⟨q.p, 0, none⟩)) w' ∧
                Calls Tryz.prog 19 #[.pointer (some ⟨x.p, 0, none⟩), .pointer (some ⟨q.p, 0, none⟩)] w' fun e w2 => e = .returned (.bool true) ∧ Went w (k + 1) (.pointer (some ⟨x.h.p, 0, none⟩)) (.pointer (some ⟨q.d.p, 0, none⟩)) (.pointer (some ⟨x.p, 0, none⟩)) (.pointer (some ⟨q.p, 0, none⟩)) w2) := by
              refine (imaged_any y W HPW.out (by omega) (by omega) ha1 hlx.2).mono ?_
              rintro e w' ⟨rfl, x', q', p1, p2, p3, p4, p5, p6⟩
              obtain ⟨U', hU⟩ := HSF.out.act HPW.out.ok (by omega) y
              have hm : Pair w.heap.size w' x' q' (V.act y) ((k + 1) * 10 + 20) := p5.more (by omega)
              have hb : Below w.heap.size w w' := HBW.out.trans p6
              refine ⟨rfl, ⟨x', q', _, U', by rw [p3], by rw [p4], by rw [p1], by rw [p2], hm, hU, hb⟩, ?_⟩
              have ha := asImage_any w' hm.img hm.rim hm.ok (by omega)
              rw [p1, p2] at ha
              refine ha.mono ?_
              rintro e w2 ⟨rfl, hb2⟩
              exact ⟨rfl, x', q', _, U', by rw [p3], by rw [p4], by rw [p1], by rw [p2], hm.below hb2, hU, hb.trans (hb2.mono hb.size)⟩
            clear HPW HSF HK c6 HAT
            go_wp2_with (refine wpList_load_mid (by rfl) 44 (.tmp 15) (by rfl) N 0 (by rfl) y.cells _ HRN.out Tryz.underlying44 rfl HI.out ?_)
            refine HIM.out.mono ?_
            rintro e W2 ⟨rfl, hwe, has⟩
            have HWE := toHid hwe
            have HAS := toHid has
            clear hwe has HIM
            by_cases h3 : k % 3 = 0
            · have g3 : ((k : Int) % 3 == 0) = true := beq_iff_eq.2 (by omega)
              clear h3
              go_wp2_with fail
              refine HAS.out.mono ?_
              rintro e W3 ⟨rfl, hwe3⟩
              have HW3 := toHid hwe3
              clear hwe3 HWE HAS
              go_wp2
              go_roundw
              case rel =>
                have fin : ∃ k' : Nat, k' ≤ len ∧ Value.int .i64 ((k : Int) + 1) = .int .i64 k' ∧ Went w k' (.pointer (some ⟨x.h.p, 0, none⟩)) (.pointer (some ⟨q.d.p, 0, none⟩)) (.pointer (some ⟨x.p, 0, none⟩)) (.pointer (some ⟨q.p, 0, none⟩)) W3 := ⟨k + 1, by omega, by go_num, HW3.out⟩
                first | exact fin | ((repeat apply Exists.intro); exact ⟨fin, rfl⟩)
              case measure => simp [intOf]; omega
            · have g3 : ((k : Int) % 3 == 0) = false := beq_eq_false_iff_ne.2 (by omega)
              clear h3
              go_wp2
              go_roundw
              case rel =>
                have fin : ∃ k' : Nat, k' ≤ len ∧ Value.int .i64 ((k : Int) + 1) = .int .i64 k' ∧ Went w k' (.pointer (some ⟨x.h.p, 0, none⟩)) (.pointer (some ⟨q.d.p, 0, none⟩)) (.pointer (some ⟨x.p, 0, none⟩)) (.pointer (some ⟨q.p, 0, none⟩)) W2 := ⟨k + 1, by omega, by go_num, HWE.out⟩
                first | exact fin | ((repeat apply Exists.intro); exact ⟨fin, rfl⟩)
              case measure => simp [intOf]; omega
        · have HAS : Hid (Calls Tryz.prog 19 #[.pointer (some ⟨x.p, 0, none⟩), .pointer (some ⟨q.p, 0, none⟩)] wr fun e w' => e = .returned (.bool true) ∧ Below wr.heap.size wr w') := asImage_any wr HPR.out.img HPR.out.rim HPR.out.ok (by omega)
          clear HPR HSF
          go_wp2_with fail
          refine HAS.out.mono ?_
          rintro e w6 ⟨rfl, hb6⟩
          have HB6 := toHid (HBL.out.trans (hb6.mono HBL.out.size))
          clear hb6
          go_wp2
          go_ret
          exact ⟨rfl, HB6.out⟩
end Go.Proofs.YtncjnjlakhohgaaGreat
