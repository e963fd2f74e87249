/-
TopImage, where it comes to its loops.
-/
import Derived.Test.YtncjnjlakhohgaaQTopImg0
import Derived.Deep.DeepCutAuto
import Derived.Deep.CutBlock
namespace Go.Proofs.Ytncjnjlakhohgaa
open Go.RowKit Go.Maps
attribute [local go_sem ↓] Go.wp_at_zero Go.wp_at_succ

theorem size_actT : (Try.prog.info? 47).map (·.size) = some 7 := by kernel_rfl
theorem act_oneT (x : ActV) : ∀ v ∈ x.cells.toArray.toList, v.oneCell' = true := by
  intro v hv
  simp only [ActV.cells, List.mem_cons, List.not_mem_nil, or_false] at hv
  rcases hv with rfl | rfl | rfl | rfl | rfl | rfl | rfl <;> rfl

theorem wpList_append_runT {P : Program} {w w' : World} {ops : Array Oper} {rest : List Oper} {o : Oper} {a : Act} {Q : Exit → Act → World → Prop} (hgd : o.guard = none) (s x : Operand) (t ty : TypeId)
    (ho : o.op = .call { callee := .builtin .append, args := #[s, x], argTypes := #[t, t] }) (hty : o.type = ty) {v xv v' : Value} (hs : a.eval s = v) (hx : a.eval x = xv)
    (hr : (Builtin.append_ #[t, t] ty #[v, xv]).run P w = .ok v' w') (h : wpList P ops Q rest (a.put o.dst v') w') : wpList P ops Q (o :: rest) a w := by
  refine wpList_plain hgd fun K hK => ?_
  unfold Oper.wp execOp
  simp only [ho, resolve, invoke, builtin, Sem.run_bind, Sem.run_pure, Result.andThen_ok, List.map_toArray, List.map_cons, List.map_nil, hs, hx, hty, hr]
  exact hK _ _ h

theorem img_start {w w1 : World} {x : Ih} {V : IV} {cur : Array Value} (hi : IsImg w.heap.size w1 x V) (hb : Below w.heap.size w w1) (hc : cur.size = 48) :
    IsW w.heap.size (w1.alloc (.cells cur 104)) w1.heap.size (fun _ => .slice none 0 0) 0 (fun _ => [[45]]) ∧ IsImg w.heap.size (w1.alloc (.cells cur 104)) x V ∧ Below w.heap.size w (w1.alloc (.cells cur 104)) :=
  ⟨⟨hb.size, by omega, ⟨cur, heap_alloc_new w1 _, hc, fun k hk => by omega⟩, fun k hk => by omega, fun i j hi2 => by omega⟩, hi.below ((Below.refl _ _).alloc (Nat.le_refl _) _), hb.alloc hb.size _⟩

set_option maxRecDepth 100000 in
set_option maxHeartbeats 32000000 in
theorem top_img (nc : Nat) (places : Int) (la : Option Addr) (len cap : Nat) (xs : List ActV) (ka : Option Addr) (kl kc : Nat) (ks : List Bool) (w : World) (hT : Acts w la len xs) (hlen : len ≤ maxLen) (hf : lightB xs 40 = true) (hBB : ∀ k, k < xs.length → -9223372036854775808 ≤ (xs.getD k ActV.none_).b ∧ (xs.getD k ActV.none_).b ≤ 9223372036854775807)
    (hK : Bools w ka kl ks) (hkl : kl ≤ 300) (hc1 : 1 ≤ nc) (hc2 : nc ≤ 12) (hp1 : 0 ≤ places) (hp2 : places ≤ 20) :
    Calls Try.prog 9 #[.int .i64 (nc : Int), .int .i64 places, .slice la len cap, .slice ka kl kc] w fun e w' => e = .returned (.bool true) ∧ Below w.heap.size w w' := by
  have HT0 : Hid (Acts w la len xs) := hT
  have HK0 : Hid (Bools w ka kl ks) := hK
  have hlt0 : xs.length = len := hT.1
  have hl40 : len ≤ 40 := by
    unfold lightB at hf
    simp only [decide_eq_true_eq] at hf
    omega
  have HLT : Hid (∀ k, k < len → (xs.getD k ActV.none_).s.size ≤ 700 ∧ (-9223372036854775808 ≤ (xs.getD k ActV.none_).b ∧ (xs.getD k ActV.none_).b ≤ 9223372036854775807)) := by
    have hf2 := hf
    unfold lightB at hf2
    simp only [decide_eq_true_eq] at hf2
    intro k hk
    exact ⟨(hf2.2 k (by omega)).1, hBB k (by omega)⟩
  have hkm : kl ≤ maxLen := by unfold maxLen; omega
  have hhk : HV.ok ⟨(nc : Int), places, -1⟩ = true := decide_eq_true (by simp only; omega)
  have hnd : needN ⟨(nc : Int), places, -1⟩ ≤ (DV.made (List.replicate 120 noughts) 0).fl.length := by
    show 1 + rowsN ((nc : Int)).toNat + 4 * places.toNat ≤ (List.replicate 120 noughts).length
    rw [List.length_replicate]
    unfold rowsN
    omega
  have HFN : Hid ((DV.made (List.replicate 120 noughts) 0).fine (DV.made (List.replicate 120 noughts) 0).fl.length 0) := ⟨DV.made_ok (by decide) (by decide) (fun s hs => by rw [List.eq_of_mem_replicate hs]; decide) (by decide), made_sn _ _, rfl, Nat.le_refl _⟩
  obtain ⟨hcf, hcn⟩ := crF_nf (d := DV.made (List.replicate 120 noughts) 0) hhk hnd rfl
  have HV0 : Hid ((crV (DV.made (List.replicate 120 noughts) 0) ⟨(nc : Int), places, -1⟩).ok (0 * 10 + 20) ∧ (∃ U, Safe (crV (DV.made (List.replicate 120 noughts) 0) ⟨(nc : Int), places, -1⟩) U) ∧ Told (crV (DV.made (List.replicate 120 noughts) 0) ⟨(nc : Int), places, -1⟩) (fun _ => [[45]]) ∧ (crV (DV.made (List.replicate 120 noughts) 0) ⟨(nc : Int), places, -1⟩).d.fail = -1 ∧ 4 * (crV (DV.made (List.replicate 120 noughts) 0) ⟨(nc : Int), places, -1⟩).t.length = 4 * nc) := by
    have hok := crV_ok HFN.out hhk hnd (by decide)
    refine ⟨hok.more (by omega), ⟨_, crV_safe HFN.out hhk hnd (by decide) hcf⟩, crV_told HFN.out hhk hnd (by decide) hcf, hcn, ?_⟩
    have h1 := hok.len
    have h2 : (crV (DV.made (List.replicate 120 noughts) 0) ⟨(nc : Int), places, -1⟩).h.c = (nc : Int) := by unfold crV IV.headV; split <;> rfl
    omega
  have HCR : Hid (∀ (W : World) (h : Hd), IsDev w.heap.size W h (DV.made (List.replicate 120 noughts) 0) → Below w.heap.size w W → Calls Try.prog 57 #[.pointer (some ⟨h.p, 0, none⟩), .agg #[.int .i64 (nc : Int), .int .i64 places, .int .i64 (-1)]] W fun e w' => ∃ x : Ih, x.h.p = h.p ∧ e = .returned (.tuple #[.pointer (some ⟨x.p, 0, none⟩), .nilIface]) ∧ IsImg w.heap.size w' x (crV (DV.made (List.replicate 120 noughts) 0) ⟨(nc : Int), places, -1⟩) ∧ Below w.heap.size w w') := fun W h hd hb => by
    refine (create_good nc places (-1) W hd HFN.out (by decide) hb.size hhk hnd).mono ?_
    rintro e w' ⟨x, h1, h2, h3, h4 | h4⟩
    · exact ⟨x, h1, h4.2.1, h4.2.2, hb.trans (h3.below hb.size)⟩
    · exact absurd hcf h4.1
  generalize crV (DV.made (List.replicate 120 noughts) 0) ⟨(nc : Int), places, -1⟩ = V0 at HV0 HCR
  have HF := toHid hf
  have f1 : decide ((nc : Int) < 1) = false := decide_eq_false (by omega)
  have f2 : decide (12 < (nc : Int)) = false := decide_eq_false (by omega)
  have f3 : decide (places < 0) = false := decide_eq_false (by omega)
  have f4 : decide (20 < places) = false := decide_eq_false (by omega)
  have f5 : decide (300 < (kl : Int)) = false := decide_eq_false (by omega)
  clear hT hK hf hBB hlt0 hhk hnd HFN hcf hcn
  go_enter Try.func9, Try.ntmps9
  go_wp2_with fail
  refine (light_any la len cap 40 xs w HT0.out hlen (by omega)).mono ?_
  rintro e w' ⟨he, hw⟩
  have hw' := hw.symm
  subst hw'
  clear hw
  rw [HF.out] at he
  subst he
  go_wp2_with fail
  have hnew := new_yes 120 w (by decide) (by decide)
  refine hnew.mono ?_
  rintro e w1 ⟨h, rfl, hd1, hb1⟩
  have HC1 := toHid (HCR.out w1 h hd1 hb1)
  clear hd1 hb1 HCR HF hnew f1 f2 f3 f4 f5
  go_wp2_with fail
  refine HC1.out.mono ?_
  rintro e w2 ⟨x0, hx0, rfl, hi2, hb2⟩
  have HX0 := toHid hx0
  have HI2 := toHid hi2
  have HB2 := toHid hb2
  clear hx0 hi2 hb2 HC1
  have kw4 : IntKind.i64.wrap (4 * (nc : Int)) = 4 * (nc : Int) := IntWalk.i64_in _ (by omega)
  go_upto_region 12 with fail
  have HS0 := toHid (img_start (cur := #[.slice none 0 0, .slice none 0 0, .slice none 0 0, .slice none 0 0, .slice none 0 0, .slice none 0 0, .slice none 0 0, .slice none 0 0, .slice none 0 0, .slice none 0 0, .slice none 0 0, .slice none 0 0, .slice none 0 0, .slice none 0 0, .slice none 0 0, .slice none 0 0, .slice none 0 0, .slice none 0 0, .slice none 0 0, .slice none 0 0, .slice none 0 0, .slice none 0 0, .slice none 0 0, .slice none 0 0, .slice none 0 0, .slice none 0 0, .slice none 0 0, .slice none 0 0, .slice none 0 0, .slice none 0 0, .slice none 0 0, .slice none 0 0, .slice none 0 0, .slice none 0 0, .slice none 0 0, .slice none 0 0, .slice none 0 0, .slice none 0 0, .slice none 0 0, .slice none 0 0, .slice none 0 0, .slice none 0 0, .slice none 0 0, .slice none 0 0, .slice none 0 0, .slice none 0 0, .slice none 0 0, .slice none 0 0]) HI2.out HB2.out rfl)
  generalize w2.alloc (.cells #[.slice none 0 0, .slice none 0 0, .slice none 0 0, .slice none 0 0, .slice none 0 0, .slice none 0 0, .slice none 0 0, .slice none 0 0, .slice none 0 0, .slice none 0 0, .slice none 0 0, .slice none 0 0, .slice none 0 0, .slice none 0 0, .slice none 0 0, .slice none 0 0, .slice none 0 0, .slice none 0 0, .slice none 0 0, .slice none 0 0, .slice none 0 0, .slice none 0 0, .slice none 0 0, .slice none 0 0, .slice none 0 0, .slice none 0 0, .slice none 0 0, .slice none 0 0, .slice none 0 0, .slice none 0 0, .slice none 0 0, .slice none 0 0, .slice none 0 0, .slice none 0 0, .slice none 0 0, .slice none 0 0, .slice none 0 0, .slice none 0 0, .slice none 0 0, .slice none 0 0, .slice none 0 0, .slice none 0 0, .slice none 0 0, .slice none 0 0, .slice none 0 0, .slice none 0 0, .slice none 0 0, .slice none 0 0] 104) = w3 at HS0 ⊢
  generalize w2.heap.size = mm at HS0 ⊢
  clear HI2 HB2
  go_wp2_with fail
  go_loopw [13] (fun i wr => ∃ (k : Nat) (vs : Nat → Value), k ≤ 4 * nc ∧ i = .int .i64 k ∧ IsW w.heap.size wr mm vs k (fun _ => [[45]]) ∧ IsImg w.heap.size wr x0 V0 ∧ Below w.heap.size w wr) (fun i _ => 4 * nc - (intOf i).toNat)
  case atStart => exact ⟨0, _, Nat.zero_le _, rfl, HS0.out.1, HS0.out.2.1, HS0.out.2.2⟩
  case round =>
    clear HS0
    obtain ⟨k, vs, hk, rfl, hW, hI, hB⟩ := hrel
    by_cases hlt : k < 4 * nc
    · as_aux_lemma =>
        obtain ⟨g1, g2⟩ := hW.one (k := k) (n' := k + 1) (by omega) (by omega) (fun j hj hne => by omega) hB.size [45]
        have hba : Below wr.heap.size wr (wr.alloc (.cells #[.string (bytesOf [45])] 9)) := (Below.refl _ _).alloc (Nat.le_refl _) _
        obtain ⟨⟨v0, hc⟩, hfz⟩ := (hW.below hba).spare (k := k) (by omega)
        have HNX : Hid (IsW w.heap.size ((wr.alloc (.cells #[.string (bytesOf [45])] 9)).setCell ⟨mm, k, none⟩ (.slice (some ⟨wr.heap.size, 0, none⟩) 1 1)) mm (putV vs k (.slice (some ⟨wr.heap.size, 0, none⟩) 1 1)) (k + 1) (fun _ => [[45]]) ∧ IsImg w.heap.size ((wr.alloc (.cells #[.string (bytesOf [45])] 9)).setCell ⟨mm, k, none⟩ (.slice (some ⟨wr.heap.size, 0, none⟩) 1 1)) x0 V0 ∧ Below w.heap.size w ((wr.alloc (.cells #[.string (bytesOf [45])] 9)).setCell ⟨mm, k, none⟩ (.slice (some ⟨wr.heap.size, 0, none⟩) 1 1))) :=
          ⟨g1.rows (fun j _ => by unfold putR; split <;> rfl), hI.keptW g2, hB.trans (g2.below hB.size)⟩
        have b1 : (0 : Int) ≤ (k : Int) := by omega
        have b2 : (k : Int) < 48 := by omega
        have b3 : (k : Int) < 4 * (nc : Int) := by omega
        rw [show bytesOf [45] = ⟨#[45]⟩ from rfl] at hc hfz HNX
        clear g1 g2 hba hW hI hB
        go_wp2
        go_roundw
        case rel =>
          have fin : ∃ (k' : Nat) (vs' : Nat → Value), k' ≤ 4 * nc ∧ Value.int .i64 ((k : Int) + 1) = .int .i64 k' ∧ IsW w.heap.size ((wr.alloc (.cells #[.string ⟨#[45]⟩] 9)).setCell ⟨mm, k, none⟩ (.slice (some ⟨wr.heap.size, 0, none⟩) 1 1)) mm vs' k' (fun _ => [[45]]) ∧ IsImg w.heap.size ((wr.alloc (.cells #[.string ⟨#[45]⟩] 9)).setCell ⟨mm, k, none⟩ (.slice (some ⟨wr.heap.size, 0, none⟩) 1 1)) x0 V0 ∧ Below w.heap.size w ((wr.alloc (.cells #[.string ⟨#[45]⟩] 9)).setCell ⟨mm, k, none⟩ (.slice (some ⟨wr.heap.size, 0, none⟩) 1 1)) := ⟨k + 1, _, by omega, by go_num, HNX.out.1, HNX.out.2.1, HNX.out.2.2⟩
          first | exact fin | ((repeat apply Exists.intro); exact ⟨fin, rfl⟩)
        case measure => simp [intOf]; omega
    · have hkn : k = 4 * nc := by omega
      subst hkn
      have b3 : ¬ ((4 * nc : Nat) : Int) < 4 * (nc : Int) := by omega
      have HSG : Hid (Stage w mm (4 * nc) x0.p h.p 0 wr) := by
        obtain ⟨q1, ⟨U, q2⟩, q3, q4, q5⟩ := HV0.out
        exact ⟨x0, vs, V0, U, _, rfl, HX0.out, hI, q1, q2, q3, q4, q5, hW, fun j _ => Nat.le_refl _, hB⟩
      clear hW hI hB HV0 HX0
      generalize x0.p = pp at HSG ⊢
      generalize h.p = hp at HSG ⊢
      go_wp2
      go_loopw [14] (fun i wr => ∃ k : Nat, k ≤ len ∧ i = .int .i64 k ∧ Stage w mm (4 * nc) pp hp k wr) (fun i _ => len - (intOf i).toNat)
      case atStart => exact ⟨0, Nat.zero_le _, rfl, HSG.out⟩
      case round =>
        clear HSG
        obtain ⟨k, hk, rfl, x, vs, V, U, may, rfl, rfl, hI, hok, hS, hTd, hnf, h4, hW, hml, hB⟩ := hrel
        have HI0 := toHid hI
        have HOK := toHid hok
        have HS0 := toHid hS
        have HTD := toHid hTd
        have HNF := toHid hnf
        have HW0 := toHid hW
        have HML := toHid hml
        have HB0 := toHid hB
        have H4 := toHid h4
        clear hI hok hS hTd hnf hW hml hB h4
        by_cases hlt : k < len
        · obtain ⟨blk, off, hla, hrg, hao⟩ := (HT0.out.below HB0.out).2 k hlt
          have hlx := HLT.out k hlt
          generalize xs.getD k ActV.none_ = y at hrg hao hlx
          subst hla
          have HRG := toHid hrg
          have HIF : Hid ((Try.prog.info? 47).map (·.size) = some y.cells.length) := size_actT
          have HI2 : Hid ((Try.prog.info? 47).map (·.size) = some y.cells.toArray.size) := size_actT
          have HO1 : Hid (∀ v ∈ y.cells.toArray.toList, v.oneCell' = true) := act_oneT y
          clear hrg hao
          have j0 : (0 : Int) ≤ (k : Int) := by omega
          have j1 : (k : Int) < (len : Int) := by omega
          go_upto_region 20 with (first
            | (refine wpList_load_mid (by rfl) 47 (.tmp 85) (by rfl) blk (off + k * 7) (by rfl) y.cells _ HRG.out Try.underlying47 rfl HIF.out ?_)
            | (refine wpList_store_new (by rfl) 47 47 (.tmp 15) (.tmp 86) (by rfl) _ y.cells.toArray (by rfl) (by rfl) rfl HI2.out HO1.out ?_))
          have hba : Below wr.heap.size wr (wr.alloc (.cells y.cells.toArray 47)) := (Below.refl _ _).alloc (Nat.le_refl _) _
          have HI := toHid (HI0.out.below hba)
          have HW := toHid (HW0.out.below hba)
          have HB := toHid (HB0.out.trans (hba.mono HB0.out.size))
          have HN : Hid ((wr.alloc (.cells y.cells.toArray 47)).heap[wr.heap.size]? = some (actRow y)) := heap_alloc_new wr _
          clear hba HRG HI2 HO1 HI0 HW0 HB0 HIF
          generalize wr.alloc (.cells y.cells.toArray 47) = W at HI HW HB HN ⊢
          generalize wr.heap.size = N at HN ⊢
          have c0 : W.cell? ⟨N, 0, none⟩ = some (.string y.kind) := by rw [cell_of_row _ _ _ _ _ _ HN.out]; rfl
          have c1 : W.cell? ⟨N, 1, none⟩ = some (.int .i64 y.a) := by rw [cell_of_row _ _ _ _ _ _ HN.out]; rfl
          have c2 : W.cell? ⟨N, 2, none⟩ = some (.int .i64 y.b) := by rw [cell_of_row _ _ _ _ _ _ HN.out]; rfl
          have c5 : W.cell? ⟨N, 5, none⟩ = some (.string y.s) := by rw [cell_of_row _ _ _ _ _ _ HN.out]; rfl
          by_cases e0 : y.kind.toList = [119, 114, 105, 116, 101]
          · have g0x : (y.kind.toList == [119, 114, 105, 116, 101]) = true := by rw [e0]; rfl
            have g1x : (y.kind.toList == [102, 105, 108, 108]) = false := by rw [e0]; rfl
            have g2x : (y.kind.toList == [99, 108, 101, 97, 114]) = false := by rw [e0]; rfl
            have g3x : (y.kind.toList == [102, 108, 117, 115, 104]) = false := by rw [e0]; rfl
            have HAF : Hid (Aft V (V.write y.a y.b y.s) (k * 10 + 20) may false) := aft_write HOK.out (by omega) HS0.out HNF.out HTD.out y.a y.b y.s
            have HAK : Hid (Calls Try.prog 58 #[.pointer (some ⟨x.p, 0, none⟩), .int .i64 y.a, .int .i64 y.b, .string y.s] W fun e w' => ∃ v, e = .returned v ∧ Acted w mm (4 * nc) N y x.p x.h.p (V.write y.a y.b y.s) (mixM may (shN (V.write y.a y.b y.s) may false) 0) w') := (write_img y.a y.b y.s W HI.out HOK.out (by omega) HB.out.size (by omega) hlx.2).mono fun e w' hd => ⟨_, hd.choose_spec.1, acted_did HI.out HW.out HN.out HB.out hd⟩
            clear e0 HI HW HB HN HS0 HNF HTD HOK
            generalize V.write y.a y.b y.s = V' at HAF HAK
            as_aux_lemma =>
              go_wp2_with fail
              refine HAK.out.mono ?_
              rintro e W1 ⟨v, rfl, hac⟩
              have HAC := toHid hac
              clear hac HAK c0 c1 c2 c5
              go_wp2
              go_loopw [16] (fun i wr => ∃ j : Nat, j ≤ 4 * nc ∧ i = .int .i64 j ∧ Acted w mm (4 * nc) N y x.p x.h.p V' (mixM may (shN V' may false) j) wr) (fun i _ => 4 * nc - (intOf i).toNat)
              case atStart => exact ⟨0, Nat.zero_le _, rfl, HAC.out⟩
              case round =>
                clear HAC
                obtain ⟨j, hj, rfl, hac⟩ := hrel
                have HAC := toHid hac
                clear hac
                by_cases hjl : j < 4 * nc
                · have HSH := toHid (HAC.out.shown HAF.out.ok (k := j) (by rw [HAF.out.len, H4.out]; exact hjl) (by omega))
                  have b1 : (0 : Int) ≤ (j : Int) := by omega
                  have b2 : (j : Int) < 48 := by omega
                  have b3 : (j : Int) < 4 * (nc : Int) := by omega
                  clear HAC
                  go_wp2_with fail
                  refine HSH.out.mono ?_
                  rintro e W2 ⟨rfl, hac2⟩
                  have d0 := hac2.cell
                  obtain ⟨v0, g', n', cap', w', hc, hrun, ⟨v1, hc1⟩, hfz, hnx⟩ := hac2.more hjl (V'.sh j) rfl (by have := HML.out j hjl; omega)
                  have HNX := toHid hnx
                  have HRUN := toHid hrun
                  clear hnx hrun hac2 HSH
                  generalize bytesOf (V'.sh j) = T at HRUN ⊢
                  go_wp2_with (at_builtin; refine wpList_append_runT rfl _ _ 103 103 rfl rfl rfl rfl HRUN.out ?_)
                  go_roundw
                  case rel =>
                    have fin : ∃ j' : Nat, j' ≤ 4 * nc ∧ Value.int .i64 ((j : Int) + 1) = .int .i64 j' ∧ Acted w mm (4 * nc) N y x.p x.h.p V' (mixM may (shN V' may false) j') (w'.setCell ⟨mm, j, none⟩ (.slice (some ⟨g', 0, none⟩) n' cap')) := ⟨j + 1, by omega, by go_num, HNX.out⟩
                    first | exact fin | ((repeat apply Exists.intro); exact ⟨fin, rfl⟩)
                  case measure => simp [intOf]; omega
                · have hjn : j = 4 * nc := by omega
                  subst hjn
                  have b3 : ¬ ((4 * nc : Nat) : Int) < 4 * (nc : Int) := by omega
                  have HSG := toHid (HAC.out.stage HAF.out H4.out HML.out)
                  clear HAC
                  go_wp2
                  go_roundw
                  case rel =>
                    have fin : ∃ k' : Nat, k' ≤ len ∧ Value.int .i64 ((k : Int) + 1) = .int .i64 k' ∧ Stage w mm (4 * nc) x.p x.h.p k' wr := ⟨k + 1, by omega, by go_num, HSG.out⟩
                    first | exact fin | ((repeat apply Exists.intro); exact ⟨fin, rfl⟩)
                  case measure => simp [intOf]; omega
          by_cases e1 : y.kind.toList = [102, 105, 108, 108]
          · have g0x : (y.kind.toList == [119, 114, 105, 116, 101]) = false := by rw [e1]; rfl
            have g1x : (y.kind.toList == [102, 105, 108, 108]) = true := by rw [e1]; rfl
            have g2x : (y.kind.toList == [99, 108, 101, 97, 114]) = false := by rw [e1]; rfl
            have g3x : (y.kind.toList == [102, 108, 117, 115, 104]) = false := by rw [e1]; rfl
            have HAF : Hid (Aft V (V.fill y.a y.s) (k * 10 + 20) may false) := aft_fill HOK.out (by omega) HS0.out HNF.out HTD.out y.a y.s
            have HAK : Hid (Calls Try.prog 59 #[.pointer (some ⟨x.p, 0, none⟩), .int .i64 y.a, .string y.s] W fun e w' => ∃ v, e = .returned v ∧ Acted w mm (4 * nc) N y x.p x.h.p (V.fill y.a y.s) (mixM may (shN (V.fill y.a y.s) may false) 0) w') := (fill_img y.a y.s W HI.out HOK.out (by omega) HB.out.size).mono fun e w' hd => ⟨_, hd.choose_spec.1, acted_did HI.out HW.out HN.out HB.out hd⟩
            clear e1 HI HW HB HN HS0 HNF HTD HOK
            generalize V.fill y.a y.s = V' at HAF HAK
            as_aux_lemma =>
              go_wp2_with fail
              refine HAK.out.mono ?_
              rintro e W1 ⟨v, rfl, hac⟩
              have HAC := toHid hac
              clear hac HAK c0 c1 c2 c5
              go_wp2
              go_loopw [16] (fun i wr => ∃ j : Nat, j ≤ 4 * nc ∧ i = .int .i64 j ∧ Acted w mm (4 * nc) N y x.p x.h.p V' (mixM may (shN V' may false) j) wr) (fun i _ => 4 * nc - (intOf i).toNat)
              case atStart => exact ⟨0, Nat.zero_le _, rfl, HAC.out⟩
              case round =>
                clear HAC
                obtain ⟨j, hj, rfl, hac⟩ := hrel
                have HAC := toHid hac
                clear hac
                by_cases hjl : j < 4 * nc
                · have HSH := toHid (HAC.out.shown HAF.out.ok (k := j) (by rw [HAF.out.len, H4.out]; exact hjl) (by omega))
                  have b1 : (0 : Int) ≤ (j : Int) := by omega
                  have b2 : (j : Int) < 48 := by omega
                  have b3 : (j : Int) < 4 * (nc : Int) := by omega
                  clear HAC
                  go_wp2_with fail
                  refine HSH.out.mono ?_
                  rintro e W2 ⟨rfl, hac2⟩
                  have d0 := hac2.cell
                  obtain ⟨v0, g', n', cap', w', hc, hrun, ⟨v1, hc1⟩, hfz, hnx⟩ := hac2.more hjl (V'.sh j) rfl (by have := HML.out j hjl; omega)
                  have HNX := toHid hnx
                  have HRUN := toHid hrun
                  clear hnx hrun hac2 HSH
                  generalize bytesOf (V'.sh j) = T at HRUN ⊢
                  go_wp2_with (at_builtin; refine wpList_append_runT rfl _ _ 103 103 rfl rfl rfl rfl HRUN.out ?_)
                  go_roundw
                  case rel =>
                    have fin : ∃ j' : Nat, j' ≤ 4 * nc ∧ Value.int .i64 ((j : Int) + 1) = .int .i64 j' ∧ Acted w mm (4 * nc) N y x.p x.h.p V' (mixM may (shN V' may false) j') (w'.setCell ⟨mm, j, none⟩ (.slice (some ⟨g', 0, none⟩) n' cap')) := ⟨j + 1, by omega, by go_num, HNX.out⟩
                    first | exact fin | ((repeat apply Exists.intro); exact ⟨fin, rfl⟩)
                  case measure => simp [intOf]; omega
                · have hjn : j = 4 * nc := by omega
                  subst hjn
                  have b3 : ¬ ((4 * nc : Nat) : Int) < 4 * (nc : Int) := by omega
                  have HSG := toHid (HAC.out.stage HAF.out H4.out HML.out)
                  clear HAC
                  go_wp2
                  go_roundw
                  case rel =>
                    have fin : ∃ k' : Nat, k' ≤ len ∧ Value.int .i64 ((k : Int) + 1) = .int .i64 k' ∧ Stage w mm (4 * nc) x.p x.h.p k' wr := ⟨k + 1, by omega, by go_num, HSG.out⟩
                    first | exact fin | ((repeat apply Exists.intro); exact ⟨fin, rfl⟩)
                  case measure => simp [intOf]; omega
          by_cases e2 : y.kind.toList = [99, 108, 101, 97, 114]
          · have g0x : (y.kind.toList == [119, 114, 105, 116, 101]) = false := by rw [e2]; rfl
            have g1x : (y.kind.toList == [102, 105, 108, 108]) = false := by rw [e2]; rfl
            have g2x : (y.kind.toList == [99, 108, 101, 97, 114]) = true := by rw [e2]; rfl
            have g3x : (y.kind.toList == [102, 108, 117, 115, 104]) = false := by rw [e2]; rfl
            have HAF : Hid (Aft V (V.clear y.a) (k * 10 + 20) may false) := aft_clear HOK.out (by omega) HS0.out HNF.out HTD.out y.a
            have HAK : Hid (Calls Try.prog 60 #[.pointer (some ⟨x.p, 0, none⟩), .int .i64 y.a] W fun e w' => ∃ v, e = .returned v ∧ Acted w mm (4 * nc) N y x.p x.h.p (V.clear y.a) (mixM may (shN (V.clear y.a) may false) 0) w') := (clear_img y.a W HI.out HOK.out (by omega) HB.out.size).mono fun e w' hd => ⟨_, hd.choose_spec.1, acted_did HI.out HW.out HN.out HB.out hd⟩
            clear e2 HI HW HB HN HS0 HNF HTD HOK
            generalize V.clear y.a = V' at HAF HAK
            as_aux_lemma =>
              go_wp2_with fail
              refine HAK.out.mono ?_
              rintro e W1 ⟨v, rfl, hac⟩
              have HAC := toHid hac
              clear hac HAK c0 c1 c2 c5
              go_wp2
              go_loopw [16] (fun i wr => ∃ j : Nat, j ≤ 4 * nc ∧ i = .int .i64 j ∧ Acted w mm (4 * nc) N y x.p x.h.p V' (mixM may (shN V' may false) j) wr) (fun i _ => 4 * nc - (intOf i).toNat)
              case atStart => exact ⟨0, Nat.zero_le _, rfl, HAC.out⟩
              case round =>
                clear HAC
                obtain ⟨j, hj, rfl, hac⟩ := hrel
                have HAC := toHid hac
                clear hac
                by_cases hjl : j < 4 * nc
                · have HSH := toHid (HAC.out.shown HAF.out.ok (k := j) (by rw [HAF.out.len, H4.out]; exact hjl) (by omega))
                  have b1 : (0 : Int) ≤ (j : Int) := by omega
                  have b2 : (j : Int) < 48 := by omega
                  have b3 : (j : Int) < 4 * (nc : Int) := by omega
                  clear HAC
                  go_wp2_with fail
                  refine HSH.out.mono ?_
                  rintro e W2 ⟨rfl, hac2⟩
                  have d0 := hac2.cell
                  obtain ⟨v0, g', n', cap', w', hc, hrun, ⟨v1, hc1⟩, hfz, hnx⟩ := hac2.more hjl (V'.sh j) rfl (by have := HML.out j hjl; omega)
                  have HNX := toHid hnx
                  have HRUN := toHid hrun
                  clear hnx hrun hac2 HSH
                  generalize bytesOf (V'.sh j) = T at HRUN ⊢
                  go_wp2_with (at_builtin; refine wpList_append_runT rfl _ _ 103 103 rfl rfl rfl rfl HRUN.out ?_)
                  go_roundw
                  case rel =>
                    have fin : ∃ j' : Nat, j' ≤ 4 * nc ∧ Value.int .i64 ((j : Int) + 1) = .int .i64 j' ∧ Acted w mm (4 * nc) N y x.p x.h.p V' (mixM may (shN V' may false) j') (w'.setCell ⟨mm, j, none⟩ (.slice (some ⟨g', 0, none⟩) n' cap')) := ⟨j + 1, by omega, by go_num, HNX.out⟩
                    first | exact fin | ((repeat apply Exists.intro); exact ⟨fin, rfl⟩)
                  case measure => simp [intOf]; omega
                · have hjn : j = 4 * nc := by omega
                  subst hjn
                  have b3 : ¬ ((4 * nc : Nat) : Int) < 4 * (nc : Int) := by omega
                  have HSG := toHid (HAC.out.stage HAF.out H4.out HML.out)
                  clear HAC
                  go_wp2
                  go_roundw
                  case rel =>
                    have fin : ∃ k' : Nat, k' ≤ len ∧ Value.int .i64 ((k : Int) + 1) = .int .i64 k' ∧ Stage w mm (4 * nc) x.p x.h.p k' wr := ⟨k + 1, by omega, by go_num, HSG.out⟩
                    first | exact fin | ((repeat apply Exists.intro); exact ⟨fin, rfl⟩)
                  case measure => simp [intOf]; omega
          by_cases e3 : y.kind.toList = [102, 108, 117, 115, 104]
          · have g0x : (y.kind.toList == [119, 114, 105, 116, 101]) = false := by rw [e3]; rfl
            have g1x : (y.kind.toList == [102, 105, 108, 108]) = false := by rw [e3]; rfl
            have g2x : (y.kind.toList == [99, 108, 101, 97, 114]) = false := by rw [e3]; rfl
            have g3x : (y.kind.toList == [102, 108, 117, 115, 104]) = true := by rw [e3]; rfl
            have HAF : Hid (Aft V V.flush (k * 10 + 20) may true) := aft_flush HOK.out HS0.out HNF.out HTD.out
            have HAK : Hid (Calls Try.prog 61 #[.pointer (some ⟨x.p, 0, none⟩)] W fun e w' => e = .returned (.tuple #[]) ∧ Acted w mm (4 * nc) N y x.p x.h.p V.flush (mixM may (shN V.flush may true) 0) w') := (flush_img W HI.out).mono fun e w' ⟨z, h1, h2, h3, h5⟩ => ⟨h1, acted_did (f := 0) (e := .returned (erV 0)) HI.out HW.out HN.out HB.out ⟨z, rfl, h2, h3, h5⟩⟩
            clear e3 HI HW HB HN HS0 HNF HTD HOK
            generalize V.flush = V' at HAF HAK
            as_aux_lemma =>
              go_wp2_with fail
              refine HAK.out.mono ?_
              rintro e W1 ⟨rfl, hac⟩
              have HAC := toHid hac
              clear hac HAK c0 c1 c2 c5
              go_wp2
              go_loopw [16] (fun i wr => ∃ j : Nat, j ≤ 4 * nc ∧ i = .int .i64 j ∧ Acted w mm (4 * nc) N y x.p x.h.p V' (mixM may (shN V' may true) j) wr) (fun i _ => 4 * nc - (intOf i).toNat)
              case atStart => exact ⟨0, Nat.zero_le _, rfl, HAC.out⟩
              case round =>
                clear HAC
                obtain ⟨j, hj, rfl, hac⟩ := hrel
                have HAC := toHid hac
                clear hac
                by_cases hjl : j < 4 * nc
                · have HSH := toHid (HAC.out.shown HAF.out.ok (k := j) (by rw [HAF.out.len, H4.out]; exact hjl) (by omega))
                  have b1 : (0 : Int) ≤ (j : Int) := by omega
                  have b2 : (j : Int) < 48 := by omega
                  have b3 : (j : Int) < 4 * (nc : Int) := by omega
                  clear HAC
                  go_wp2_with fail
                  refine HSH.out.mono ?_
                  rintro e W2 ⟨rfl, hac2⟩
                  have d0 := hac2.cell
                  obtain ⟨⟨⟨v1, hc1⟩, hfz⟩, hnx⟩ := hac2.one hjl (V'.sh j) rfl
                  have HNX := toHid hnx
                  clear hnx hac2 HSH
                  generalize bytesOf (V'.sh j) = T at hc1 hfz HNX ⊢
                  go_wp2
                  go_roundw
                  case rel =>
                    have fin : ∃ j' : Nat, j' ≤ 4 * nc ∧ Value.int .i64 ((j : Int) + 1) = .int .i64 j' ∧ Acted w mm (4 * nc) N y x.p x.h.p V' (mixM may (shN V' may true) j') ((W2.alloc (.cells #[.string T] 9)).setCell ⟨mm, j, none⟩ (.slice (some ⟨W2.heap.size, 0, none⟩) 1 1)) := ⟨j + 1, by omega, by go_num, HNX.out⟩
                    first | exact fin | ((repeat apply Exists.intro); exact ⟨fin, rfl⟩)
                  case measure => simp [intOf]; omega
                · have hjn : j = 4 * nc := by omega
                  subst hjn
                  have b3 : ¬ ((4 * nc : Nat) : Int) < 4 * (nc : Int) := by omega
                  have HSG := toHid (HAC.out.stage HAF.out H4.out HML.out)
                  clear HAC
                  go_wp2
                  go_roundw
                  case rel =>
                    have fin : ∃ k' : Nat, k' ≤ len ∧ Value.int .i64 ((k : Int) + 1) = .int .i64 k' ∧ Stage w mm (4 * nc) x.p x.h.p k' wr := ⟨k + 1, by omega, by go_num, HSG.out⟩
                    first | exact fin | ((repeat apply Exists.intro); exact ⟨fin, rfl⟩)
                  case measure => simp [intOf]; omega
          have g0x : (y.kind.toList == [119, 114, 105, 116, 101]) = false := beq_eq_false_iff_ne.2 e0
          have g1x : (y.kind.toList == [102, 105, 108, 108]) = false := beq_eq_false_iff_ne.2 e1
          have g2x : (y.kind.toList == [99, 108, 101, 97, 114]) = false := beq_eq_false_iff_ne.2 e2
          have g3x : (y.kind.toList == [102, 108, 117, 115, 104]) = false := beq_eq_false_iff_ne.2 e3
          have HAF : Hid (Aft V V (k * 10 + 20) may false) := aft_none HOK.out HS0.out HNF.out HTD.out
          have HAC : Hid (Acted w mm (4 * nc) N y x.p x.h.p V (mixM may (shN V may false) 0) W) := acted_none HI.out HW.out HN.out HB.out
          clear e0 e1 e2 e3 HI HW HB HN HS0 HNF HTD HOK c1 c2 c5
          obtain ⟨V', hV'⟩ : ∃ V', V' = V := ⟨_, rfl⟩
          have HAF2 : Hid (Aft V V' (k * 10 + 20) may false) := by rw [hV']; exact HAF
          have HAC2 : Hid (Acted w mm (4 * nc) N y x.p x.h.p V' (mixM may (shN V' may false) 0) W) := by rw [hV']; exact HAC
          clear HAF HAC hV'
          have HAF := HAF2
          have HAC := HAC2
          clear HAF2 HAC2
          as_aux_lemma =>
            go_wp2
            go_loopw [16] (fun i wr => ∃ j : Nat, j ≤ 4 * nc ∧ i = .int .i64 j ∧ Acted w mm (4 * nc) N y x.p x.h.p V' (mixM may (shN V' may false) j) wr) (fun i _ => 4 * nc - (intOf i).toNat)
            case atStart => exact ⟨0, Nat.zero_le _, rfl, HAC.out⟩
            case round =>
              clear HAC
              obtain ⟨j, hj, rfl, hac⟩ := hrel
              have HAC := toHid hac
              clear hac
              by_cases hjl : j < 4 * nc
              · have HSH := toHid (HAC.out.shown HAF.out.ok (k := j) (by rw [HAF.out.len, H4.out]; exact hjl) (by omega))
                have b1 : (0 : Int) ≤ (j : Int) := by omega
                have b2 : (j : Int) < 48 := by omega
                have b3 : (j : Int) < 4 * (nc : Int) := by omega
                clear HAC
                go_wp2_with fail
                refine HSH.out.mono ?_
                rintro e W2 ⟨rfl, hac2⟩
                have d0 := hac2.cell
                obtain ⟨v0, g', n', cap', w', hc, hrun, ⟨v1, hc1⟩, hfz, hnx⟩ := hac2.more hjl (V'.sh j) rfl (by have := HML.out j hjl; omega)
                have HNX := toHid hnx
                have HRUN := toHid hrun
                clear hnx hrun hac2 HSH
                generalize bytesOf (V'.sh j) = T at HRUN ⊢
                go_wp2_with (at_builtin; refine wpList_append_runT rfl _ _ 103 103 rfl rfl rfl rfl HRUN.out ?_)
                go_roundw
                case rel =>
                  have fin : ∃ j' : Nat, j' ≤ 4 * nc ∧ Value.int .i64 ((j : Int) + 1) = .int .i64 j' ∧ Acted w mm (4 * nc) N y x.p x.h.p V' (mixM may (shN V' may false) j') (w'.setCell ⟨mm, j, none⟩ (.slice (some ⟨g', 0, none⟩) n' cap')) := ⟨j + 1, by omega, by go_num, HNX.out⟩
                  first | exact fin | ((repeat apply Exists.intro); exact ⟨fin, rfl⟩)
                case measure => simp [intOf]; omega
              · have hjn : j = 4 * nc := by omega
                subst hjn
                have b3 : ¬ ((4 * nc : Nat) : Int) < 4 * (nc : Int) := by omega
                have HSG := toHid (HAC.out.stage HAF.out H4.out HML.out)
                clear HAC
                go_wp2
                go_roundw
                case rel =>
                  have fin : ∃ k' : Nat, k' ≤ len ∧ Value.int .i64 ((k : Int) + 1) = .int .i64 k' ∧ Stage w mm (4 * nc) x.p x.h.p k' wr := ⟨k + 1, by omega, by go_num, HSG.out⟩
                  first | exact fin | ((repeat apply Exists.intro); exact ⟨fin, rfl⟩)
                case measure => simp [intOf]; omega
        · have hv := HS0.out.crash HOK.out ks V.d.wr
          obtain ⟨hF, _⟩ := hv
          have hkeep := ver_keepTo V.d ks _ (Nat.le_refl _)
          obtain ⟨_, _, hsub, _⟩ := HS0.out.opens HOK.out (d := DV.made (keepTo V.d.pend ks V.d.fl V.d.pend.length) V.d.wr) (keepTo_len _ _ _ _) hkeep
          have hlen2 : 4 * (openV (DV.made (keepTo V.d.pend ks V.d.fl V.d.pend.length) V.d.wr)).t.length = 4 * nc := by rw [hsub.1, ← HS0.out.sub.1]; exact H4.out
          have htell := HTD.out.crash HS0.out HOK.out ks V.d.wr
          rw [H4.out] at htell
          have hfi := crash_fineT HOK.out.d ks
          have hok2 := (open_ok hfi hF).1
          have HCK : Hid (Calls Try.prog 32 #[.pointer (some ⟨x.h.p, 0, none⟩), .slice ka kl kc] wr fun e w1 => ∃ h' : Hd, e = .returned (.pointer (some ⟨h'.p, 0, none⟩)) ∧
              Calls Try.prog 63 #[.pointer (some ⟨h'.p, 0, none⟩)] w1 fun e w2 => ∃ x2 : Ih, e = .returned (.tuple #[.pointer (some ⟨x2.p, 0, none⟩), .nilIface]) ∧ IsImg w.heap.size w2 x2 (openV (DV.made (keepTo V.d.pend ks V.d.fl V.d.pend.length) V.d.wr)) ∧ IsW w.heap.size w2 mm vs (4 * nc) may ∧ Below w.heap.size w w2) := by
            refine (crash_any ka kl kc ks wr HI0.out.dev (HK0.out.below HB0.out) hkm).mono ?_
            rintro e w1 ⟨h', rfl, hd1, hb1⟩
            have hb1' : Below w.heap.size w w1 := HB0.out.trans (hb1.mono HB0.out.size)
            refine ⟨h', rfl, (open_img w1 (hd1.base HB0.out.size) hb1'.size).mono ?_⟩
            rintro e w2 ⟨hb2, ⟨q1, _⟩ | ⟨_, x2, _, _, rfl, hi2⟩⟩
            · exact absurd hF q1
            · exact ⟨x2, rfl, hi2, (HW0.out.below hb1).below hb2, hb1'.trans (hb2.mono hb1'.size)⟩
          have HTL := toHid htell
          have HL2 := toHid hlen2
          have HO2 := toHid hok2
          clear hF hkeep hsub hlen2 htell hfi hok2 HI0 HOK HS0 HTD HNF HW0 HB0 H4
          generalize openV (DV.made (keepTo V.d.pend ks V.d.fl V.d.pend.length) V.d.wr) = V2 at HCK HTL HL2 HO2
          as_aux_lemma =>
            go_wp2_with fail
            refine HCK.out.mono ?_
            rintro e w4 ⟨h', rfl, hop⟩
            have HOP := toHid hop
            clear hop HCK
            go_wp2_with fail
            refine HOP.out.mono ?_
            rintro e w5 ⟨x2, rfl, hi5, hw5, hb5⟩
            have HS5 : Hid (IsImg w.heap.size w5 x2 V2 ∧ IsW w.heap.size w5 mm vs (4 * nc) may ∧ Below w.heap.size w w5) := ⟨hi5, hw5, hb5⟩
            clear hi5 hw5 hb5 HOP
            go_wp2
            go_loopw [19] (fun i wr => ∃ j : Nat, j ≤ 4 * nc ∧ i = .int .i64 j ∧ (IsImg w.heap.size wr x2 V2 ∧ IsW w.heap.size wr mm vs (4 * nc) may ∧ Below w.heap.size w wr)) (fun i _ => 4 * nc - (intOf i).toNat)
            case atStart => exact ⟨0, Nat.zero_le _, rfl, HS5.out⟩
            case round =>
              clear HS5
              obtain ⟨j, hj, rfl, hi, hw, hb⟩ := hrel
              by_cases hjl : j < 4 * nc
              · have b1 : (0 : Int) ≤ (j : Int) := by omega
                have b2 : (j : Int) < 48 := by omega
                have b3 : (j : Int) < 4 * (nc : Int) := by omega
                have HSH := toHid (shown_any j wr hi HO2.out (by rw [HL2.out]; exact hjl) (by omega))
                have HIW : Hid (∀ W2 : World, Below wr.heap.size wr W2 → W2.cell? ⟨mm, j, none⟩ = some (vs j) ∧ Calls Try.prog 64 #[vs j, .string (bytesOf (V2.sh j))] W2 fun e w' => e = .returned (.bool true) ∧ w' = W2) := fun W2 hb2 =>
                  ⟨(hw.below hb2).cell hjl, worth_has (V2.sh j) W2 ((hw.below hb2).row j hjl) (HTL.out j hjl) (by have := HML.out j hjl; omega)⟩
                have HNX : Hid (∀ W2 : World, Below wr.heap.size wr W2 → IsImg w.heap.size W2 x2 V2 ∧ IsW w.heap.size W2 mm vs (4 * nc) may ∧ Below w.heap.size w W2) := fun W2 hb2 => ⟨hi.below hb2, hw.below hb2, hb.trans (hb2.mono hb.size)⟩
                clear hi hw hb
                go_wp2_with fail
                refine HSH.out.mono ?_
                rintro e W2 ⟨rfl, hb2⟩
                obtain ⟨hc, hhas⟩ := HIW.out W2 hb2
                have HHS := toHid hhas
                have HN2 := toHid (HNX.out W2 hb2)
                clear hhas hb2 HIW HNX HSH
                generalize bytesOf (V2.sh j) = T at HHS ⊢
                go_wp2_with fail
                refine HHS.out.mono ?_
                rintro e w' ⟨rfl, hw2⟩
                have hw2' := hw2.symm
                subst hw2'
                clear hw2
                go_wp2
                go_roundw
                case rel =>
                  have fin : ∃ j' : Nat, j' ≤ 4 * nc ∧ Value.int .i64 ((j : Int) + 1) = .int .i64 j' ∧ (IsImg w.heap.size W2 x2 V2 ∧ IsW w.heap.size W2 mm vs (4 * nc) may ∧ Below w.heap.size w W2) := ⟨j + 1, by omega, by go_num, HN2.out⟩
                  first | exact fin | ((repeat apply Exists.intro); exact ⟨fin, rfl⟩)
                case measure => simp [intOf]; omega
              · have hjn : j = 4 * nc := by omega
                subst hjn
                have b3 : ¬ ((4 * nc : Nat) : Int) < 4 * (nc : Int) := by omega
                have HBE := toHid hb
                clear hi hw hb
                go_wp2
                go_ret
                exact ⟨rfl, HBE.out⟩
end Go.Proofs.Ytncjnjlakhohgaa
