/-
TopEnds: its walk.
TopEnds: its early ends, and the whole.
TopEnds' whole walk, without a condition on `did`.
-/
import Derived.Test.YtonhoahnieoebabGreatDoorQTopEnds0
namespace Go.Proofs.YtonhoahnieoebabGreatDoor
open Go.RowKit Go.Maps
attribute [local go_sem ↓] Go.wp_at_zero Go.wp_at_succ

set_option maxRecDepth 100000 in
set_option maxHeartbeats 1000000 in
theorem is_six (w : World) : Calls Tryz.prog 55 #[.iface 127 (.int .i64 6), .int .i64 6] w fun e w' => e = .returned (.bool true) ∧ w' = w := by
  have hta : ∀ w : World, (Instr.typeAssert (.iface 127 (.int .i64 6)) 33 127 true).run Tryz.prog w = .ok (.tuple #[.int .i64 6, .bool true]) w := fun _ => by kernel_rfl
  go_enter Tryz.func55, Tryz.ntmps55
  go_wp2
  go_ret
  exact ⟨rfl, rfl⟩
set_option maxRecDepth 100000 in
set_option maxHeartbeats 1000000 in
theorem is_nil (w : World) : Calls Tryz.prog 55 #[.nilIface, .int .i64 0] w fun e w' => e = .returned (.bool true) ∧ w' = w := by
  go_enter Tryz.func55, Tryz.ntmps55
  go_wp2
  go_ret
  exact ⟨rfl, rfl⟩

theorem field_stE (k f s n : Int) (w : World) : (Instr.field 56 (.agg #[.int .i64 k, .int .i64 f, .int .i64 s, .int .i64 n]) 2).run Tryz.prog w = .ok (.int .i64 s) w := by kernel_rfl

/- Behind the second loop's rounds: q clusters left of n. -/
def Rel2 (k : Option (Nat × Obj)) (B : Nat) (w0 : World) (yp gp C : Nat) (kind : Int) (n q : Nat) (W : World) : Prop := (RSt k B w0 yp gp C kind q W ∧ (q = 0 → kind = 2 → n = 0)) ∨ (q = 0 ∧ n ≠ 0 ∧ kind = 2 ∧ CSt k B w0 yp gp C W)

set_option maxRecDepth 100000 in
set_option maxHeartbeats 4000000 in
theorem ends_rounds (c p : Int) (la : Option Addr) (len cap : Nat) (xs : List ActV) (kind file : Int) (w : World) (hA : Acts w la len xs) (hlen : len ≤ maxLen) (hB : ActsB xs) (hl : lightB xs 50 = true) (hM : madeB c p = true) (hT : S4.Tab w) (HDS : DidTop c.toNat) :
    Calls Tryz.prog 10 #[.int .i64 c, .int .i64 p, .slice la len cap, .int .i64 kind, .int .i64 file] w fun e w' => e = .returned (.bool true) ∧ Below w.heap.size w w' := by
  have hM' : 1 ≤ c ∧ c ≤ 32 ∧ 0 ≤ p ∧ p ≤ 40 := of_decide_eq_true hM
  have hC : c.toNat ≤ 32 := by omega
  have HLA : Hid (Calls Tryz.prog 13 #[.slice la len cap, .int .i64 50] w fun e w' => e = .returned (.bool true) ∧ w' = w) := by
    have := light_any la len cap 50 xs w hA hlen (by omega)
    rw [hl] at this; exact this
  have hli : len ≤ 50 ∧ ∀ k, k < len → (xs.getD k ActV.none_).s.size ≤ 700 := by
    unfold lightB at hl
    simp only [decide_eq_true_eq] at hl
    have := hA.1
    exact ⟨by omega, fun k hk => (hl.2 k (by omega)).1⟩
  have h60 : len ≤ 50 := hli.1
  have h0 : 0 < w.heap.size := World.block_lt_of_cell? w _ (hT 0 (by decide))
  have HMD : Hid (Calls Tryz.prog 41 #[.int .i64 c, .int .i64 p] w fun e w' => ∃ (yp gp : Nat), e = .returned (.tuple #[.pointer (some ⟨yp, 0, none⟩), .pointer (some ⟨gp, 0, none⟩), .bool true]) ∧ ESt w.heap.size w yp gp c.toNat 0 w') :=
    (made_yes c p w hM).mono fun e w' ⟨yp, gp, Y, G, he, hy⟩ => ⟨yp, gp, he, Y, _, G, _, hy, Saw.made (need_le c p hM').1 (need_le c p hM').2, YCalm.new c p⟩
  have HIN : Hid (∀ k, k < len → ∀ W : World, Below w.heap.size w W → ∃ blk off, la = some ⟨blk, off, none⟩ ∧ W.rangeAt blk (off + k * 7) (xs.getD k ActV.none_).cells ∧ ActIn (xs.getD k ActV.none_)) := fun k hk W hb => by
    obtain ⟨blk, off, e, hr, hok⟩ := (hA.below hb).2 k hk
    exact ⟨blk, off, e, hr, hok.a1, hli.2 k hk, hB k (by have := hA.1; omega)⟩
  have HTB : Hid (∀ W : World, Below w.heap.size w W → S4.Tab W) := fun W hb => hT.below hb h0
  have HDD : Hid (∀ (yp gp q : Nat) (x : ActV) (W : World), ESt w.heap.size w yp gp c.toNat q W → q ≤ 100 → ActIn x → x.kind.toList ≠ [102, 97, 105, 108] → Calls Tryz.prog 42 #[.pointer (some ⟨yp, 0, none⟩), .pointer (some ⟨gp, 0, none⟩), .agg #[.string x.kind, .int .i64 x.a, .int .i64 x.b, .int .i64 x.c, .int .i64 x.d, .string x.s, .slice x.ka x.kl x.kc]] W fun e w' => e = .returned (.tuple #[]) ∧ ESt w.heap.size w yp gp c.toNat (q + 1) w') := fun yp gp q x W h hq hx hk => h.did HDS hC hq x hx hk (hT.below h.below h0)
  generalize hCn : c.toNat = C at HMD HDD hC
  clear hA hlen hB hl hM hT hli HDS hM' hCn
  go_enter Tryz.func10, Tryz.ntmps10
  go_wp2_with fail
  refine HLA.out.mono ?_
  rintro e w' ⟨rfl, hw⟩
  have hw' := hw.symm
  subst hw'
  clear hw HLA
  go_wp2_with fail
  refine HMD.out.mono ?_
  rintro e w1 ⟨yp, gp, rfl, hS⟩
  have HS := toHid hS
  clear hS HMD
  go_wp2
  go_loopw [14] (fun i wr => ∃ q : Nat, q ≤ len ∧ i = .int .i64 (q : Int) ∧ ESt w.heap.size w yp gp C q wr) (fun i _ => len - (intOf i).toNat)
  case atStart => exact ⟨0, Nat.zero_le _, rfl, HS.out⟩
  case round =>
    clear HS
    obtain ⟨q, hq, rfl, hy⟩ := hrel
    have HYK := toHid hy
    have HBK := toHid hy.below
    clear hy
    by_cases hlt : q < len
    · obtain ⟨blk, off, hla, hrg, hin⟩ := HIN.out q hlt _ HBK.out
      generalize xs.getD q ActV.none_ = y at hrg hin
      subst hla
      have HRG := toHid hrg
      have c0 : wr.cell? ⟨blk, off + q * 7, none⟩ = some (.string y.kind) := hrg 0 _ rfl
      have HI2 : Hid ((Tryz.prog.info? 43).map (·.size) = some y.cells.length) := size_actG
      have HNX := toHid HYK.out.next
      have HIX := toHid hin
      clear hrg hin HIN HTB
      have j0 : (0 : Int) ≤ (q : Int) := by omega
      have j1 : (q : Int) < (len : Int) := by omega
      by_cases e4 : y.kind.toList = [99, 114, 97, 115, 104]
      · have g4 : (y.kind.toList == [99, 114, 97, 115, 104]) = true := beq_iff_eq.2 e4
        clear e4 HRG HDD HIX
        go_wp2
        go_roundw
        case rel =>
          have fin : ∃ q1 : Nat, q1 ≤ len ∧ Value.int .i64 ((q : Int) + 1) = .int .i64 (q1 : Int) ∧ ESt w.heap.size w yp gp C q1 _ := ⟨q + 1, by omega, by go_num, HNX.out⟩
          first | exact fin | ((repeat apply Exists.intro); exact ⟨fin, rfl⟩)
        case measure => simp [intOf]; omega
      · have g4 : (y.kind.toList == [99, 114, 97, 115, 104]) = false := beq_eq_false_iff_ne.2 e4
        by_cases e5 : y.kind.toList = [102, 97, 105, 108]
        · have g5 : (y.kind.toList == [102, 97, 105, 108]) = true := beq_iff_eq.2 e5
          clear e4 e5 HRG HDD HIX
          go_wp2
          go_roundw
          case rel =>
            have fin : ∃ q1 : Nat, q1 ≤ len ∧ Value.int .i64 ((q : Int) + 1) = .int .i64 (q1 : Int) ∧ ESt w.heap.size w yp gp C q1 _ := ⟨q + 1, by omega, by go_num, HNX.out⟩
            first | exact fin | ((repeat apply Exists.intro); exact ⟨fin, rfl⟩)
          case measure => simp [intOf]; omega
        · have g5 : (y.kind.toList == [102, 97, 105, 108]) = false := beq_eq_false_iff_ne.2 e5
          have HCK := toHid (HDD.out _ _ _ y wr HYK.out (by omega) HIX.out e5)
          clear e4 e5 HNX HIX HDD
          go_wp2_with (refine wpList_load_mid (by rfl) 43 (.tmp 75) (by rfl) blk (off + q * 7) (by rfl) y.cells _ HRG.out Tryz.underlying43 rfl HI2.out ?_)
          refine HCK.out.mono ?_
          rintro e w6 ⟨rfl, hy6⟩
          have H9 := toHid hy6
          clear hy6 HCK HYK HBK HRG c0
          go_wp2
          go_roundw
          case rel =>
            have fin : ∃ q1 : Nat, q1 ≤ len ∧ Value.int .i64 ((q : Int) + 1) = .int .i64 (q1 : Int) ∧ ESt w.heap.size w yp gp C q1 _ := ⟨q + 1, by omega, by go_num, H9.out⟩
            first | exact fin | ((repeat apply Exists.intro); exact ⟨fin, rfl⟩)
          case measure => simp [intOf]; omega
    · have gk : decide ((q : Int) < (len : Int)) = false := decide_eq_false (by omega)
      have HCA := toHid (HYK.out.cancel (by omega))
      clear HYK HBK HIN HDD
      go_wp2_with fail
      refine HCA.out.mono ?_
      rintro e w2 ⟨⟨v2, rfl⟩, h2⟩
      have HST := toHid (h2.start (by omega) kind file)
      clear h2 HCA
      go_wp2_with fail
      refine HST.out.mono ?_
      rintro e w3 ⟨f, rfl, hb3, h3⟩
      have HB3 := toHid hb3
      by_cases hf : f = 0
      · obtain ⟨n, hn64, hn⟩ := h3 hf
        have HN := toHid hn
        rw [hf, erV_0]
        clear h3 hb3 hn hf HST
        obtain ⟨fl, hs⟩ := HN.out.status
        generalize (if n = 0 then (3 : Int) else 1) = st0 at hs
        have HSS := toHid hs
        clear hs
        go_wp2_with fail
        refine HSS.out.mono ?_
        rintro e w4 ⟨rfl, h4⟩
        have HBX := toHid (h4.box (.cells #[.int .i64 kind, .int .i64 fl, .int .i64 st0, .int .i64 (n : Int)] 56 (0, 0)))
        clear h4 HSS HN HB3
        go_wp2
        go_loopw [16] (fun i wr => ∃ q1 : Nat, q1 ≤ n ∧ i = .int .i64 (q1 : Int) ∧ Rel2 (some (w4.heap.size, .cells #[.int .i64 kind, .int .i64 fl, .int .i64 st0, .int .i64 (n : Int)] 56 (0, 0))) w.heap.size w yp gp C kind n q1 wr) (fun i _ => (intOf i).toNat)
        case atStart => exact ⟨n, Nat.le_refl _, rfl, .inl ⟨HBX.out, fun e _ => e⟩⟩
        case round =>
          clear HBX
          obtain ⟨q1, hq1, rfl, hy⟩ := hrel
          by_cases hp : 0 < q1
          · have hR := (show RSt (some (w4.heap.size, .cells #[.int .i64 kind, .int .i64 fl, .int .i64 st0, .int .i64 (n : Int)] 56 (0, 0))) w.heap.size w yp gp C kind q1 _ from by
              rcases hy with h | h
              · exact h.1
              · omega)
            clear hy
            obtain ⟨fl1, hs1⟩ := hR.status
            rw [if_neg (by omega)] at hs1
            have HS1 := toHid hs1
            clear hs1 hR
            have gp0 : decide (0 < (q1 : Int)) = true := decide_eq_true (by omega)
            have k3 : IntKind.i64.wrap ((q1 : Int) - 1) = (q1 : Int) - 1 := IntWalk.i64_in _ (by omega)
            go_wp2_with fail
            refine HS1.out.mono ?_
            rintro e w5 ⟨rfl, h5⟩
            have h5' := h5.on ((Below.refl _ _).alloc (Nat.le_refl _) (.cells #[.int .i64 kind, .int .i64 fl1, .int .i64 1, .int .i64 (q1 : Int)] 56 (0, 0)))
            have HSP := toHid (h5'.step (HTB.out _ h5'.below) hp)
            clear h5 h5' HS1
            go_wp2_with fail
            refine HSP.out.mono ?_
            rintro e w6 ⟨b, f, rfl, hor⟩
            clear HSP
            rcases hor with ⟨rfl, ha⟩ | ⟨rfl, hk, hr⟩ | ⟨rfl, hk, hc⟩
            · rw [erV_some (by decide)]
              have HIS := toHid (fun W => is_six W)
              obtain ⟨kd2, fl2, n2, hs2⟩ := ha.status
              have HS2 := toHid hs2
              clear hs2 ha
              go_wp2_with fail
              refine (HIS.out _).mono ?_
              rintro e w' ⟨rfl, hw⟩
              have hw' := hw.symm
              subst hw'
              clear hw
              go_wp2_with fail
              refine HS2.out.mono ?_
              rintro e w7 ⟨rfl, hb7⟩
              have HB7 := toHid hb7
              clear hb7 HS2
              have hfd := toHid (fun w => field_stE kd2 fl2 5 n2 w)
              have hfd2 := hfd.out
              go_wp2
              go_ret
              exact ⟨rfl, HB7.out⟩
            · rw [erV_0]
              have HR := toHid hr
              clear hr
              go_wp2
              go_roundw
              case rel =>
                have fin : ∃ q2 : Nat, q2 ≤ n ∧ Value.int .i64 ((q1 : Int) - 1) = .int .i64 (q2 : Int) ∧ Rel2 (some (w4.heap.size, .cells #[.int .i64 kind, .int .i64 fl, .int .i64 st0, .int .i64 (n : Int)] 56 (0, 0))) w.heap.size w yp gp C kind n q2 _ := ⟨q1 - 1, by omega, by congr 1; omega, Or.inl ⟨HR.out, fun e1 e2 => absurd ⟨e2, by omega⟩ hk⟩⟩
                first | exact fin | ((repeat apply Exists.intro); exact ⟨fin, rfl⟩)
              case measure => simp [intOf]; omega
            · rw [erV_0]
              have HR := toHid hc
              have HK := toHid hk
              clear hc hk
              go_wp2
              go_roundw
              case rel =>
                have fin : ∃ q2 : Nat, q2 ≤ n ∧ Value.int .i64 ((q1 : Int) - 1) = .int .i64 (q2 : Int) ∧ Rel2 (some (w4.heap.size, .cells #[.int .i64 kind, .int .i64 fl, .int .i64 st0, .int .i64 (n : Int)] 56 (0, 0))) w.heap.size w yp gp C kind n q2 _ := ⟨q1 - 1, by omega, by congr 1; omega, Or.inr ⟨by have := HK.out.2; omega, by omega, HK.out.1, HR.out⟩⟩
                first | exact fin | ((repeat apply Exists.intro); exact ⟨fin, rfl⟩)
              case measure => simp [intOf]; omega
          · have hq0 : q1 = 0 := by omega
            subst hq0
            have gp0 : decide (0 < ((0 : Nat) : Int)) = false := by decide
            rcases hy with ⟨hR, hcond⟩ | ⟨_, hn0, hk2, hC0⟩
            · have HR := toHid hR
              have c15 : wr.cell? ⟨w4.heap.size, 3, none⟩ = some (.int .i64 (n : Int)) := by rw [cell_of_row _ _ _ _ _ _ hR.has]; rfl
              clear hR
              by_cases hk2 : kind = 2
              · have hn0 := hcond rfl hk2
                subst hk2
                subst hn0
                clear hcond
                have HSP := toHid (HR.out.idle (HTB.out _ HR.out.below) rfl)
                go_wp2_with fail
                refine HSP.out.mono ?_
                rintro e w7 ⟨b, rfl, h7⟩
                have HC0 := toHid h7
                clear h7 HSP HR
                obtain ⟨kd3, fl3, hs3⟩ := HC0.out.status
                have HS3 := toHid hs3
                clear hs3
                go_wp2_with fail
                refine HS3.out.mono ?_
                rintro e w8 ⟨rfl, h8⟩
                have HC8 := toHid (h8.on ((Below.refl _ _).alloc (Nat.le_refl _) (.cells #[.int .i64 kd3, .int .i64 fl3, .int .i64 4, .int .i64 0] 56 (0, 0))))
                clear h8 HS3
                obtain ⟨T, hlk⟩ := HC8.out.looks hC
                have HLK := toHid hlk
                clear hlk
                go_wp2_with fail
                refine HLK.out.mono ?_
                rintro e w9 ⟨rfl, h9⟩
                have H9 := toHid h9
                clear h9 HLK
                go_wp2_with fail
                refine H9.out.mono ?_
                rintro e w10 ⟨rfl, h10⟩
                have H10 := toHid h10
                clear h10 H9
                go_wp2_with fail
                refine H10.out.mono ?_
                rintro e w11 ⟨rfl, h11⟩
                obtain ⟨kd4, fl4, hs4⟩ := h11.status
                have HS4 := toHid hs4
                clear h11 hs4 H10
                go_wp2_with fail
                refine HS4.out.mono ?_
                rintro e w12 ⟨rfl, h12⟩
                have HB12 := toHid h12.below
                clear h12 HS4
                have hfd := fun w => field_stE kd4 fl4 4 0 w
                go_wp2
                go_ret
                exact ⟨rfl, HB12.out⟩
              · have g2 : (kind == 2) = false := beq_eq_false_iff_ne.2 hk2
                have HK2 := toHid hk2
                clear hk2 hcond
                cases hgn : ((n : Int) == 0) with
                | true =>
                    obtain ⟨fl3, hs3⟩ := HR.out.status
                    rw [if_pos rfl, show ((0 : Nat) : Int) = 0 from rfl] at hs3
                    have HS3 := toHid hs3
                    clear hs3
                    go_wp2_with fail
                    refine HS3.out.mono ?_
                    rintro e w8 ⟨rfl, h8⟩
                    have HPV := toHid ((h8.on ((Below.refl _ _).alloc (Nat.le_refl _) (.cells #[.int .i64 kind, .int .i64 fl3, .int .i64 3, .int .i64 0] 56 (0, 0)))).pivot HK2.out)
                    clear h8 HS3 HR
                    go_wp2_with fail
                    refine HPV.out.mono ?_
                    rintro e w13 ⟨rfl, h13⟩
                    have HC8 := toHid h13
                    have HNL := toHid (fun W => is_nil W)
                    clear h13 HPV
                    go_wp2_with fail
                    refine (HNL.out _).mono ?_
                    rintro e w' ⟨rfl, hw⟩
                    have hw' := hw.symm
                    subst hw'
                    clear hw
                    obtain ⟨T, hlk⟩ := HC8.out.looks hC
                    have HLK := toHid hlk
                    clear hlk
                    go_wp2_with fail
                    refine HLK.out.mono ?_
                    rintro e w9 ⟨rfl, h9⟩
                    have H9 := toHid h9
                    clear h9 HLK
                    go_wp2_with fail
                    refine H9.out.mono ?_
                    rintro e w10 ⟨rfl, h10⟩
                    have H10 := toHid h10
                    clear h10 H9
                    go_wp2_with fail
                    refine H10.out.mono ?_
                    rintro e w11 ⟨rfl, h11⟩
                    obtain ⟨kd4, fl4, hs4⟩ := h11.status
                    have HS4 := toHid hs4
                    clear h11 hs4 H10
                    go_wp2_with fail
                    refine HS4.out.mono ?_
                    rintro e w12 ⟨rfl, h12⟩
                    have HB12 := toHid h12.below
                    clear h12 HS4
                    have hfd := fun w => field_stE kd4 fl4 4 0 w
                    go_wp2
                    go_ret
                    exact ⟨rfl, HB12.out⟩
                | false =>
                    obtain ⟨fl3, hs3⟩ := HR.out.status
                    rw [if_pos rfl, show ((0 : Nat) : Int) = 0 from rfl] at hs3
                    have HS3 := toHid hs3
                    clear hs3
                    go_wp2_with fail
                    refine HS3.out.mono ?_
                    rintro e w8 ⟨rfl, h8⟩
                    have HPV := toHid ((h8.on ((Below.refl _ _).alloc (Nat.le_refl _) (.cells #[.int .i64 kind, .int .i64 fl3, .int .i64 3, .int .i64 0] 56 (0, 0)))).pivot HK2.out)
                    clear h8 HS3 HR
                    go_wp2_with fail
                    refine HPV.out.mono ?_
                    rintro e w13 ⟨rfl, h13⟩
                    have HC8 := toHid h13
                    have HNL := toHid (fun W => is_nil W)
                    clear h13 HPV
                    go_wp2_with fail
                    refine (HNL.out _).mono ?_
                    rintro e w' ⟨rfl, hw⟩
                    have hw' := hw.symm
                    subst hw'
                    clear hw
                    obtain ⟨T, hlk⟩ := HC8.out.looks hC
                    have HLK := toHid hlk
                    clear hlk
                    go_wp2_with fail
                    refine HLK.out.mono ?_
                    rintro e w9 ⟨rfl, h9⟩
                    have H9 := toHid h9
                    clear h9 HLK
                    go_wp2_with fail
                    refine H9.out.mono ?_
                    rintro e w10 ⟨rfl, h10⟩
                    have H10 := toHid h10
                    clear h10 H9
                    go_wp2_with fail
                    refine H10.out.mono ?_
                    rintro e w11 ⟨rfl, h11⟩
                    obtain ⟨kd4, fl4, hs4⟩ := h11.status
                    have HS4 := toHid hs4
                    clear h11 hs4 H10
                    go_wp2_with fail
                    refine HS4.out.mono ?_
                    rintro e w12 ⟨rfl, h12⟩
                    have HB12 := toHid h12.below
                    clear h12 HS4
                    have hfd := fun w => field_stE kd4 fl4 4 0 w
                    go_wp2
                    go_ret
                    exact ⟨rfl, HB12.out⟩
            · have HC0 := toHid hC0
              have c15 : wr.cell? ⟨w4.heap.size, 3, none⟩ = some (.int .i64 (n : Int)) := by rw [cell_of_row _ _ _ _ _ _ hC0.has]; rfl
              have gn : ((n : Int) == 0) = false := beq_eq_false_iff_ne.2 (by omega)
              subst hk2
              clear hC0 hn0
              obtain ⟨kd3, fl3, hs3⟩ := HC0.out.status
              have HS3 := toHid hs3
              clear hs3
              go_wp2_with fail
              refine HS3.out.mono ?_
              rintro e w8 ⟨rfl, h8⟩
              have HC8 := toHid (h8.on ((Below.refl _ _).alloc (Nat.le_refl _) (.cells #[.int .i64 kd3, .int .i64 fl3, .int .i64 4, .int .i64 0] 56 (0, 0))))
              clear h8 HS3
              obtain ⟨T, hlk⟩ := HC8.out.looks hC
              have HLK := toHid hlk
              clear hlk
              go_wp2_with fail
              refine HLK.out.mono ?_
              rintro e w9 ⟨rfl, h9⟩
              have H9 := toHid h9
              clear h9 HLK
              go_wp2_with fail
              refine H9.out.mono ?_
              rintro e w10 ⟨rfl, h10⟩
              have H10 := toHid h10
              clear h10 H9
              go_wp2_with fail
              refine H10.out.mono ?_
              rintro e w11 ⟨rfl, h11⟩
              obtain ⟨kd4, fl4, hs4⟩ := h11.status
              have HS4 := toHid hs4
              clear h11 hs4 H10
              go_wp2_with fail
              refine HS4.out.mono ?_
              rintro e w12 ⟨rfl, h12⟩
              have HB12 := toHid h12.below
              clear h12 HS4
              have hfd := fun w => field_stE kd4 fl4 4 0 w
              go_wp2
              go_ret
              exact ⟨rfl, HB12.out⟩
      · rw [erV_some hf]
        clear h3 hb3 HST hf
        go_wp2
        go_ret
        exact ⟨rfl, HB3.out⟩
end Go.Proofs.YtonhoahnieoebabGreatDoor

namespace Go.Proofs.YtonhoahnieoebabGreatDoor
open Go.RowKit Go.Maps
attribute [local go_sem ↓] Go.wp_at_zero Go.wp_at_succ

set_option maxRecDepth 100000 in
set_option maxHeartbeats 1000000 in
theorem ends_heavy (c p : Int) (la : Option Addr) (len cap : Nat) (xs : List ActV) (kind file : Int) (w : World) (hA : Acts w la len xs) (hlen : len ≤ maxLen) (hl : lightB xs 50 = false) :
    Calls Tryz.prog 10 #[.int .i64 c, .int .i64 p, .slice la len cap, .int .i64 kind, .int .i64 file] w fun e w' => e = .returned (.bool true) ∧ Below w.heap.size w w' := by
  have HLA : Hid (Calls Tryz.prog 13 #[.slice la len cap, .int .i64 50] w fun e w' => e = .returned (.bool false) ∧ w' = w) := by
    have := light_any la len cap 50 xs w hA hlen (by omega)
    rw [hl] at this; exact this
  clear hA hl hlen
  go_enter Tryz.func10, Tryz.ntmps10
  go_wp2_with fail
  refine HLA.out.mono ?_
  rintro e w' ⟨rfl, hw⟩
  have hw' := hw.symm
  subst hw'
  clear hw HLA
  go_wp2
  go_ret
  exact ⟨rfl, Below.refl _ _⟩

set_option maxRecDepth 100000 in
set_option maxHeartbeats 2000000 in
theorem ends_none (c p : Int) (la : Option Addr) (len cap : Nat) (xs : List ActV) (kind file : Int) (w : World) (hA : Acts w la len xs) (hlen : len ≤ maxLen) (hl : lightB xs 50 = true) (hM : madeB c p = false) :
    Calls Tryz.prog 10 #[.int .i64 c, .int .i64 p, .slice la len cap, .int .i64 kind, .int .i64 file] w fun e w' => e = .returned (.bool true) ∧ Below w.heap.size w w' := by
  have HLA : Hid (Calls Tryz.prog 13 #[.slice la len cap, .int .i64 50] w fun e w' => e = .returned (.bool true) ∧ w' = w) := by
    have := light_any la len cap 50 xs w hA hlen (by omega)
    rw [hl] at this; exact this
  have HMD := toHid (made_no c p w hM)
  have hM' : ¬ (1 ≤ c ∧ c ≤ 32 ∧ 0 ≤ p ∧ p ≤ 40) := of_decide_eq_false hM
  clear hA hl hlen hM
  by_cases h1 : c < 1
  · have f1 : decide (c < 1) = true := decide_eq_true h1
    clear hM'
    go_enter Tryz.func10, Tryz.ntmps10
    go_wp2_with fail
    refine HLA.out.mono ?_
    rintro e w' ⟨rfl, hw⟩
    have hw' := hw.symm
    subst hw'
    clear hw HLA
    go_wp2_with fail
    refine HMD.out.mono ?_
    rintro e w' ⟨rfl, hw⟩
    have hw' := hw.symm
    subst hw'
    clear hw HMD
    go_wp2
    go_ret
    exact ⟨rfl, Below.refl _ _⟩
  have f1 : decide (c < 1) = false := decide_eq_false h1
  by_cases h2 : 32 < c
  · have f2 : decide (32 < c) = true := decide_eq_true h2
    clear hM'
    go_enter Tryz.func10, Tryz.ntmps10
    go_wp2_with fail
    refine HLA.out.mono ?_
    rintro e w' ⟨rfl, hw⟩
    have hw' := hw.symm
    subst hw'
    clear hw HLA
    go_wp2_with fail
    refine HMD.out.mono ?_
    rintro e w' ⟨rfl, hw⟩
    have hw' := hw.symm
    subst hw'
    clear hw HMD
    go_wp2
    go_ret
    exact ⟨rfl, Below.refl _ _⟩
  have f2 : decide (32 < c) = false := decide_eq_false h2
  by_cases h3 : p < 0
  · have f3 : decide (p < 0) = true := decide_eq_true h3
    clear hM'
    go_enter Tryz.func10, Tryz.ntmps10
    go_wp2_with fail
    refine HLA.out.mono ?_
    rintro e w' ⟨rfl, hw⟩
    have hw' := hw.symm
    subst hw'
    clear hw HLA
    go_wp2_with fail
    refine HMD.out.mono ?_
    rintro e w' ⟨rfl, hw⟩
    have hw' := hw.symm
    subst hw'
    clear hw HMD
    go_wp2
    go_ret
    exact ⟨rfl, Below.refl _ _⟩
  · have f3 : decide (p < 0) = false := decide_eq_false h3
    have f4 : decide (40 < p) = true := decide_eq_true (by omega)
    clear hM'
    go_enter Tryz.func10, Tryz.ntmps10
    go_wp2_with fail
    refine HLA.out.mono ?_
    rintro e w' ⟨rfl, hw⟩
    have hw' := hw.symm
    subst hw'
    clear hw HLA
    go_wp2_with fail
    refine HMD.out.mono ?_
    rintro e w' ⟨rfl, hw⟩
    have hw' := hw.symm
    subst hw'
    clear hw HMD
    go_wp2
    go_ret
    exact ⟨rfl, Below.refl _ _⟩

theorem ends_all (c p : Int) (la : Option Addr) (len cap : Nat) (xs : List ActV) (kind file : Int) (w : World) (hA : Acts w la len xs) (hlen : len ≤ maxLen) (hB : ActsB xs) (hT : S4.Tab w) (HDS : ∀ C, 1 ≤ C → C ≤ 32 → DidTop C) :
    Calls Tryz.prog 10 #[.int .i64 c, .int .i64 p, .slice la len cap, .int .i64 kind, .int .i64 file] w fun e w' => e = .returned (.bool true) ∧ Below w.heap.size w w' := by
  cases h1 : lightB xs 50 with
  | false => exact ends_heavy c p la len cap xs kind file w hA hlen h1
  | true =>
    cases h2 : madeB c p with
    | false => exact ends_none c p la len cap xs kind file w hA hlen h1 h2
    | true =>
      have h3 : 1 ≤ c ∧ c ≤ 32 ∧ 0 ≤ p ∧ p ≤ 40 := of_decide_eq_true h2
      exact ends_rounds c p la len cap xs kind file w hA hlen hB h1 h2 hT (HDS c.toNat (by omega) (by omega))
end Go.Proofs.YtonhoahnieoebabGreatDoor

namespace Go.Proofs.YtonhoahnieoebabGreatDoor
open Go.RowKit Go.Maps

theorem ends_told (c p : Int) (la : Option Addr) (len cap : Nat) (xs : List ActV) (kind file : Int) (w : World) (hA : Acts w la len xs) (hlen : len ≤ maxLen) (hB : ActsB xs) (hT : S4.Tab w) :
    Calls Tryz.prog 10 #[.int .i64 c, .int .i64 p, .slice la len cap, .int .i64 kind, .int .i64 file] w fun e w' => e = .returned (.bool true) ∧ Below w.heap.size w w' :=
  ends_all c p la len cap xs kind file w hA hlen hB hT did_top
end Go.Proofs.YtonhoahnieoebabGreatDoor
