/-
ImageOpens: where it ends early, and where it goes on.
-/
import Derived.Test.YtncjnjlakhohgaaGreatQImaged
import Derived.Test.YtncjnjlakhohgaaGreatQTabOf
import Derived.Test.YtncjnjlakhohgaaGreatQRimOpen
import Derived.Deep.DeepCutAuto
import Derived.Deep.CutBlock
namespace Go.Proofs.YtncjnjlakhohgaaGreat
open Go.RowKit Go.Maps
attribute [local go_sem ↓] Go.wp_at_zero Go.wp_at_succ

theorem openF_pos (d : DV) : 0 ≤ openF d := by
  unfold openF
  split
  · split
    · decide
    · exact tableF_nonneg _ _
  · next h => exact Int.le_of_lt (headF_pos _ h)

theorem size_actZ : (Tryz.prog.info? 44).map (·.size) = some 7 := by kernel_rfl

theorem ref_of_in {B : Nat} {w : World} {q : Rh} {l : List (List UInt8)} {wr : Nat} (h : RefIn B w q l 0 [] 0 [] (-1) (wr : Int)) : IsRef B w q (DV.made l wr) := ⟨h.pB, h.blk, h.of, h.o1, h.o2, h.ne⟩

set_option maxRecDepth 100000 in
set_option maxHeartbeats 1000000 in
theorem opens_early (b : ByteArray) (la : Option Addr) (len cap : Nat) (xs : List ActV) (w : World) (hT : Acts w la len xs) (hlen : len ≤ maxLen) (hb : b.size ≤ maxLen) (hf : lightB xs 20 = false ∨ 3200 < b.size) :
    Calls Tryz.prog 4 #[.string b, .slice la len cap] w fun e w' => e = .returned (.bool true) ∧ Below w.heap.size w w' := by
  unfold maxLen at hb
  have HT0 : Hid (Acts w la len xs) := hT
  clear hT
  by_cases h6 : 3200 < b.size
  · have g6 : decide (3200 < (b.size : Int)) = true := by simp; omega
    go_enter Tryz.func4, Tryz.ntmps4
    go_wp2_with fail
    refine (images_any w).mono ?_
    rintro e w1 ⟨rfl, hb1⟩
    go_wp2
    go_ret
    exact ⟨rfl, hb1⟩
  · have g6 : decide (3200 < (b.size : Int)) = false := by simp; omega
    have h4 : lightB xs 20 = false := by
      rcases hf with q | q
      · exact q
      · exact absurd q h6
    go_enter Tryz.func4, Tryz.ntmps4
    go_wp2_with fail
    refine (images_any w).mono ?_
    rintro e w1 ⟨rfl, hb1⟩
    go_wp2_with fail
    refine (light_any la len cap 20 xs w1 (HT0.out.below hb1) hlen (by omega)).mono ?_
    rintro e w' ⟨he, hw⟩
    have hw' := hw.symm
    subst hw'
    clear hw
    rw [h4] at he
    subst he
    go_wp2
    go_ret
    exact ⟨rfl, hb1⟩

set_option maxRecDepth 100000 in
set_option maxHeartbeats 1000000 in
theorem opens_no (b : ByteArray) (la : Option Addr) (len cap : Nat) (xs : List ActV) (w : World) (hT : Acts w la len xs) (hlen : len ≤ maxLen) (hb : b.size ≤ 3200) (hf : lightB xs 20 = true) (hbn : b.size % 16 ≠ 0 ∨ b.size < 16 ∨ 3200 < b.size) :
    Calls Tryz.prog 4 #[.string b, .slice la len cap] w fun e w' => e = .returned (.bool true) ∧ Below w.heap.size w w' := by
  have HT0 : Hid (Acts w la len xs) := hT
  have g6 : decide (3200 < (b.size : Int)) = false := by simp; omega
  have HON := toHid (fun W : World => of_no b W (by unfold maxLen; omega) hbn)
  clear hT hbn
  go_enter Tryz.func4, Tryz.ntmps4
  go_wp2_with fail
  refine (images_any w).mono ?_
  rintro e w1 ⟨rfl, hb1⟩
  go_wp2_with fail
  refine (light_any la len cap 20 xs w1 (HT0.out.below hb1) hlen (by omega)).mono ?_
  rintro e w' ⟨he, hw⟩
  have hw' := hw.symm
  subst hw'
  clear hw
  rw [hf] at he
  subst he
  go_wp2_with fail
  refine (HON.out _).mono ?_
  rintro e w' ⟨rfl, hw⟩
  have hw' := hw.symm
  subst hw'
  clear hw
  go_wp2
  go_ret
  exact ⟨rfl, hb1⟩

/- What a round leaves. -/
def Stood (w : World) (x : Ih) (q : Qh) (k : Nat) (wr : World) : Prop := ∃ x' q' V, x'.p = x.p ∧ q'.p = q.p ∧ Pair w.heap.size wr x' q' V (k * 10) ∧ Below w.heap.size w wr

theorem Stood.next {w wr wr' : World} {x x' : Ih} {q q' : Qh} {V : IV} {k : Nat} (hx : x'.p = x.p) (hq : q'.p = q.p) (hb : Below w.heap.size w wr) (h : Paired w.heap.size wr x' q' V (k * 10 + 10) wr') : Stood w x q (k + 1) wr' := by
  obtain ⟨x2, q2, h1, h2, _, _, h5, h6⟩ := h
  exact ⟨x2, q2, V, h1.trans hx, h2.trans hq, by rw [show (k + 1) * 10 = k * 10 + 10 by omega]; exact h5, hb.trans h6⟩

set_option maxRecDepth 100000 in
set_option maxHeartbeats 8000000 in
theorem opens_yes (b : ByteArray) (n : Nat) (la : Option Addr) (len cap : Nat) (xs : List ActV) (w : World) (hT : Acts w la len xs) (hlen : len ≤ maxLen) (hB : ActsB xs) (hf : lightB xs 20 = true) (hn : b.size = n * 16) (hn1 : 1 ≤ n) (hn2 : n ≤ 200) :
    Calls Tryz.prog 4 #[.string b, .slice la len cap] w fun e w' => e = .returned (.bool true) ∧ Below w.heap.size w w' := by
  have HT0 : Hid (Acts w la len xs) := hT
  have g6 : decide (3200 < (b.size : Int)) = false := by simp; omega
  have hlt0 : xs.length = len := hT.1
  have hl20 : len ≤ 20 := by
    unfold lightB at hf
    simp only [decide_eq_true_eq] at hf
    omega
  have HLT : Hid (∀ k, k < len → (xs.getD k ActV.none_).s.size ≤ 700 ∧ (-9223372036854775808 ≤ (xs.getD k ActV.none_).b ∧ (xs.getD k ActV.none_).b ≤ 9223372036854775807)) := by
    unfold lightB at hf
    simp only [decide_eq_true_eq] at hf
    intro k hk
    exact ⟨(hf.2 k (by omega)).1, hB k (by omega)⟩
  have HCK : Hid (∀ k, chunkTo b n (k + 1) = (chunkTo b n k).set k (chunk b k)) := fun k => chunkTo_succ b n k
  have HCL : Hid (∀ k, (chunkTo b n k).length = n) := fun k => chunkTo_len b n k
  have HEX : Hid (∀ k, Value.string (b.extract (16 * k) (16 * k + 16)) = .string (bytesOf (chunk b k))) := fun k => by
    rw [← extract_chunk2, bytesOf_data]
  have HD0 : Hid (∀ W : World, Calls Tryz.prog 20 #[.string b] W fun e w' => ∃ h : Hd, e = .returned (.tuple #[.pointer (some ⟨h.p, 0, none⟩), .nilIface]) ∧ IsDev W.heap.size w' h (DV.made (chunkTo b n n) 0) ∧ Below W.heap.size W w') := fun W => of_yes b n W hn hn1 hn2
  have HFN : Hid ((DV.made (chunkTo b n n) 0).fine (DV.made (chunkTo b n n) 0).fl.length 0) := ⟨DV.made_ok (by rw [chunkTo_len]; exact hn1) (by rw [chunkTo_len]; exact hn2) (chunkTo_16 b n n hn) (by decide), made_sn _ _, rfl, Nat.le_refl _⟩
  have HZ0 : Hid (List.replicate n noughts = chunkTo b n 0) := (chunkTo_zero b n).symm
  have HF := toHid hf
  have hbs : (b.size : Int) = (n : Int) * 16 := by omega
  clear hT hf hB hn hlt0
  generalize hch : chunkTo b n = CH at HCK HCL HD0 HFN HZ0
  clear hch
  go_enter Tryz.func4, Tryz.ntmps4
  go_wp2_with fail
  refine (images_any w).mono ?_
  rintro e w1 ⟨rfl, hb1⟩
  go_wp2_with fail
  refine (light_any la len cap 20 xs w1 (HT0.out.below hb1) hlen (by omega)).mono ?_
  rintro e w' ⟨he, hw⟩
  have hw' := hw.symm
  subst hw'
  clear hw
  rw [HF.out] at he
  subst he
  go_wp2_with fail
  refine (HD0.out _).mono ?_
  rintro e w2 ⟨h, rfl, hd2, hb2⟩
  have HB2 : Hid (Below w.heap.size w w2) := hb1.trans (hb2.mono hb1.size)
  have HD2 : Hid (IsDev w.heap.size w2 h (DV.made (CH n) 0)) := hd2.base hb1.size
  have HSZ : Hid (Calls Tryz.prog 21 #[.pointer (some ⟨h.p, 0, none⟩)] w2 fun e w' => e = .returned (.int .i64 (n : Int)) ∧ w' = w2) := by
    have := size_any w2 hd2
    rw [show (DV.made (CH n) 0).fl.length = n from HCL.out n] at this
    exact this
  clear hd2 hb2 hb1 HD0 HF
  go_wp2_with fail
  refine HSZ.out.mono ?_
  rintro e w' ⟨rfl, hw⟩
  have hw' := hw.symm
  subst hw'
  clear hw
  go_wp2_with fail
  refine (newDev_any n _ hn1 hn2).mono ?_
  rintro e w3 ⟨q, rfl, hr3, hb3⟩
  have HB3 : Hid (Below w.heap.size w w3) := HB2.out.trans (hb3.mono HB2.out.size)
  have HD3 : Hid (IsDev w.heap.size w3 h (DV.made (CH n) 0)) := HD2.out.keep fun k hk => hb3.block k (HD2.out.lt k hk).2
  have HR3 : Hid (IsRef w.heap.size w3 q (DV.made (CH 0) 0)) := by
    have := hr3.base HB2.out.size
    rw [HZ0.out] at this
    exact this
  clear hr3 hb3 HB2 HD2 HSZ HZ0
  go_wp2_with fail
  go_loopw [9] (fun i wr => ∃ k : Nat, k ≤ n ∧ i = .int .i64 k ∧ RefIn w.heap.size wr q (CH k) 0 [] 0 [] (-1) ((0 : Nat) : Int) ∧ Kept q.fp w3 wr) (fun i _ => n - (intOf i).toNat)
  case atStart => exact ⟨0, Nat.zero_le _, rfl, HR3.out.inn, Kept.refl _ _⟩
  case round =>
    obtain ⟨k, hk, rfl, hr, hkp⟩ := hrel
    have c0 := hr.cell0
    rw [HCL.out k] at c0
    have HRk := toHid hr
    have HKk := toHid hkp
    by_cases hlt : k < n
    · have cf := hr.of.cellAt k (by rw [HCL.out k]; omega)
      rw [flS_at _ _ (by rw [HCL.out k]; exact hlt)] at cf
      have ff := hr.of.frozenAt k
      have hex := HEX.out k
      clear hr hkp
      have k0 : (0 : Int) ≤ (k : Int) := by omega
      have k1 : (k : Int) < (n : Int) := by omega
      have k2 : 16 * (k : Int) + 16 ≤ (b.size : Int) := by omega
      have k3 : (0 : Int) ≤ 16 * (k : Int) := by omega
      have k4 : (0 : Int) ≤ 16 * (k : Int) + 16 := by omega
      have k5 : (16 * (k : Int)).toNat = 16 * k := by omega
      have k6 : (16 * (k : Int) + 16).toNat = 16 * k + 16 := by omega
      have k7 : IntKind.i64.wrap (16 * (k : Int)) = 16 * (k : Int) := IntWalk.i64_in _ (by omega)
      have k9 : IntKind.i64.wrap (16 * (k : Int) + 16) = 16 * (k : Int) + 16 := IntWalk.i64_in _ (by omega)
      have k11 : 16 * (k : Int) ≤ 16 * (k : Int) + 16 := by omega
      have HNX : Hid (RefIn w.heap.size (wr.setCell ⟨q.bf, k, none⟩ (.string (b.extract (16 * k) (16 * k + 16)))).drew q (CH (k + 1)) 0 [] 0 [] (-1) ((0 : Nat) : Int) ∧ Kept q.fp w3 (wr.setCell ⟨q.bf, k, none⟩ (.string (b.extract (16 * k) (16 * k + 16)))).drew) := by
        unfold Hid
        rw [hex, HCK.out k]
        exact ⟨(HRk.out.setF k (chunk b k)).drew, (HKk.out.setCell (.inl (.inr (.inl rfl))) _).drew⟩
      clear hex
      go_wp2
      go_region
      go_wp2
      go_roundw
      case rel =>
        have fin : ∃ k' : Nat, k' ≤ n ∧ Value.int .i64 ((k : Int) + 1) = .int .i64 k' ∧ RefIn w.heap.size (wr.setCell ⟨q.bf, k, none⟩ (.string (b.extract (16 * k) (16 * k + 16)))).drew q (CH k') 0 [] 0 [] (-1) ((0 : Nat) : Int) ∧ Kept q.fp w3 (wr.setCell ⟨q.bf, k, none⟩ (.string (b.extract (16 * k) (16 * k + 16)))).drew :=
          ⟨k + 1, by omega, by go_num, HNX.out.1, HNX.out.2⟩
        first | exact fin | ((repeat apply Exists.intro); exact ⟨fin, rfl⟩)
      case measure => simp [intOf]; omega
    · have hkn : k = n := by omega
      subst hkn
      have HRF : Hid (IsRef w.heap.size wr q (DV.made (CH k) 0)) := ref_of_in hr
      have hkr : KeptR w.heap.size w3 wr := HR3.out.keptR hkp
      have HDR : Hid (IsDev w.heap.size wr h (DV.made (CH k) 0)) := HD3.out.keptByR hkr
      have HBR : Hid (Below w.heap.size w wr) := HB3.out.trans (hkr.below HB3.out.size)
      have hOF := openF_pos (DV.made (CH k) 0)
      have HOK := toHid (open_ok HFN.out)
      have HOI : Hid (Calls Tryz.prog 16 #[.pointer (some ⟨h.p, 0, none⟩)] wr fun e w' => Below wr.heap.size wr w' ∧
          ((openF (DV.made (CH k) 0) ≠ 0 ∧ e = .returned (.tuple #[.pointer none, erV (openF (DV.made (CH k) 0))])) ∨ (openF (DV.made (CH k) 0) = 0 ∧ ∃ x : Ih, x.h = h ∧ wr.heap.size ≤ x.tb ∧ e = .returned (.tuple #[.pointer (some ⟨x.p, 0, none⟩), .nilIface]) ∧ IsImg w.heap.size w' x (openV (DV.made (CH k) 0))))) := open_img wr HDR.out HBR.out.size
      have HOR : Hid (∀ W : World, Below wr.heap.size wr W → Calls Tryz.prog 17 #[.pointer (some ⟨q.p, 0, none⟩)] W fun e w' => Below W.heap.size W w' ∧
          ((openF (DV.made (CH k) 0) ≠ 0 ∧ e = .returned (.tuple #[.pointer none, .int .i64 (openF (DV.made (CH k) 0))])) ∨ (openF (DV.made (CH k) 0) = 0 ∧ ∃ r : Qh, r.d = q ∧ (∀ k, r.vt.ownBlock = some k → W.heap.size ≤ k) ∧ e = .returned (.tuple #[.pointer (some ⟨r.p, 0, none⟩), .int .i64 0]) ∧ IsRim w.heap.size w' r (openV (DV.made (CH k) 0))))) := fun W hW => opened_rim W (HRF.out.keep fun j hj => hW.block j (HRF.out.lt j hj).2) HFN.out (Nat.le_trans HBR.out.size hW.size)
      have HPN : Hid (∀ W : World, Below wr.heap.size wr W → Calls Tryz.prog 22 #[.pointer (some ⟨h.p, 0, none⟩)] W fun e w' => e = .returned (.int .i64 0) ∧ w' = W) := fun W hW => pending_any W (HDR.out.keep fun j hj => hW.block j (HDR.out.lt j hj).2)
      clear hr hkp hkr HRk HKk HB3 HD3 HR3 HFN HCK HCL HEX HRF HDR
      generalize openV (DV.made (CH k) 0) = V at HOI HOR HOK
      generalize openF (DV.made (CH k) 0) = f at HOI HOR hOF HOK
      by_cases hf0 : f = 0
      · subst hf0
        have HOI2 : Hid (Calls Tryz.prog 16 #[.pointer (some ⟨h.p, 0, none⟩)] wr fun e w' => ∃ x : Ih, Below wr.heap.size wr w' ∧ wr.heap.size ≤ x.tb ∧ e = .returned (.tuple #[.pointer (some ⟨x.p, 0, none⟩), .nilIface]) ∧ IsImg w.heap.size w' x V) := HOI.out.mono fun e w' ⟨h1, h2⟩ => by
          rcases h2 with ⟨h2, _⟩ | ⟨_, x, _, h3, h4, h5⟩
          · exact absurd rfl h2
          · exact ⟨x, h1, h3, h4, h5⟩
        have HOR2 : Hid (∀ W : World, Below wr.heap.size wr W → Calls Tryz.prog 17 #[.pointer (some ⟨q.p, 0, none⟩)] W fun e w' => ∃ r : Qh, Below W.heap.size W w' ∧ (∀ k, r.vt.ownBlock = some k → W.heap.size ≤ k) ∧ e = .returned (.tuple #[.pointer (some ⟨r.p, 0, none⟩), .int .i64 0]) ∧ IsRim w.heap.size w' r V) := fun W hW => (HOR.out W hW).mono fun e w' ⟨h1, h2⟩ => by
          rcases h2 with ⟨h2, _⟩ | ⟨_, r, _, h3, h4, h5⟩
          · exact absurd rfl h2
          · exact ⟨r, h1, h3, h4, h5⟩
        have HOK2 := toHid (HOK.out rfl).1
        clear HOI HOR HOK hOF
        go_wp2_with fail
        refine HOI2.out.mono ?_
        rintro e w4 ⟨x, hb4, hxt, rfl, hi4⟩
        have HB4 := toHid hb4
        have HI4 := toHid hi4
        have HXT := toHid hxt
        clear hb4 hi4 hxt HOI2
        go_wp2_with fail
        refine (HOR2.out _ HB4.out).mono ?_
        rintro e w5 ⟨r, hb5, hrt, rfl, hr5⟩
        have HB5 : Hid (Below wr.heap.size wr w5) := HB4.out.trans (hb5.mono HB4.out.size)
        have HST : Hid (Stood w x r 0 w5) := by
          refine ⟨x, r, V, rfl, rfl, ⟨HI4.out.below hb5, hr5, HOK2.out, fun j hj => ?_, Nat.le_trans HBR.out.size HB5.out.size⟩, HBR.out.trans (HB5.out.mono HBR.out.size)⟩
          have h1 := HI4.out.lts.2.2
          have h2 := hrt j hj
          omega
        clear hb5 hrt hr5 HOR2 HOK2 HI4 HXT HB4
        have HSM : Hid (∀ W : World, Calls Tryz.prog 11 #[.nilIface, .int .i64 0] W fun e w' => e = .returned (.bool true) ∧ w' = W) := fun W => errSame_nil 0 W
        go_wp2_with fail
        refine (HSM.out _).mono ?_
        rintro e w' ⟨rfl, hw⟩
        have hw' := hw.symm
        subst hw'
        clear hw
        go_wp2_with fail
        refine (HPN.out _ HB5.out).mono ?_
        rintro e w' ⟨rfl, hw⟩
        have hw' := hw.symm
        subst hw'
        clear hw
        go_wp2
        clear HPN HB5 HBR HSM
        go_loopw [13] (fun i wq => ∃ k : Nat, k ≤ len ∧ i = .int .i64 k ∧ Stood w x r k wq) (fun i _ => len - (intOf i).toNat)
        case atStart => exact ⟨0, Nat.zero_le _, rfl, HST.out⟩
        case round =>
          clear HST
          obtain ⟨j, hj, rfl, x', q', V2, hx', hq', hpr, hbl⟩ := hrel
          have HPR := toHid hpr
          have HBL := toHid hbl
          clear hpr hbl
          by_cases hjl : j < len
          · obtain ⟨blk, off, hla, hrg, hok⟩ := (HT0.out.below HBL.out).2 j hjl
            have hlx := HLT.out j hjl
            generalize xs.getD j ActV.none_ = y at hrg hok hlx
            subst hla
            have HRG := toHid hrg
            have HI : Hid ((Tryz.prog.info? 44).map (·.size) = some y.cells.length) := size_actZ
            have HIM : Hid (Calls Tryz.prog 18 #[.pointer (some ⟨x.p, 0, none⟩), .pointer (some ⟨r.p, 0, none⟩), .agg y.cells.toArray] wr fun e w' => e = .returned (.bool true) ∧ Stood w x r (j + 1) w') := by
              have := imaged_any y wr HPR.out (by omega) (by omega) hok.a1.2 hlx.2
              rw [hx', hq'] at this
              exact this.mono fun e w' ⟨h1, h2⟩ => ⟨h1, Stood.next hx' hq' HBL.out h2⟩
            clear hrg hok hlx hx' hq' HPR
            have j0 : (0 : Int) ≤ (j : Int) := by omega
            have j1 : (j : Int) < (len : Int) := by omega
            go_wp2_with (refine wpList_load_mid (by rfl) 44 (.tmp 101) (by rfl) blk (off + j * 7) (by rfl) y.cells _ HRG.out Tryz.underlying44 rfl HI.out ?_)
            refine HIM.out.mono ?_
            rintro e w6 ⟨rfl, hst6⟩
            have HS6 := toHid hst6
            clear hst6
            go_wp2
            go_roundw
            case rel =>
              have fin : ∃ k' : Nat, k' ≤ len ∧ Value.int .i64 ((j : Int) + 1) = .int .i64 k' ∧ Stood w x r k' w6 := ⟨j + 1, by omega, by go_num, HS6.out⟩
              first | exact fin | ((repeat apply Exists.intro); exact ⟨fin, rfl⟩)
            case measure => simp [intOf]; omega
          · have HAS : Hid (Calls Tryz.prog 19 #[.pointer (some ⟨x.p, 0, none⟩), .pointer (some ⟨r.p, 0, none⟩)] wr fun e w' => e = .returned (.bool true) ∧ Below wr.heap.size wr w') := by
              have := asImage_any wr HPR.out.img HPR.out.rim HPR.out.ok (by omega)
              rw [hx', hq'] at this
              exact this
            clear HPR hx' hq'
            go_wp2_with fail
            refine HAS.out.mono ?_
            rintro e w6 ⟨rfl, hb6⟩
            have HB6 := toHid (HBL.out.trans (hb6.mono HBL.out.size))
            clear hb6
            go_wp2
            go_ret
            exact ⟨rfl, HB6.out⟩
      · have HOI2 : Hid (Calls Tryz.prog 16 #[.pointer (some ⟨h.p, 0, none⟩)] wr fun e w' => Below wr.heap.size wr w' ∧ e = .returned (.tuple #[.pointer none, erV f])) := HOI.out.mono fun e w' ⟨h1, h2⟩ => by
          rcases h2 with ⟨_, h3⟩ | ⟨h3, _⟩
          · exact ⟨h1, h3⟩
          · exact absurd h3 hf0
        have HOR2 : Hid (∀ W : World, Below wr.heap.size wr W → Calls Tryz.prog 17 #[.pointer (some ⟨q.p, 0, none⟩)] W fun e w' => Below W.heap.size W w' ∧ e = .returned (.tuple #[.pointer none, .int .i64 f])) := fun W hW => (HOR.out W hW).mono fun e w' ⟨h1, h2⟩ => by
          rcases h2 with ⟨_, h3⟩ | ⟨h3, _⟩
          · exact ⟨h1, h3⟩
          · exact absurd h3 hf0
        have HSM : Hid (∀ W : World, Calls Tryz.prog 11 #[erV f, .int .i64 f] W fun e w' => e = .returned (.bool true) ∧ w' = W) := fun W => errSame f W hOF
        clear HOI HOR HOK hOF hf0
        generalize erV f = ef at HOI2 HSM
        go_wp2_with fail
        refine HOI2.out.mono ?_
        rintro e w4 ⟨hb4, rfl⟩
        have HB4 := toHid hb4
        clear hb4 HOI2
        go_wp2_with fail
        refine (HOR2.out _ HB4.out).mono ?_
        rintro e w5 ⟨hb5, rfl⟩
        have HB5 : Hid (Below wr.heap.size wr w5) := HB4.out.trans (hb5.mono HB4.out.size)
        clear hb5 HOR2 HB4
        go_wp2_with fail
        refine (HSM.out _).mono ?_
        rintro e w' ⟨rfl, hw⟩
        have hw' := hw.symm
        subst hw'
        clear hw
        go_wp2_with fail
        refine (HPN.out _ HB5.out).mono ?_
        rintro e w' ⟨rfl, hw⟩
        have hw' := hw.symm
        subst hw'
        clear hw
        go_wp2
        go_ret
        exact ⟨rfl, HBR.out.trans (HB5.out.mono HBR.out.size)⟩
end Go.Proofs.YtncjnjlakhohgaaGreat
