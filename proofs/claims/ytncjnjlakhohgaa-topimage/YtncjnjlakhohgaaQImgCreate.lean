/-
Sectors that are written to a place, one after the other, up to the first that fails.
Create: the rows of a table that is all Absent, a flush, the head, a flush.
-/
import Derived.Test.YtncjnjlakhohgaaQImgHead
import Derived.Deep.RegionHeld3
import Derived.Test.YtncjnjlakhohgaaQImgOpen2
namespace Go.Proofs.Ytncjnjlakhohgaa
open Go.RowKit Go.Maps
attribute [local go_sem ↓] Go.wp_at_zero Go.wp_at_succ

theorem extract_chunk (s : ByteArray) (k : Nat) : (s.extract (k * 16) ((k + 1) * 16)).data.toList = chunk s k := by
  unfold chunk
  rw [ByteArray.data_extract, Array.toList_extract, List.extract_eq_take_drop]
  rw [show (k + 1) * 16 - k * 16 = 16 by omega]

structure ImgAt (B tb : Nat) (w : World) (x : Ih) (v : IV) (d : DV) (y : Hd) (W : World) : Prop where
  img : IsImg B W { x with h := y } { v with d := d }
  kept : KeptP B tb w W

theorem ImgAt.drew {B tb : Nat} {w W : World} {x : Ih} {v : IV} {d : DV} {y : Hd} (h : ImgAt B tb w x v d y W) : ImgAt B tb w x v d y W.drew := ⟨h.img.drew, KeptP.trans h.kept (KeptP.of_below (Below.refl _ _).drew)⟩

set_option maxRecDepth 100000 in
set_option maxHeartbeats 1000000 in
theorem writePlace_img {B m : Nat} {x : Ih} {v : IV} (q fr c : Nat) (s : ByteArray) (w : World) (h : IsImg B w x v) (hd : v.d.fine v.d.fl.length m) (hm : m + 4 < 1000000000) (hB : B ≤ w.heap.size) (hk : v.h.ok = true) (hq : q ≤ 40) (hs : s.size = c * 16) (hf : fr + c ≤ 4) (ha : beginN v.h q + fr + c ≤ v.d.fl.length) :
    Calls Try.prog 88 #[.pointer (some ⟨x.p, 0, none⟩), .int .i64 (q : Int), .int .i64 (fr : Int), .string s] w fun e w' =>
      ∃ y : Hd, e = .returned (erV (v.d.puts (beginN v.h q + fr) s c).2) ∧ y.p = x.h.p ∧ IsImg B w' { x with h := y } { v with d := (v.d.puts (beginN v.h q + fr) s c).1 } ∧ KeptP B x.tb w w' := by
  obtain ⟨c0, c1, c2, c3, c4, c5, fz⟩ := h.cells
  have hn2 := hd.ok.n2
  have HBG : Hid (∀ W : World, Calls Try.prog 95 #[.agg #[.int .i64 v.h.c, .int .i64 v.h.p, .int .i64 v.h.b], .int .i64 (q : Int)] W fun e w' => e = .returned (.int .i64 (beginN v.h q : Int)) ∧ Below W.heap.size W w') := fun W => begin_any v.h.c v.h.p v.h.b q W hk hq
  have HFI : Hid (∀ k, k ≤ c → (v.d.puts (beginN v.h q + fr) s k).1.fine v.d.fl.length (m + k)) := fun k hk => hd.puts hs (by omega) (by omega) k hk
  generalize hbn : beginN v.h q = bn at HBG HFI ha ⊢
  have HST : Hid (∀ k, (v.d.puts (bn + fr) s k).2 = 0 → v.d.puts (bn + fr) s (k + 1) = ((v.d.puts (bn + fr) s k).1.put (bn + fr + k) (chunk s k), (v.d.puts (bn + fr) s k).1.putF)) := fun k hk => DV.puts_yes hk
  have HEN : Hid (∀ k, (v.d.puts (bn + fr) s k).2 ≠ 0 → k ≤ c → v.d.puts (bn + fr) s c = v.d.puts (bn + fr) s k) := fun k hk hkc => DV.puts_no hk c hkc
  have H00 : Hid (v.d.puts (bn + fr) s 0 = (v.d, 0)) := rfl
  generalize v.d.puts (bn + fr) s = D at HFI HST HEN H00 ⊢
  have HI := toHid h
  have hq16 : (s.size : Int) / 16 = (c : Int) := by omega
  have hbc : bn + fr + c ≤ 200 := by omega
  clear h hd fz hbn hq
  go_enter Try.func88, Try.ntmps88
  go_wp2_with fail
  refine (HBG.out _).mono ?_
  rintro e w1 ⟨rfl, hb1⟩
  have HI1 := toHid (HI.out.below hb1)
  have HK1 : Hid (KeptP B x.tb w w1) := KeptP.of_below hb1
  have hB1 : B ≤ w1.heap.size := Nat.le_trans hB hb1.size
  clear hb1 HBG HI c0 c1 c2 c3 c4 c5
  go_wp2
  go_loopw [23] (fun i wr => ∃ (k : Nat) (y : Hd), k ≤ c ∧ i = .int .i64 k ∧ (D k).2 = 0 ∧ y.p = x.h.p ∧ ImgAt B x.tb w x v (D k).1 y wr) (fun i _ => c - (intOf i).toNat)
  case atStart => exact ⟨0, x.h, Nat.zero_le _, rfl, by rw [H00.out], rfl, ⟨by rw [H00.out]; exact HI1.out, HK1.out⟩⟩
  case round =>
    obtain ⟨k, y, hkc, rfl, hf0, hyp, hat⟩ := hrel
    by_cases hlt : k < c
    · have hstep := HST.out k hf0
      have hfk := HFI.out k (by omega)
      have hBk : B ≤ wr.heap.size := Nat.le_trans hB hat.kept.size
      have HW : Hid (∀ W : World, ImgAt B x.tb w x v (D k).1 y W → wr.heap.size ≤ W.heap.size → Calls Try.prog 25 #[.pointer (some ⟨y.p, 0, none⟩), .int .i64 ((bn : Int) + (fr : Int) + (k : Int)), .string (s.extract (k * 16) ((k + 1) * 16))] W fun e w' =>
          ∃ y2 : Hd, e = .returned (erV (D (k + 1)).2) ∧ y2.p = y.p ∧ ImgAt B x.tb w x v (D (k + 1)).1 y2 w' ∧ w'.cell? ⟨x.p, 0, none⟩ = some (.pointer (some ⟨y.p, 0, none⟩))) := fun W hi hsz => by
        have h1 := dWrite_any (bn + fr + k) (s.extract (k * 16) ((k + 1) * 16)) W hi.img.dev hfk (by omega) (Nat.le_trans hBk hsz) (by rw [ByteArray.size_extract]; omega) (by omega)
        rw [show (((bn + fr + k : Nat) : Int)) = (bn : Int) + (fr : Int) + (k : Int) by omega] at h1
        refine h1.mono ?_
        rintro e w' ⟨v2, rfl, hd2, hk2⟩
        obtain ⟨hi3, hp3⟩ := hi.img.devd hd2 rfl hk2
        refine ⟨{ y with v2 := v2 }, by rw [hstep], rfl, ⟨?_, KeptP.trans hi.kept hp3⟩, hi3.cells.1⟩
        rw [hstep, ← extract_chunk]
        exact hi3
      have c0 := hat.img.cells.1
      have HA := toHid hat
      have HYP := toHid hyp
      clear hstep hfk hf0 hat hyp HFI HST
      have k0 : (0 : Int) ≤ (k : Int) := by omega
      have k1 : (k : Int) * 16 ≤ ((k : Int) + 1) * 16 := by omega
      have k2 : ((k : Int) + 1) * 16 ≤ (s.size : Int) := by omega
      have k3 : (0 : Int) ≤ (k : Int) * 16 := by omega
      have k4 : (0 : Int) ≤ ((k : Int) + 1) * 16 := by omega
      have k5 : ((k : Int) * 16).toNat = k * 16 := by omega
      have k6 : (((k : Int) + 1) * 16).toNat = (k + 1) * 16 := by omega
      have k7 : IntKind.i64.wrap ((k : Int) * 16) = (k : Int) * 16 := IntWalk.i64_in _ (by omega)
      have k8 : IntKind.i64.wrap ((k : Int) + 1) = (k : Int) + 1 := IntWalk.i64_in _ (by omega)
      have k9 : IntKind.i64.wrap (((k : Int) + 1) * 16) = ((k : Int) + 1) * 16 := IntWalk.i64_in _ (by omega)
      have k10 : IntKind.i64.wrap ((bn : Int) + (fr : Int) + (k : Int)) = (bn : Int) + (fr : Int) + (k : Int) := IntWalk.i64_in _ (by omega)
      have k11 : (k : Int) ≤ (k : Int) + 1 := by omega
      clear hs hq16
      have hdr : wr.drew.cell? ⟨x.p, 0, none⟩ = some (.pointer (some ⟨y.p, 0, none⟩)) := c0
      have HAD : Hid (ImgAt B x.tb w x v (D k).1 y wr.drew ∧ wr.heap.size ≤ wr.drew.heap.size) := ⟨HA.out.drew, Nat.le_refl _⟩
      go_wp2
      go_region_held3 (fun W => W.cell? ⟨x.p, 0, none⟩ = some (.pointer (some ⟨y.p, 0, none⟩)))
        (first | (exact hdr) | assumption)
        (first
          | (go_at_call 25; refine (HW.out _ HAD.out.1 HAD.out.2).mono ?_; rintro e w3 ⟨y2, rfl, hyp2, hat2, hcl2⟩))
      have HA2 := toHid hat2
      have HYP2 : Hid (y2.p = x.h.p) := by unfold Hid; rw [hyp2]; exact HYP.out
      clear hat2 hyp2 hcl2 HA HAD HW hdr c0 HYP
      by_cases hz : (D (k + 1)).2 = 0
      · have HZ := toHid hz
        have e0 : erV (D (k + 1)).2 = .nilIface := by rw [hz, erV_0]
        rw [e0]
        clear hz e0
        go_wp2
        go_roundw
        case rel =>
          have fin : ∃ (k1 : Nat) (y1 : Hd), k1 ≤ c ∧ Value.int .i64 ((k : Int) + 1) = .int .i64 k1 ∧ (D k1).2 = 0 ∧ y1.p = x.h.p ∧ ImgAt B x.tb w x v (D k1).1 y1 w3 := ⟨k + 1, y2, by omega, by go_num, HZ.out, HYP2.out, HA2.out⟩
          first | exact fin | ((repeat apply Exists.intro); exact ⟨fin, rfl⟩)
        case measure => simp [intOf]; omega
      · have HE := HEN.out (k + 1) hz (by omega)
        have HEE := toHid HE
        have h7 : erV (D (k + 1)).2 = .iface 112 (.int .i64 (D (k + 1)).2) := by unfold erV; rw [if_neg hz]
        have H7 := toHid h7
        rw [h7]
        clear hz HE h7
        go_wp2
        go_ret
        refine ⟨y2, ?_, HYP2.out, ?_, HA2.out.kept⟩
        · rw [HEE.out, H7.out]; rfl
        · rw [HEE.out]; exact HA2.out.img
    · have hkc2 : k = c := by omega
      subst hkc2
      have HA := toHid hat
      have HYP := toHid hyp
      have HE0 : Hid (erV (D k).2 = .nilIface) := by unfold Hid; rw [hf0, erV_0]
      clear hat hyp hf0 HFI HST HEN
      go_wp2
      go_ret
      exact ⟨y, ret_v HE0.out.symm, HYP.out, HA.out.img, HA.out.kept⟩
end Go.Proofs.Ytncjnjlakhohgaa

namespace Go.Proofs.Ytncjnjlakhohgaa
open Go.RowKit Go.Maps
attribute [local go_sem ↓] Go.wp_at_zero Go.wp_at_succ

def DV.rowsP (d : DV) (t : List (Int × Int)) : Nat → DV × Int
  | 0 => (d, 0)
  | k + 1 => if (d.rowsP t k).2 = 0 then ((d.rowsP t k).1.put (1 + k) (rowS t (k : Int)).data.toList, (d.rowsP t k).1.putF) else d.rowsP t k

theorem DV.rowsP_yes {d : DV} {t : List (Int × Int)} {k : Nat} (h : (d.rowsP t k).2 = 0) : d.rowsP t (k + 1) = ((d.rowsP t k).1.put (1 + k) (rowS t (k : Int)).data.toList, (d.rowsP t k).1.putF) := by
  show (if (d.rowsP t k).2 = 0 then _ else _) = _
  rw [if_pos h]

theorem DV.rowsP_no {d : DV} {t : List (Int × Int)} {k : Nat} (h : (d.rowsP t k).2 ≠ 0) : ∀ j, k ≤ j → d.rowsP t j = d.rowsP t k := by
  intro j hj
  induction j with
  | zero => rw [show (0 : Nat) = k by omega]
  | succ j ih =>
    by_cases e : k = j + 1
    · rw [← e]
    · have h1 := ih (by omega)
      show (if (d.rowsP t j).2 = 0 then _ else d.rowsP t j) = _
      rw [h1, if_neg h]

def crT (h : HV) : List (Int × Int) := List.replicate h.c.toNat (0, 0)
def crD (d : DV) (h : HV) : DV × Int := d.rowsP (crT h) (rowsN h.c.toNat)
def crV0 (d : DV) (h : HV) : IV := ⟨(crD d h).1, h, crT h, []⟩
def crV (d : DV) (h : HV) : IV := (crV0 d h).headV h
def crF (d : DV) (h : HV) : Int := if h.ok = true then (if d.fl.length < needN h then 1 else if (crD d h).2 = 0 then (crV0 d h).flush.d.putF else (crD d h).2) else 1

theorem crT_len (h : HV) (hk : h.ok = true) : ((crT h).length : Int) = h.c := by
  have := HV.of_ok hk
  unfold crT; rw [List.length_replicate]; omega

theorem crT_ents (h : HV) : ∀ e ∈ crT h, entB e.1 e.2 h.p = true := by
  intro e he
  rw [List.eq_of_mem_replicate he]
  exact entB_yes (.inr ⟨.inl rfl, rfl⟩)

theorem crT_row (h : HV) (hk : h.ok = true) (k : Nat) (hr : k < rowsN h.c.toNat) : rowF (crT h) (k : Int) = 0 ∧ (rowS (crT h) (k : Int)).size = 16 :=
  row_good hk (crT_len h hk) (crT_ents h) k (by have := crT_len h hk; have := HV.of_ok hk; rw [show (crT h).length = h.c.toNat by omega]; exact hr)

theorem crD_fine {d : DV} {m : Nat} {h : HV} (hd : d.fine d.fl.length m) (hk : h.ok = true) (hn : needN h ≤ d.fl.length) (hm : m + 10 < 1000000000) : ∀ k, k ≤ rowsN h.c.toNat → (d.rowsP (crT h) k).1.fine d.fl.length (m + k) := by
  have hb := (begin_le hk hn).1
  have hrn : rowsN h.c.toNat ≤ 5 := by have := HV.of_ok hk; unfold rowsN; omega
  intro k
  induction k with
  | zero => intro _; exact hd
  | succ k ih =>
    intro hkn
    have h1 := ih (by omega)
    by_cases h0 : (d.rowsP (crT h) k).2 = 0
    · rw [DV.rowsP_yes h0]
      exact h1.put (by omega) (by have := (crT_row h hk k (by omega)).2; simpa using this) (by omega)
    · rw [DV.rowsP_no h0 (k + 1) (by omega)]
      exact h1.more (by omega)

theorem crV0_ok {d : DV} {m : Nat} {h : HV} (hd : d.fine d.fl.length m) (hk : h.ok = true) (hn : needN h ≤ d.fl.length) (hm : m + 10 < 1000000000) : (crV0 d h).ok (m + 5) := by
  have hrn : rowsN h.c.toNat ≤ 5 := by have := HV.of_ok hk; unfold rowsN; omega
  have h1 := (crD_fine hd hk hn hm _ (Nat.le_refl _)).more (show m + rowsN h.c.toNat ≤ m + 5 by omega)
  refine ⟨?_, hk, crT_len h hk, crT_ents h, ?_, (fun q hq => by cases hq), Nat.zero_le _⟩
  · show (crD d h).1.fine (crD d h).1.fl.length (m + 5)
    unfold crD
    rw [h1.len]; exact h1
  · show needN h ≤ (crD d h).1.fl.length
    unfold crD
    rw [h1.len]; exact hn

theorem crV_ok {d : DV} {m : Nat} {h : HV} (hd : d.fine d.fl.length m) (hk : h.ok = true) (hn : needN h ≤ d.fl.length) (hm : m + 20 < 1000000000) : (crV d h).ok (m + 15) :=
  ((crV0_ok hd hk hn (by omega)).headV hk rfl rfl (by omega)).more (by omega)

theorem KeptP.retb {B tb tb' : Nat} {w w' : World} (h : KeptP B tb w w') (ht : w.heap.size ≤ tb) : KeptP B tb' w w' :=
  Kept.mono h fun k hk hs => ⟨hs.1, .inl (by rcases hs.2 with h2 | h2; exact h2; omega)⟩

/- Create, of a head that may not be, or on a device with too few sectors. -/
set_option maxRecDepth 100000 in
set_option maxHeartbeats 1000000 in
theorem create_bad {B : Nat} {h : Hd} {d : DV} (c p b : Int) (w : World) (hd : IsDev B w h d) (hn : ¬ (HV.ok ⟨c, p, b⟩ = true ∧ needN ⟨c, p, b⟩ ≤ d.fl.length)) :
    Calls Try.prog 57 #[.pointer (some ⟨h.p, 0, none⟩), .agg #[.int .i64 c, .int .i64 p, .int .i64 b]] w fun e w' => e = .returned (.tuple #[.pointer none, .iface 112 (.int .i64 1)]) ∧ Below w.heap.size w w' := by
  have HCH := toHid (checkHead_any c p b)
  cases hk : HV.ok ⟨c, p, b⟩ with
  | false =>
    have e1 : HV.fault ⟨c, p, b⟩ = 1 := by unfold HV.fault; rw [hk]; rfl
    rw [e1, erV_1] at HCH
    clear hd hn hk e1
    go_enter Try.func57, Try.ntmps57
    go_wp2_with fail
    refine (HCH.out _).mono ?_
    rintro e w1 ⟨rfl, hb1⟩
    go_wp2
    go_ret2
    exact ⟨rfl, ((Below.refl _ _).alloc (Nat.le_refl _) _).trans (hb1.mono (by simp))⟩
  | true =>
    have e1 : HV.fault ⟨c, p, b⟩ = 0 := by unfold HV.fault; rw [hk]; rfl
    rw [e1, erV_0] at HCH
    have hlt : d.fl.length < needN ⟨c, p, b⟩ := by
      by_cases hx : needN ⟨c, p, b⟩ ≤ d.fl.length
      · exact absurd ⟨hk, hx⟩ hn
      · omega
    have HND := toHid (fun W => need_any c p b W hk)
    have HSI : Hid (∀ W : World, Below w.heap.size w W → Calls Try.prog 22 #[.pointer (some ⟨h.p, 0, none⟩)] W fun e w' => e = .returned (.int .i64 (d.fl.length : Int)) ∧ w' = W) := fun W hb => size_any W (hd.keep fun k hk => hb.block k (hd.lt k hk).2)
    generalize needN ⟨c, p, b⟩ = nn at HND hlt
    clear hd hn hk e1
    go_enter Try.func57, Try.ntmps57
    go_wp2_with fail
    refine (HCH.out _).mono ?_
    rintro e wA ⟨rfl, hb1⟩
    have HB1 : Hid (Below w.heap.size w wA) := ((Below.refl _ _).alloc (Nat.le_refl _) _).trans (hb1.mono (by simp))
    have hx1 : wA.heap[w.heap.size]? = some (.cells #[.int .i64 c, .int .i64 p, .int .i64 b] 67 (0, 0)) := by rw [hb1.block _ (by simp), heap_alloc_new]
    have hNl : w.heap.size < wA.heap.size := lt_of_some hx1
    have y0 : wA.cell? ⟨w.heap.size, 0, none⟩ = some (.int .i64 c) := by rw [cell_of_row _ _ _ _ _ _ hx1]; rfl
    have y1 : wA.cell? ⟨w.heap.size, 1, none⟩ = some (.int .i64 p) := by rw [cell_of_row _ _ _ _ _ _ hx1]; rfl
    have y2 : wA.cell? ⟨w.heap.size, 2, none⟩ = some (.int .i64 b) := by rw [cell_of_row _ _ _ _ _ _ hx1]; rfl
    clear hb1 hx1 HCH
    go_wp2
    go_region_held3 (fun W => Below wA.heap.size wA W ∧ W.cell? ⟨w.heap.size, 0, none⟩ = some (.int .i64 c) ∧ W.cell? ⟨w.heap.size, 1, none⟩ = some (.int .i64 p) ∧ W.cell? ⟨w.heap.size, 2, none⟩ = some (.int .i64 b))
      (first | (exact ⟨Below.drew (Below.refl _ _), y0, y1, y2⟩) | assumption | (exact ⟨by assumption, (Below.cell (by assumption) hNl).trans y0, (Below.cell (by assumption) hNl).trans y1, (Below.cell (by assumption) hNl).trans y2⟩))
      (first
        | (go_at_call 22; refine (HSI.out _ (HB1.out.trans (Below.mono (by assumption : Below wA.heap.size wA _ ∧ _).1 HB1.out.size))).mono ?_; rintro e w' ⟨rfl, rfl⟩)
        | (go_at_call 83; refine (HND.out _).mono ?_; rintro e w' ⟨rfl, hb'⟩; have hB' := Below.trans (by assumption : Below wA.heap.size wA _ ∧ _).1 (hb'.mono (by assumption : Below wA.heap.size wA _ ∧ _).1.size)))
    all_goals
      obtain ⟨hs0, z0, z1, z2⟩ := (by assumption : Below wA.heap.size wA _ ∧ _)
      have HBW := toHid (HB1.out.trans (hs0.mono HB1.out.size))
      have g1 : decide ((d.fl.length : Int) < (nn : Int)) = true := decide_eq_true (by omega)
      clear hs0 y0 y1 y2 hNl
      go_wp2
      go_ret2
      exact ⟨rfl, HBW.out⟩

theorem entV_zeros (n : Nat) : entV (List.replicate n (0, 0)) = List.replicate (n * 2) (.int .i64 0) := by
  induction n with
  | zero => rfl
  | succ n ih =>
    rw [List.replicate_succ]
    have e1 : ∀ (y : Int × Int) (l : List (Int × Int)), entV (y :: l) = .int .i64 y.1 :: .int .i64 y.2 :: entV l := fun _ _ => rfl
    rw [e1, ih, show (n + 1) * 2 = n * 2 + 1 + 1 by omega, List.replicate_succ, List.replicate_succ]

theorem made_zeros (n : Nat) : (madeCells (Value.agg #[.int .i64 0, .int .i64 0]).cells (n * 2)).toList = entV (List.replicate n (0, 0)) := by
  rw [entV_zeros]
  apply List.ext_getElem
  · simp [madeCells]
  · intro i h1 h2
    simp [madeCells, Value.cells]
    rcases Nat.mod_two_eq_zero_or_one i with h | h <;> simp [h]
end Go.Proofs.Ytncjnjlakhohgaa
