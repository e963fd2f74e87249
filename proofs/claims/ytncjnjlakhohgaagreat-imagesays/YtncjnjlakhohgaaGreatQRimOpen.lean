/-
The document's own image: which one stands on a device.
-/
import Derived.Test.YtncjnjlakhohgaaGreatQRimGets
import Derived.Test.YtncjnjlakhohgaaGreatQImgOpen2
import Derived.Test.YtncjnjlakhohgaaGreatQTabOf2
import Derived.Test.YtncjnjlakhohgaaGreatQCrashA
namespace Go.Proofs.YtncjnjlakhohgaaGreat
open Go.RowKit Go.Maps
attribute [local go_sem ↓] Go.wp_at_zero Go.wp_at_succ

theorem headF_pos (s : ByteArray) (h : headF s ≠ 0) : 0 < headF s := by
  have := headF_nonneg s
  omega

theorem seen_bytes {d : DV} {m : Nat} (hf : d.fine d.fl.length m) (i : Nat) (hi : i < d.fl.length) : bytesOf (lastTo d i d.pend.length) = bytesOf (d.seen.getD i []) := by rw [seen_last hf.sn i hi]

set_option maxRecDepth 100000 in
set_option maxHeartbeats 1000000 in
theorem opened_head {B m : Nat} {q : Rh} {d : DV} (w : World) (hd : IsRef B w q d) (hf : d.fine d.fl.length m) (h1 : headF (bytesOf (d.seen.getD 0 [])) ≠ 0) :
    Calls Tryz.prog 17 #[.pointer (some ⟨q.p, 0, none⟩)] w fun e w' => e = .returned (.tuple #[.pointer none, .int .i64 (openF d)]) ∧ Below w.heap.size w w' := by
  have e0 : openF d = headF (bytesOf (d.seen.getD 0 [])) := by unfold openF; rw [if_neg h1]
  rw [e0]
  have hfw := hf.ok.few
  have hfw2 := hf.ok.few2
  have hsn := seen_any 0 w hd hf.ok.n1 (by omega)
  rw [seen_bytes hf 0 hf.ok.n1] at hsn
  have HSN : Hid (Calls Tryz.prog 45 #[.pointer (some ⟨q.p, 0, none⟩), .int .i64 0] w fun e w' => e = .returned (.string (bytesOf (d.seen.getD 0 []))) ∧ w' = w) := hsn
  have HRH := toHid (refHeadOf_any (bytesOf (d.seen.getD 0 [])))
  have hp := headF_pos _ h1
  clear hd h1 e0 hf hsn
  generalize headF (bytesOf (d.seen.getD 0 [])) = f at HRH hp ⊢
  have HRH2 : Hid (∀ W : World, Calls Tryz.prog 44 #[.string (bytesOf (d.seen.getD 0 []))] W fun e w' => e = .returned (.tuple #[.agg #[.int .i64 (headOf (bytesOf (d.seen.getD 0 []))).c, .int .i64 (headOf (bytesOf (d.seen.getD 0 []))).p, .int .i64 (headOf (bytesOf (d.seen.getD 0 []))).b], .int .i64 f]) ∧ Below W.heap.size W w') := HRH
  clear HRH
  generalize (headOf (bytesOf (d.seen.getD 0 []))).c = c at HRH2
  generalize (headOf (bytesOf (d.seen.getD 0 []))).p = p at HRH2
  generalize (headOf (bytesOf (d.seen.getD 0 []))).b = b at HRH2
  generalize bytesOf (d.seen.getD 0 []) = s at HSN HRH2
  have g1 : decide (0 < f) = true := decide_eq_true hp
  go_enter Tryz.func17, Tryz.ntmps17
  go_wp2_with fail
  refine HSN.out.mono ?_
  rintro e w' ⟨rfl, hw⟩
  have hw' := hw.symm
  subst hw'
  clear hw
  go_wp2_with fail
  refine (HRH2.out _).mono ?_
  rintro e w1 ⟨rfl, hb1⟩
  go_wp2
  go_ret2
  exact ⟨rfl, hb1.alloc hb1.size _⟩

theorem rim_made {B g cap : Nat} {w wF : World} {q : Rh} {d : DV} {h : HV} {ts : List (Int × Int)} (hd : IsRef B w q d) (hB : B ≤ w.heap.size) (hb : Below w.heap.size w wF) (ho : wF.ownsRow B 74 2 (.slice (some ⟨g, 0, none⟩) ts.length cap) ts.length (entV ts)) :
    IsRim B (wF.alloc (.cells #[.pointer (some ⟨q.p, 0, none⟩), .int .i64 h.c, .int .i64 h.p, .int .i64 h.b, .slice (some ⟨g, 0, none⟩) ts.length cap, .slice none 0 0] 72)) ⟨wF.heap.size, q, .slice (some ⟨g, 0, none⟩) ts.length cap, .slice none 0 0⟩ ⟨d, h, ts, []⟩ := by
  have hd2 : IsRef B wF q d := hd.keep fun k hk => hb.block k (hd.lt k hk).2
  have hba := Below.refl wF.heap.size wF |>.alloc (Nat.le_refl _) (.cells #[.pointer (some ⟨q.p, 0, none⟩), .int .i64 h.c, .int .i64 h.p, .int .i64 h.b, .slice (some ⟨g, 0, none⟩) ts.length cap, .slice none 0 0] 72)
  refine ⟨heap_alloc_new _ _, Nat.le_trans hB hb.size, hd2.keep fun k hk => hba.block k (hd2.lt k hk).2, ownsRow_keep ho fun k hk => hba.block k (ho.lt k hk).2, World.ownsRow_nil _ _ _ _, fun k e => by cases e⟩

set_option maxRecDepth 100000 in
set_option maxHeartbeats 2000000 in
theorem opened_rest {B m : Nat} {q : Rh} {d : DV} (w : World) (hd : IsRef B w q d) (hf : d.fine d.fl.length m) (hB : B ≤ w.heap.size) (h1 : headF (bytesOf (d.seen.getD 0 [])) = 0) :
    Calls Tryz.prog 17 #[.pointer (some ⟨q.p, 0, none⟩)] w fun e w' => Below w.heap.size w w' ∧
      ((openF d ≠ 0 ∧ e = .returned (.tuple #[.pointer none, .int .i64 (openF d)])) ∨ (openF d = 0 ∧ ∃ r : Qh, r.d = q ∧ (∀ k, r.vt.ownBlock = some k → w.heap.size ≤ k) ∧ e = .returned (.tuple #[.pointer (some ⟨r.p, 0, none⟩), .int .i64 0]) ∧ IsRim B w' r (openV d))) := by
  have hk : (openH d).ok = true := headF_ok h1
  have hk2 : HV.ok ⟨(openH d).c, (openH d).p, (openH d).b⟩ = true := hk
  have hn1 := hf.ok.n1
  have hn2 := hf.ok.n2
  have hfw := hf.ok.few
  have hfw2 := hf.ok.few2
  have h16 := hf.ok.l2
  have hsm := hf.ok.same
  have hbo := HV.of_ok hk
  obtain ⟨c0, _, _, _, _, _⟩ := hd.cells
  have lq : q.p < w.heap.size := (hd.lt q.p (.inl rfl)).2
  have hsn := seen_any 0 w hd hn1 (by omega)
  rw [seen_bytes hf 0 hn1] at hsn
  have HSN : Hid (Calls Tryz.prog 45 #[.pointer (some ⟨q.p, 0, none⟩), .int .i64 0] w fun e w' => e = .returned (.string (bytesOf (d.seen.getD 0 []))) ∧ w' = w) := hsn
  have hrh := refHeadOf_any (bytesOf (d.seen.getD 0 []))
  rw [h1] at hrh
  have HRH : Hid (∀ W : World, Calls Tryz.prog 44 #[.string (bytesOf (d.seen.getD 0 []))] W fun e w' => e = .returned (.tuple #[.agg #[.int .i64 (openH d).c, .int .i64 (openH d).p, .int .i64 (openH d).b], .int .i64 0]) ∧ Below W.heap.size W w') := hrh
  have HND := toHid (fun W => refNeed_any (openH d).c (openH d).p (openH d).b W hk2)
  have HRW : Hid (∀ W : World, Calls Tryz.prog 34 #[.int .i64 (openH d).c] W fun e w' => e = .returned (.int .i64 (rowsN (openH d).c.toNat : Int)) ∧ w' = W) := fun W => by have := refRows_any (openH d).c.toNat W (by omega); rw [show (((openH d).c.toNat : Nat) : Int) = (openH d).c by omega] at this; exact this
  have hrn : rowsN (openH d).c.toNat ≤ 5 := by unfold rowsN; omega
  have HNR : Hid (¬ d.fl.length < needN (openH d) → rowsN (openH d).c.toNat < d.fl.length) := fun hx => by
    have := (begin_le hk (Nat.le_refl _)).1
    omega
  have HDK : Hid (∀ W : World, Below w.heap.size w W → IsRef B W q d) := fun W hb => hd.keep fun k hk => hb.block k (hd.lt k hk).2
  have HSE : Hid (∀ (k : Nat) (W : World), 1 + k < d.fl.length → Below w.heap.size w W → Calls Tryz.prog 45 #[.pointer (some ⟨q.p, 0, none⟩), .int .i64 (1 + (k : Int))] W fun e w' => e = .returned (.string (openR d k)) ∧ w' = W) := fun k W hk hb => by
    have := seen_any (1 + k) W (HDK.out W hb) hk (by omega)
    rw [seen_bytes hf (1 + k) hk, show (((1 + k : Nat) : Int)) = 1 + (k : Int) by omega] at this; exact this
  have HF1 : Hid (d.fl.length < needN (openH d) → openF d = 1) := fun hx => by unfold openF; rw [if_pos h1, if_pos hx]
  have HF2 : Hid (¬ d.fl.length < needN (openH d) → openF d = tableF (openH d) (rowsTo d (rowsN (openH d).c.toNat))) := fun hx => by unfold openF; rw [if_pos h1, if_neg hx]; rfl
  have HTG : Hid (tableF (openH d) (rowsTo d (rowsN (openH d).c.toNat)) = 0 → ((tableT (openH d) (rowsTo d (rowsN (openH d).c.toNat))).length : Int) = (openH d).c) := fun hx => (tableT_good hx).2.2.2
  have HTN : Hid (0 ≤ tableF (openH d) (rowsTo d (rowsN (openH d).c.toNat))) := tableF_nonneg _ _
  have HSZ : Hid (rowsN (openH d).c.toNat < d.fl.length → ∀ k, k < rowsN (openH d).c.toNat → (openR d k).size = 16) := fun hx k hkn => by
    have hx : 1 + k < d.seen.length := by omega
    have : (d.seen.getD (1 + k) []).length = 16 := by rw [List.getD_eq_getElem?_getD, List.getElem?_eq_getElem hx]; exact h16 _ (List.getElem_mem hx)
    show (d.seen.getD (1 + k) []).toArray.size = 16
    simpa using this
  have HTB : Hid (rowsN (openH d).c.toNat < d.fl.length → ∀ (W : World) (a : Option Addr) (cap : Nat), W.ownsRow w.heap.size 9 1 (.slice a (rowsN (openH d).c.toNat) cap) (rowsN (openH d).c.toNat) (strV (rowsTo d (rowsN (openH d).c.toNat))) → Calls Tryz.prog 46 #[.agg #[.int .i64 (openH d).c, .int .i64 (openH d).p, .int .i64 (openH d).b], .slice a (rowsN (openH d).c.toNat) cap] W fun e w' =>
      ∃ lt cp, e = .returned (.tuple #[.slice lt (tableT (openH d) (rowsTo d (rowsN (openH d).c.toNat))).length cp, .int .i64 (tableF (openH d) (rowsTo d (rowsN (openH d).c.toNat)))]) ∧ TabO W.heap.size w' lt cp (tableT (openH d) (rowsTo d (rowsN (openH d).c.toNat))) ∧ Below W.heap.size W w') := fun hx W a cap ho =>
    tableOf_any (openH d).c (openH d).p (openH d).b a _ cap (rowsTo d (rowsN (openH d).c.toNat)) W (texts_owns ho (rowsTo_len d _) fun k hkn => by rw [rowsTo_at d _ k hkn, HSZ.out hx k hkn]; unfold maxLen; omega) (by omega)
  have HS0 : Hid (rowsTo d 0 = []) := rfl
  have HSS : Hid (∀ k, rowsTo d (k + 1) = rowsTo d k ++ [openR d k]) := rowsTo_succ d
  have HMD : Hid (∀ (W : World) (g cp : Nat), Below w.heap.size w W → W.ownsRow B 74 2 (.slice (some ⟨g, 0, none⟩) (tableT (openH d) (rowsTo d (rowsN (openH d).c.toNat))).length cp) (tableT (openH d) (rowsTo d (rowsN (openH d).c.toNat))).length (entV (tableT (openH d) (rowsTo d (rowsN (openH d).c.toNat)))) →
      IsRim B (W.alloc (.cells #[.pointer (some ⟨q.p, 0, none⟩), .int .i64 (openH d).c, .int .i64 (openH d).p, .int .i64 (openH d).b, .slice (some ⟨g, 0, none⟩) (tableT (openH d) (rowsTo d (rowsN (openH d).c.toNat))).length cp, .slice none 0 0] 72)) ⟨W.heap.size, q, .slice (some ⟨g, 0, none⟩) (tableT (openH d) (rowsTo d (rowsN (openH d).c.toNat))).length cp, .slice none 0 0⟩ (openV d)) := fun W g cp hb ho => rim_made hd hB hb ho
  obtain ⟨i2, hi2, hy0, hy1, hy2⟩ := info_parts info_str
  have hc1 := hbo.1
  generalize openV d = V at HMD ⊢
  generalize openF d = F at HF1 HF2 ⊢
  generalize openR d = R at HSE HSS HSZ
  generalize tableF (openH d) (rowsTo d (rowsN (openH d).c.toNat)) = TF at HF2 HTB HTG HTN
  generalize tableT (openH d) (rowsTo d (rowsN (openH d).c.toNat)) = TT at HTB HMD HTG
  generalize needN (openH d) = nn at HND HF1 HF2 HNR
  generalize rowsN (openH d).c.toNat = rn at HRW hrn HNR HTB HSZ
  generalize rowsTo d = L at HTB HS0 HSS
  clear hk hk2 hbo h1 hsn hrh hf h16 hsm hd
  generalize (openH d).c = c at HRH HND HRW HTB HMD HTG hc1
  generalize (openH d).p = p at HRH HND HTB HMD
  generalize (openH d).b = b at HRH HND HTB HMD
  generalize bytesOf (d.seen.getD 0 []) = s at HSN HRH
  go_enter Tryz.func17, Tryz.ntmps17
  go_wp2_with fail
  refine HSN.out.mono ?_
  rintro e w' ⟨rfl, hw⟩
  have hw' := hw.symm
  subst hw'
  clear hw
  go_wp2_with fail
  refine (HRH.out _).mono ?_
  rintro e w1 ⟨rfl, hb1⟩
  have HB1 : Hid (Below w.heap.size w (w1.alloc (.cells #[.int .i64 c, .int .i64 p, .int .i64 b] 23))) := hb1.alloc hb1.size _
  have HX1 : Hid ((w1.alloc (.cells #[.int .i64 c, .int .i64 p, .int .i64 b] 23)).heap[w1.heap.size]? = some (.cells #[.int .i64 c, .int .i64 p, .int .i64 b] 23 (0, 0))) := heap_alloc_new _ _
  have HNW : Hid (w.heap.size ≤ w1.heap.size) := hb1.size
  clear hb1 HSN HRH
  go_wp2
  generalize w1.alloc (.cells #[.int .i64 c, .int .i64 p, .int .i64 b] 23) = wA at HB1 HX1 ⊢
  generalize w1.heap.size = N at HX1 HNW ⊢
  have hNl : N < wA.heap.size := lt_of_some HX1.out
  have hql : q.p < wA.heap.size := Nat.lt_of_lt_of_le lq HB1.out.size
  have y0 : wA.cell? ⟨N, 0, none⟩ = some (.int .i64 c) := by rw [cell_of_row _ _ _ _ _ _ HX1.out]; rfl
  have y1 : wA.cell? ⟨N, 1, none⟩ = some (.int .i64 p) := by rw [cell_of_row _ _ _ _ _ _ HX1.out]; rfl
  have y2 : wA.cell? ⟨N, 2, none⟩ = some (.int .i64 b) := by rw [cell_of_row _ _ _ _ _ _ HX1.out]; rfl
  have y3 : wA.cell? ⟨q.p, 0, none⟩ = some (.slice (some ⟨q.bf, 0, none⟩) d.fl.length q.cf) := (HB1.out.cell (p := ⟨q.p, 0, none⟩) lq).trans c0
  go_region_held3 (fun W => Below wA.heap.size wA W ∧ W.cell? ⟨N, 0, none⟩ = some (.int .i64 c) ∧ W.cell? ⟨N, 1, none⟩ = some (.int .i64 p) ∧ W.cell? ⟨N, 2, none⟩ = some (.int .i64 b) ∧ W.cell? ⟨q.p, 0, none⟩ = some (.slice (some ⟨q.bf, 0, none⟩) d.fl.length q.cf))
    (first | (exact ⟨Below.drew (Below.refl _ _), y0, y1, y2, y3⟩) | assumption | (exact ⟨by assumption, (Below.cell (by assumption) hNl).trans y0, (Below.cell (by assumption) hNl).trans y1, (Below.cell (by assumption) hNl).trans y2, (Below.cell (by assumption) hql).trans y3⟩))
    (first
      | (go_at_call 13; refine (HND.out _).mono ?_; rintro e wN ⟨rfl, hb'⟩; have hB' := Below.trans (by assumption : Below wA.heap.size wA _ ∧ _).1 (hb'.mono (by assumption : Below wA.heap.size wA _ ∧ _).1.size)))
  all_goals
    obtain ⟨hs0, z0, z1, z2, z3⟩ := (by assumption : Below wA.heap.size wA wN ∧ _)
    have HBW := toHid (HB1.out.trans (hs0.mono HB1.out.size))
    have HX2 : Hid (wN.heap[N]? = some (.cells #[.int .i64 c, .int .i64 p, .int .i64 b] 23 (0, 0))) := by unfold Hid; rw [hs0.block _ hNl]; exact HX1.out
    have hNn : N < wN.heap.size := lt_of_some HX2.out
    clear hs0 y0 y1 y2 y3 HX1 hNl hql
    by_cases hx : d.fl.length < nn
    · have hF := HF1.out hx
      have g1 : decide ((d.fl.length : Int) < (nn : Int)) = true := decide_eq_true (by omega)
      clear HF1 HF2 HTB HMD HTG HSE HSS HSZ HRW
      go_wp2
      go_ret2
      exact ⟨HBW.out, .inl ⟨by rw [hF]; decide, by rw [hF]; rfl⟩⟩
    · have HF := toHid (HF2.out hx)
      have hnr := HNR.out hx
      have g1 : decide ((d.fl.length : Int) < (nn : Int)) = false := decide_eq_false (by omega)
      have HTB2 := toHid (HTB.out hnr)
      clear HF1 HF2 HTB HSZ HNR
      go_wp2
      generalize decide (d.fl.length < nn) = db
      clear hx g1
      go_loopw [6, 7] (fun u i wr => ∃ (k : Nat) (a : Option Addr) (cap : Nat), k ≤ rn ∧ i = .int .i64 k ∧ u = .slice a k cap ∧ wr.ownsRow wN.heap.size 9 1 (.slice a k cap) k (strV (L k)) ∧ Below wN.heap.size wN wr) (fun _ i _ => rn - (intOf i).toNat)
      case atStart => exact ⟨0, none, 0, Nat.zero_le _, rfl, rfl, by rw [HS0.out]; exact World.ownsRow_nil _ _ _ _, Below.refl _ _⟩
      case round =>
        obtain ⟨k, a, cap, hkn, rfl, rfl, ho, hbel⟩ := hrel
        have hb0 : Below w.heap.size w wr := HBW.out.trans (hbel.mono HBW.out.size)
        have hsz : wN.heap.size ≤ wr.heap.size := hbel.size
        have x0 : wr.cell? ⟨N, 0, none⟩ = some (.int .i64 c) := (hbel.cell (p := ⟨N, 0, none⟩) hNn).trans z0
        have x1 : wr.cell? ⟨N, 1, none⟩ = some (.int .i64 p) := (hbel.cell (p := ⟨N, 1, none⟩) hNn).trans z1
        have x2 : wr.cell? ⟨N, 2, none⟩ = some (.int .i64 b) := (hbel.cell (p := ⟨N, 2, none⟩) hNn).trans z2
        by_cases hlt : k < rn
        · have HRK := toHid (HSE.out k wr (by omega) hb0)
          have HST := toHid (HSS.out k)
          have HO2 : Hid ((wr.alloc (.cells #[.string (R k)] 9)).ownsRow wN.heap.size 9 1 (.slice a k cap) k (strV (L k))) := ho.alloc _
          have HSA : Hid (wN.heap.size ≤ (wr.alloc (.cells #[.string (R k)] 9)).heap.size) := by unfold Hid; simp; omega
          have HBA : Hid (Below wN.heap.size wN (wr.alloc (.cells #[.string (R k)] 9))) := hbel.alloc hsz _
          have HSZ2 : Hid ((wr.alloc (.cells #[.string (R k)] 9)).heap.size = wr.heap.size + 1) := by unfold Hid; simp
          have HNW2 : Hid (∀ i y, ([.string (R k)] : List Value)[i]? = some y → (wr.alloc (.cells #[.string (R k)] 9)).cell? ((⟨wr.heap.size, 0, none⟩ : Addr).add i) = some y) := cell_one_new _ _ _
          have hk1 : IntKind.i64.wrap (1 + (k : Int)) = 1 + (k : Int) := IntWalk.i64_in _ (by omega)
          clear ho hbel hb0 HSE HSS HDK HTB2 HMD z0 z1 z2 z3 x1 x2
          generalize R k = S at HRK HST HO2 HSA HBA HSZ2 HNW2
          go_wp2_with (first
            | (go_at_call 34; refine (HRW.out _).mono ?_; rintro e w' ⟨rfl, hw⟩; have hw' := hw.symm; subst hw'; clear hw)
            | (go_at_call 45; refine HRK.out.mono ?_; rintro e w' ⟨rfl, hw⟩; have hw' := hw.symm; subst hw'; clear hw)
            | (at_builtin; refine wpList_append_lies _ (by rfl) _ _ 54 (by rfl) wN.heap.size 9 i2 (.string ⟨#[]⟩) 1 16 Tryz.underlying54 hi2 hy0 hy1 hy2 rfl (by decide) (.slice a k cap) k (strV (L k)) (by rfl) HO2.out ⟨wr.heap.size, 0, none⟩ 1 1 [.string S] (by rfl) (by rfl) HNW2.out (fun u hu => by simp at hu; subst hu; rfl) (by decide) (by unfold maxLen; omega) (by omega) HSA.out (wr.heap.size + 1) HSZ2.out ?_; intro g3 cap3 w3 hown hgrow hat hlt3))
          have HOF : Hid (w3.ownsRow wN.heap.size 9 1 (.slice (some ⟨g3, 0, none⟩) (k + 1) cap3) (k + 1) (strV (L (k + 1)))) := by
            unfold Hid
            have e2 : strV (L (k + 1)) = strV (L k) ++ [.string S] := by rw [HST.out]; simp [strV]
            rw [e2]; exact hown
          have HBF : Hid (Below wN.heap.size wN w3) := HBA.out.grown hgrow HSA.out (fun r e => (HO2.out.lt r e).1)
          clear hown hgrow hat hlt3
          go_roundw
          case rel =>
            have fin : ∃ (k1 : Nat) (a1 : Option Addr) (cap1 : Nat), k1 ≤ rn ∧ Value.int .i64 ((k : Int) + 1) = .int .i64 k1 ∧ Value.slice (some ⟨g3, 0, none⟩) (k + 1) cap3 = .slice a1 k1 cap1 ∧ w3.ownsRow wN.heap.size 9 1 (.slice a1 k1 cap1) k1 (strV (L k1)) ∧ Below wN.heap.size wN w3 :=
              ⟨k + 1, some ⟨g3, 0, none⟩, cap3, by omega, by go_num, rfl, HOF.out, HBF.out⟩
            first | exact fin | ((repeat apply Exists.intro); exact ⟨fin, rfl⟩)
          case measure => simp [intOf]; omega
        · have hke : k = rn := by omega
          subst hke
          have HTW := toHid (HTB2.out wr a cap (ownsRow_base ho HBW.out.size))
          have HB4 := toHid hb0
          have hnl : N < wr.heap.size := Nat.lt_of_lt_of_le hNn hsz
          clear ho hbel hb0 HSE HSS HDK HTB2 z0 z1 z2 z3
          go_wp2_with (first
            | (go_at_call 34; refine (HRW.out _).mono ?_; rintro e w' ⟨rfl, hw⟩; have hw' := hw.symm; subst hw'; clear hw))
          refine HTW.out.mono ?_
          rintro e w4 ⟨lt, cp, rfl, hto, hb4⟩
          have HB5 := toHid (HB4.out.trans (hb4.mono HB4.out.size))
          have y0 := (hb4.cell (p := ⟨N, 0, none⟩) hnl).trans x0
          have y1 := (hb4.cell (p := ⟨N, 1, none⟩) hnl).trans x1
          have y2 := (hb4.cell (p := ⟨N, 2, none⟩) hnl).trans x2
          by_cases hT : TF = 0
          · have htl := HTG.out hT
            obtain ⟨g, cp2, hv, hgB, _⟩ := hto.2.form (by omega)
            injection hv with hv1 hv2 hv3
            subst hv1
            subst hv3
            have HOW : Hid (w4.ownsRow B 74 2 (.slice (some ⟨g, 0, none⟩) TT.length cp) TT.length (entV TT)) := ownsRow_base hto.2 (Nat.le_trans hB HB4.out.size)
            have HIM := toHid (HMD.out w4 g cp HB5.out HOW.out)
            have HGB : Hid (w.heap.size ≤ g) := Nat.le_trans HB4.out.size hgB
            have hF0 : F = 0 := HF.out.trans hT
            have HF0 := toHid hF0
            have HBE := toHid (HB5.out.alloc HB5.out.size (.cells #[.pointer (some ⟨q.p, 0, none⟩), .int .i64 c, .int .i64 p, .int .i64 b, .slice (some ⟨g, 0, none⟩) TT.length cp, .slice none 0 0] 72))
            rw [hT]
            clear hto hb4 HTW HMD HTG htl hgB hT HF x0 x1 x2 hF0
            generalize TT.length = tl at HIM HBE
            go_wp2
            go_ret2
            exact ⟨HBE.out, .inr ⟨HF0.out, _, rfl, fun r e => (by
              have : g = r := by simpa [Value.ownBlock] using e
              rw [← this]; exact HGB.out), rfl, HIM.out⟩⟩
          · have HFF : Hid (F = TF) := HF.out
            have HNT := toHid hT
            have hTp : 0 < TF := by have := HTN.out; omega
            have g5 : decide (0 < TF) = true := decide_eq_true hTp
            clear hto hb4 HTW HMD HTG hT HF x0 x1 x2 y0 y1 y2
            go_wp2
            go_ret2
            exact ⟨HB5.out, .inl ⟨by rw [HFF.out]; exact HNT.out, by rw [HFF.out]; rfl⟩⟩

theorem opened_rim {B m : Nat} {q : Rh} {d : DV} (w : World) (hd : IsRef B w q d) (hf : d.fine d.fl.length m) (hB : B ≤ w.heap.size) :
    Calls Tryz.prog 17 #[.pointer (some ⟨q.p, 0, none⟩)] w fun e w' => Below w.heap.size w w' ∧
      ((openF d ≠ 0 ∧ e = .returned (.tuple #[.pointer none, .int .i64 (openF d)])) ∨ (openF d = 0 ∧ ∃ r : Qh, r.d = q ∧ (∀ k, r.vt.ownBlock = some k → w.heap.size ≤ k) ∧ e = .returned (.tuple #[.pointer (some ⟨r.p, 0, none⟩), .int .i64 0]) ∧ IsRim B w' r (openV d))) := by
  by_cases h1 : headF (bytesOf (d.seen.getD 0 [])) = 0
  · exact opened_rest w hd hf hB h1
  · refine (opened_head w hd hf h1).mono ?_
    rintro e w' ⟨rfl, hb⟩
    have e0 : openF d = headF (bytesOf (d.seen.getD 0 [])) := by unfold openF; rw [if_neg h1]
    exact ⟨hb, .inl ⟨by rw [e0]; exact h1, rfl⟩⟩
end Go.Proofs.YtncjnjlakhohgaaGreat
