/-
Put and Wipe of a range (G3).
Put of a range (G3).
-/
import Derived.Test.YtonhoahnieoebabGreatDoorQChainPut
import Derived.Test.YtonhoahnieoebabGreatDoorQActs4
namespace Go.Proofs.YtonhoahnieoebabGreatDoor
open Go.RowKit Go.Maps
attribute [local go_sem ↓] Go.wp_at_zero Go.wp_at_succ

theorem ptsV_at (l : List Pt) (i : Nat) (h : i < l.length) : (ptsV l)[i * 4]? = some (.int .i64 (l[i].c : Int)) ∧ (ptsV l)[i * 4 + 1]? = some (.int .i64 (l[i].f : Int)) ∧ (ptsV l)[i * 4 + 2]? = some (.int .i64 (l[i].n : Int)) ∧ (ptsV l)[i * 4 + 3]? = some (.int .i64 (l[i].a : Int)) := by
  induction l generalizing i with
  | nil => cases h
  | cons p l ih =>
    have e : ptsV (p :: l) = .int .i64 (p.c : Int) :: .int .i64 (p.f : Int) :: .int .i64 (p.n : Int) :: .int .i64 (p.a : Int) :: ptsV l := rfl
    rw [e]
    cases i with
    | zero => exact ⟨rfl, rfl, rfl, rfl⟩
    | succ i =>
      have := ih i (by simpa using h)
      rw [show (i + 1) * 4 = i * 4 + 1 + 1 + 1 + 1 by omega]
      simpa using this

/- The parts of a range, as they lie. -/
structure PtsAt (w : World) (g cap : Nat) (P : List Pt) : Prop where
  own : w.ownsRow 0 224 4 (.slice (some ⟨g, 0, none⟩) P.length cap) P.length (ptsV P)

theorem PtsAt.cells {w : World} {g cap : Nat} {P : List Pt} (h : PtsAt w g cap P) {i : Nat} (hi : i < P.length) :
    w.cell? ⟨g, i * 4, none⟩ = some (.int .i64 (P[i].c : Int)) ∧ w.cell? ⟨g, i * 4 + 1, none⟩ = some (.int .i64 (P[i].f : Int)) ∧ w.cell? ⟨g, i * 4 + 2, none⟩ = some (.int .i64 (P[i].n : Int)) ∧ w.cell? ⟨g, i * 4 + 3, none⟩ = some (.int .i64 (P[i].a : Int)) := by
  obtain ⟨h0, h1, h2, h3⟩ := ptsV_at P i hi
  refine ⟨?_, ?_, ?_, ?_⟩
  · rw [h.own.cellAt (i * 4) (by omega)]; exact h0
  · rw [h.own.cellAt (i * 4 + 1) (by omega)]; exact h1
  · rw [h.own.cellAt (i * 4 + 2) (by omega)]; exact h2
  · rw [h.own.cellAt (i * 4 + 3) (by omega)]; exact h3

theorem pts_form {w : World} {B n cap : Nat} {a : Option Addr} {P : List Pt} (ho : w.ownsRow B 224 4 (.slice a n cap) n (ptsV P)) (hn : P.length = n) (h0 : 0 < n) : ∃ g, a = some ⟨g, 0, none⟩ ∧ B ≤ g ∧ g < w.heap.size ∧ PtsAt w g cap P := by
  obtain ⟨g, c2, hv, hb, hg⟩ := ho.form h0
  injection hv with e1 e2 e3
  subst e1
  subst hn
  exact ⟨g, rfl, hb, hg, ⟨ownsRow_base ho (Nat.zero_le _)⟩⟩

structure PutAt (w1 : World) (sp : Nat) (xs : Nat → Ih) (s : SV) (m : Nat) (C : Int) (l : List Int) (op : SV → Pt → SV × Int) (P : List Pt) (R : SV × Int) (i : Nat) (ys : Nat → Ih) (z : SV) (wr : World) : Prop where
  shelf : IsShelf wr sp ys z (m + 10 * i)
  good : z.good C l
  go : goPts op z (P.drop i) = R
  moved : Moved (fpS xs s) w1 (fpS ys z) wr

/- One part more. -/
theorem PutAt.step {w1 wr W w2 : World} {sp m i : Nat} {xs ys : Nat → Ih} {s z : SV} {C : Int} {l : List Int} {op : SV → Pt → SV × Int} {P : List Pt} {R : SV × Int} {e : Ending} (h : PutAt w1 sp xs s m C l op P R i ys z wr) (hb : Below wr.heap.size wr W) (hi : i < P.length) (hop : ∀ (s : SV) p, s.good C l → (op s p).1.good C l) (hd : SDid W sp ys z (m + 10 * i + 10) (op z P[i]) e w2) (h0 : (op z P[i]).2 = 0) :
    ∃ ys' z', PutAt w1 sp xs s m C l op P R (i + 1) ys' z' w2 := by
  obtain ⟨ys', h1, h2, h3⟩ := hd
  refine ⟨ys', (op z P[i]).1, ⟨by rw [show m + 10 * (i + 1) = m + 10 * i + 10 by omega]; exact h2, hop _ _ h.good, ?_, h.moved.trans ((Moved.of_below hb).trans h3)⟩⟩
  have := h.go
  rw [drop_pt hi, goPts_cons, if_pos h0] at this
  exact this

theorem PutAt.stop {w1 wr W w2 : World} {sp m i M : Nat} {xs ys : Nat → Ih} {s z : SV} {C : Int} {l : List Int} {op : SV → Pt → SV × Int} {P : List Pt} {R : SV × Int} {e : Ending} (h : PutAt w1 sp xs s m C l op P R i ys z wr) (hb : Below wr.heap.size wr W) (hi : i < P.length) (hM : m + 10 * i + 10 ≤ M) (hd : SDid W sp ys z (m + 10 * i + 10) (op z P[i]) e w2) (h0 : (op z P[i]).2 ≠ 0) :
    R = op z P[i] ∧ SDid w1 sp xs s M R e w2 := by
  have hR : R = op z P[i] := by
    have := h.go
    rw [drop_pt hi, goPts_cons, if_neg h0] at this
    exact this.symm
  obtain ⟨ys', h1, h2, h3⟩ := hd
  rw [hR]
  exact ⟨rfl, ys', h1, h2.more hM, h.moved.trans ((Moved.of_below hb).trans h3)⟩

theorem PutAt.fin {w1 wr : World} {sp m M : Nat} {xs ys : Nat → Ih} {s z : SV} {C : Int} {l : List Int} {op : SV → Pt → SV × Int} {P : List Pt} {R : SV × Int} {i : Nat} (h : PutAt w1 sp xs s m C l op P R i ys z wr) (hi : i = P.length) (hM : m + 10 * i ≤ M) : SDid w1 sp xs s M R (.returned .nilIface) wr := by
  have hR := h.go
  rw [hi, List.drop_length] at hR
  have hR' : R = (z, 0) := hR.symm
  rw [hR', ← erV_0]
  exact ⟨ys, rfl, h.shelf.more hM, h.moved⟩

set_option maxRecDepth 100000 in
set_option maxHeartbeats 2000000 in
theorem cwipe_any {sp m cap C : Nat} {xs : Nat → Ih} {s : SV} {a : Option Addr} (l : List Int) (fr n : Int) (w : World) (h : IsShelf w sp xs s m) (hl : Nums w a l) (hg : s.good (C : Int) l) (h5 : l.length ≤ 100) (hC : C ≤ 40) (ha : Apart a (fpS xs s)) (hm : m + 3000 < 1000000000) (hfr : -9223372036854775808 ≤ fr ∧ fr ≤ 9223372036854775807) :
    Calls Tryz.prog 71 #[.pointer (some ⟨sp, 6, none⟩), .slice a l.length cap, .int .i64 fr, .int .i64 n] w (SDid w sp xs s (m + 2000) (s.wipe l fr n)) := by
  have HCK := toHid (check_any (cap := cap) l fr n w h hl hg (by omega) hfr)
  by_cases hF : s.chkF l fr n = 0
  · obtain ⟨h0, n0, n1, n2⟩ := SV.chk_ok hg hF
    obtain ⟨f, rfl⟩ : ∃ f : Nat, fr = (f : Int) := ⟨fr.toNat, by omega⟩
    obtain ⟨k, rfl⟩ : ∃ k : Nat, n = (k : Int) := ⟨n.toNat, by omega⟩
    have HR : Hid (s.wipe l (f : Int) (k : Int) = goPts (SV.wipePt l) s (ptsFrom f k 0)) := by unfold Hid SV.wipe; rw [if_pos hF]; rfl
    rw [hF, erV_0] at HCK
    have HPA := toHid (fun W => parts_any f k W (by omega))
    have HFI : Hid (∀ p ∈ ptsFrom f k 0, p.fits f k C) := ptsFrom_fits (by omega) k 0 (by omega)
    have hPL := ptsFrom_len f k k 0 (by omega)
    generalize ptsFrom f k 0 = P at HR HPA HFI hPL
    generalize s.wipe l (f : Int) (k : Int) = R at HR ⊢
    have HOP : Hid (∀ (s : SV) p, s.good (C : Int) l → (SV.wipePt l s p).1.good (C : Int) l) := fun s p hg => hg.wipePt l p
    have HWP : Hid (∀ (W w1 wr : World) (ys : Nat → Ih) (z : SV) (i : Nat) (hi : i < P.length), Below w.heap.size w w1 → PutAt w1 sp xs s m (C : Int) l (SV.wipePt l) P R i ys z wr → Below wr.heap.size wr W →
        Calls Tryz.prog 180 #[.pointer (some ⟨sp, 6, none⟩), .slice a l.length cap, .agg #[.int .i64 (P[i].c : Int), .int .i64 (P[i].f : Int), .int .i64 (P[i].n : Int), .int .i64 (P[i].a : Int)]] W (SDid W sp ys z (m + 10 * i + 10) (SV.wipePt l z P[i]))) := fun W w1 wr ys z i hi hb1 hp hb => by
      have hfi := HFI.out P[i] (List.getElem_mem hi)
      have hnu : Nums W a l := ((hl.below hb1).moved hp.moved (fun g o e => ha g o e)).below hb
      cases l with
      | nil => exact absurd rfl h0
      | cons x r => exact wipePart_any x r P[i].c P[i].f P[i].n P[i].a W (hp.shelf.below hb) hnu hp.good h5 (by omega) hfi.n4 (by have := hfi.c; omega)
    have HST : Hid (∀ w1 : World, Below w.heap.size w w1 → PutAt w1 sp xs s m (C : Int) l (SV.wipePt l) P R 0 xs s w1) := fun w1 hb => ⟨h.below hb, hg, HR.out.symm, Moved.refl _ _⟩
    have HKP : Hid (∀ k, w.heap.size ≤ k → ¬ fpS xs s k) := fun k hk hs => by have := h.fpLt hs; omega
    have HFR : Hid (∀ (w1 w' : World) (R : SV × Int) (e : Ending), Below w.heap.size w w1 → SDid w1 sp xs s (m + 2000) R e w' → SDid w sp xs s (m + 2000) R e w') := fun w1 w' R e hb hd => hd.from hb
    generalize hq : l.length = q at HCK HWP ⊢
    clear h hl hg ha hF hq HFI
    go_enter Tryz.func71, Tryz.ntmps71
    go_wp2_with fail
    refine HCK.out.mono ?_
    rintro e wA ⟨rfl, hbA⟩
    have HBA := toHid hbA
    clear hbA HCK
    go_wp2_with fail
    refine (HPA.out wA).mono ?_
    rintro e w1 ⟨pa, pcap, rfl, hpo, hb1⟩
    have HB1 := toHid (HBA.out.trans (hb1.mono HBA.out.size))
    have HPO : Hid (w1.ownsRow w.heap.size 224 4 (.slice pa P.length pcap) P.length (ptsV P)) := ownsRow_base hpo HBA.out.size
    have HS1 := toHid (HST.out w1 HB1.out)
    clear hpo hb1 HPA HST
    have HRN : Hid ((P.length : Int) ≤ 1000) := by unfold Hid; omega
    generalize hPn : P.length = N at hPL HRN HPO ⊢
    have HPN := toHid hPn
    clear hPn
    go_wp2
    go_loopw [25] (fun i wr => ∃ (k : Nat) (ys : Nat → Ih) (z : SV), k ≤ N ∧ i = .int .i64 (k : Int) ∧ PutAt w1 sp xs s m (C : Int) l (SV.wipePt l) P R k ys z wr) (fun i _ => N - (intOf i).toNat)
    case atStart => exact ⟨0, xs, s, Nat.zero_le _, rfl, HS1.out⟩
    case round =>
      obtain ⟨i, ys, z, hiN, rfl, hp⟩ := hrel
      by_cases hlt : i < N
      · have hi : i < P.length := by rw [HPN.out]; exact hlt
        obtain ⟨g, rfl, hgB, hgl, hpt⟩ := pts_form HPO.out HPN.out (by omega)
        have hgk : wr.heap[g]? = w1.heap[g]? := hp.moved.block hgl (HKP.out g hgB)
        have hpw : PtsAt wr g pcap P := ⟨ownsRow_keep hpt.own fun r e => by
          have : g = r := by simpa [Value.ownBlock] using e
          subst this; exact hgk⟩
        obtain ⟨c0, c1, c2, c3⟩ := hpw.cells hi
        have HWI := toHid (fun W hb => HWP.out W w1 wr ys z i hi HB1.out hp hb)
        have HP := toHid hp
        have HII := toHid hi
        have HGO : Hid (∀ W e w2, Below wr.heap.size wr W → SDid W sp ys z (m + 10 * i + 10) (SV.wipePt l z P[i]) e w2 → (SV.wipePt l z P[i]).2 = 0 → ∃ ys' z', PutAt w1 sp xs s m (C : Int) l (SV.wipePt l) P R (i + 1) ys' z' w2) := fun W e w2 hb hd h0 => hp.step hb hi HOP.out hd h0
        have HSP : Hid (∀ W e w2, Below wr.heap.size wr W → SDid W sp ys z (m + 10 * i + 10) (SV.wipePt l z P[i]) e w2 → (SV.wipePt l z P[i]).2 ≠ 0 → R = SV.wipePt l z P[i] ∧ SDid w1 sp xs s (m + 2000) R e w2) := fun W e w2 hb hd h0 => hp.stop hb hi (by omega) hd h0
        have hgw : g < wr.heap.size := Nat.lt_of_lt_of_le hgl hp.moved.size
        clear hpw hpt hgk hp HWP
        generalize hpi : P[i] = p at c0 c1 c2 c3 HWI HGO HSP
        clear hpi hi
        generalize SV.wipePt l z p = Z at HWI HGO HSP
        obtain ⟨pc, pf, pn, pp⟩ := p
        simp only at c0 c1 c2 c3 HWI
        have k0 : (0 : Int) ≤ (i : Int) := by omega
        have k1 : (i : Int) < (N : Int) := by omega
        have k2 : ((i : Int)).toNat = i := by omega
        have HBN : Hid (Below wr.heap.size wr (wr.alloc (.cells #[.int .i64 (pc : Int), .int .i64 (pf : Int), .int .i64 (pn : Int), .int .i64 (pp : Int)] 224))) := (Below.refl _ _).alloc (Nat.le_refl _) _
        go_wp2_with fail
        refine (HWI.out _ HBN.out).mono ?_
        rintro e w2 hd
        have hd2 := hd
        obtain ⟨ys', rfl, _, _⟩ := hd2
        by_cases hz : Z.2 = 0
        · obtain ⟨ys2, z2, hp2⟩ := HGO.out _ _ _ HBN.out hd hz
          have HP2 := toHid hp2
          rw [hz, erV_0]
          clear hd hp2 hz
          go_wp2
          go_roundw
          case rel =>
            have fin : ∃ (k1 : Nat) (y1 : Nat → Ih) (z1 : SV), k1 ≤ N ∧ Value.int .i64 ((i : Int) + 1) = .int .i64 (k1 : Int) ∧ PutAt w1 sp xs s m (C : Int) l (SV.wipePt l) P R k1 y1 z1 w2 := ⟨i + 1, ys2, z2, by omega, by go_num, HP2.out⟩
            first | exact fin | ((repeat apply Exists.intro); exact ⟨fin, rfl⟩)
          case measure => simp [intOf]; omega
        · obtain ⟨hRZ, hsd⟩ := HSP.out _ _ _ HBN.out hd hz
          have HSD := toHid (HFR.out _ _ _ _ HB1.out hsd)
          have HE := toHid (erV_some hz)
          rw [erV_some hz] at HSD ⊢
          clear hd hsd hz
          go_wp2
          go_ret
          exact HSD.out
      · have hie : i = N := by omega
        have HD := toHid (HFR.out _ _ _ _ HB1.out (hp.fin (hie.trans HPN.out.symm) (M := m + 2000) (by omega)))
        subst hie
        clear hp
        go_wp2
        go_ret
        exact HD.out
  · have HR : Hid (s.wipe l fr n = (s, s.chkF l fr n)) := by unfold Hid SV.wipe; rw [if_neg hF]
    have HSM : Hid (∀ W : World, Below w.heap.size w W → SDid w sp xs s (m + 2000) (s, s.chkF l fr n) (.returned (erV (s.chkF l fr n))) W) := fun W hb => SDid.same (h.more (by omega)) hb
    rw [HR.out]
    rw [erV_some hF] at HCK HSM
    generalize s.chkF l fr n = F at HCK HSM hF ⊢
    generalize l.length = q at HCK ⊢
    clear h hl hg ha HR hF
    go_enter Tryz.func71, Tryz.ntmps71
    go_wp2_with fail
    refine HCK.out.mono ?_
    rintro e wA ⟨rfl, hbA⟩
    have HD := toHid (HSM.out _ hbA)
    clear hbA HCK HSM
    go_wp2
    go_ret
    exact HD.out
end Go.Proofs.YtonhoahnieoebabGreatDoor

namespace Go.Proofs.YtonhoahnieoebabGreatDoor
open Go.RowKit Go.Maps
attribute [local go_sem ↓] Go.wp_at_zero Go.wp_at_succ

set_option maxRecDepth 100000 in
set_option maxHeartbeats 2000000 in
theorem cput_any {sp m cap C : Nat} {xs : Nat → Ih} {s : SV} {a : Option Addr} (l : List Int) (fr : Int) (t : ByteArray) (w : World) (h : IsShelf w sp xs s m) (hl : Nums w a l) (hg : s.good (C : Int) l) (h5 : l.length ≤ 100) (hC : C ≤ 40) (ha : Apart a (fpS xs s)) (hm : m + 3000 < 1000000000) (hfr : -9223372036854775808 ≤ fr ∧ fr ≤ 9223372036854775807) (ht : t.size ≤ 10000) :
    Calls Tryz.prog 69 #[.pointer (some ⟨sp, 6, none⟩), .slice a l.length cap, .int .i64 fr, .string t] w (SDid w sp xs s (m + 2000) (s.put l fr t)) := by
  by_cases h16 : t.size % 16 = 0
  · have g16 : ((t.size : Int) % 16 != 0) = false := by simp; omega
    obtain ⟨k, hk⟩ : ∃ k : Nat, t.size = k * 16 := ⟨t.size / 16, by omega⟩
    have hq16 : (t.size : Int) / 16 = (k : Int) := by omega
    have hk2 : t.size / 16 = k := by omega
    have HCK := toHid (check_any (cap := cap) l fr (k : Int) w h hl hg (by omega) hfr)
    by_cases hF : s.chkF l fr (k : Int) = 0
    · obtain ⟨h0, n0, n1, n2⟩ := SV.chk_ok hg hF
      obtain ⟨f, rfl⟩ : ∃ f : Nat, fr = (f : Int) := ⟨fr.toNat, by omega⟩
      have HR : Hid (s.put l (f : Int) t = goPts (SV.putPt l t) s (ptsFrom f k 0)) := by unfold Hid SV.put; rw [if_pos h16, hk2, if_pos hF]; rfl
      rw [hF, erV_0] at HCK
      have HPA := toHid (fun W => parts_any f k W (by omega))
      have HFI : Hid (∀ p ∈ ptsFrom f k 0, p.fits f k C) := ptsFrom_fits (by omega) k 0 (by omega)
      have hPL := ptsFrom_len f k k 0 (by omega)
      generalize ptsFrom f k 0 = P at HR HPA HFI hPL
      generalize s.put l (f : Int) t = R at HR ⊢
      have HOP : Hid (∀ (s : SV) p, s.good (C : Int) l → (SV.putPt l t s p).1.good (C : Int) l) := fun s p hg => hg.putPt l t p
      have HWP : Hid (∀ (W w1 wr : World) (ys : Nat → Ih) (z : SV) (i : Nat) (hi : i < P.length), Below w.heap.size w w1 → PutAt w1 sp xs s m (C : Int) l (SV.putPt l t) P R i ys z wr → Below wr.heap.size wr W →
          Calls Tryz.prog 176 #[.pointer (some ⟨sp, 6, none⟩), .slice a l.length cap, .agg #[.int .i64 (P[i].c : Int), .int .i64 (P[i].f : Int), .int .i64 (P[i].n : Int), .int .i64 (P[i].a : Int)], .string (secB t P[i].a P[i].n)] W (SDid W sp ys z (m + 10 * i + 10) (SV.putPt l t z P[i]))) := fun W w1 wr ys z i hi hb1 hp hb => by
        have hfi := HFI.out P[i] (List.getElem_mem hi)
        have hnu : Nums W a l := ((hl.below hb1).moved hp.moved (fun g o e => ha g o e)).below hb
        have hsz : (secB t P[i].a P[i].n).size = P[i].n * 16 := secB_size (by have := hfi.an; omega)
        cases l with
        | nil => exact absurd rfl h0
        | cons x r => exact putPart_any x r P[i].c P[i].f P[i].n P[i].a _ W (hp.shelf.below hb) hnu hp.good h5 (by omega) hfi.n4 (by have := hfi.c; omega) hsz
      have HSE : Hid (∀ (i : Nat) (hi : i < P.length) (W : World), Calls Tryz.prog 177 #[.string t, .int .i64 (P[i].a : Int), .int .i64 (P[i].n : Int)] W fun e w' => e = .returned (.string (secB t P[i].a P[i].n)) ∧ w' = W) := fun i hi W => sectors_any t P[i].a P[i].n W (by have := (HFI.out P[i] (List.getElem_mem hi)).an; omega) (by omega)
      have HST : Hid (∀ w1 : World, Below w.heap.size w w1 → PutAt w1 sp xs s m (C : Int) l (SV.putPt l t) P R 0 xs s w1) := fun w1 hb => ⟨h.below hb, hg, HR.out.symm, Moved.refl _ _⟩
      have HKP : Hid (∀ k, w.heap.size ≤ k → ¬ fpS xs s k) := fun k hk hs => by have := h.fpLt hs; omega
      have HFR : Hid (∀ (w1 w' : World) (R : SV × Int) (e : Ending), Below w.heap.size w w1 → SDid w1 sp xs s (m + 2000) R e w' → SDid w sp xs s (m + 2000) R e w') := fun w1 w' R e hb hd => hd.from hb
      generalize hq : l.length = q at HCK HWP ⊢
      clear h hl hg ha hF hq HFI h16 hk hk2
      go_enter Tryz.func69, Tryz.ntmps69
      go_wp2_with fail
      refine HCK.out.mono ?_
      rintro e wA ⟨rfl, hbA⟩
      have HBA := toHid hbA
      clear hbA HCK
      go_wp2_with fail
      refine (HPA.out wA).mono ?_
      rintro e w1 ⟨pa, pcap, rfl, hpo, hb1⟩
      have HB1 := toHid (HBA.out.trans (hb1.mono HBA.out.size))
      have HPO : Hid (w1.ownsRow w.heap.size 224 4 (.slice pa P.length pcap) P.length (ptsV P)) := ownsRow_base hpo HBA.out.size
      have HS1 := toHid (HST.out w1 HB1.out)
      clear hpo hb1 HPA HST
      have HRN : Hid ((P.length : Int) ≤ 1000) := by unfold Hid; omega
      generalize hPn : P.length = N at hPL HRN HPO ⊢
      have HPN := toHid hPn
      clear hPn
      go_wp2
      go_loopw [34] (fun i wr => ∃ (k : Nat) (ys : Nat → Ih) (z : SV), k ≤ N ∧ i = .int .i64 (k : Int) ∧ PutAt w1 sp xs s m (C : Int) l (SV.putPt l t) P R k ys z wr) (fun i _ => N - (intOf i).toNat)
      case atStart => exact ⟨0, xs, s, Nat.zero_le _, rfl, HS1.out⟩
      case round =>
        obtain ⟨i, ys, z, hiN, rfl, hp⟩ := hrel
        by_cases hlt : i < N
        · have hi : i < P.length := by rw [HPN.out]; exact hlt
          obtain ⟨g, rfl, hgB, hgl, hpt⟩ := pts_form HPO.out HPN.out (by omega)
          have hgk : wr.heap[g]? = w1.heap[g]? := hp.moved.block hgl (HKP.out g hgB)
          have hpw : PtsAt wr g pcap P := ⟨ownsRow_keep hpt.own fun r e => by
            have : g = r := by simpa [Value.ownBlock] using e
            subst this; exact hgk⟩
          obtain ⟨c0, c1, c2, c3⟩ := hpw.cells hi
          have HWI := toHid (fun W hb => HWP.out W w1 wr ys z i hi HB1.out hp hb)
          have HSI := toHid (HSE.out i hi)
          have HP := toHid hp
          have HGO : Hid (∀ W e w2, Below wr.heap.size wr W → SDid W sp ys z (m + 10 * i + 10) (SV.putPt l t z P[i]) e w2 → (SV.putPt l t z P[i]).2 = 0 → ∃ ys' z', PutAt w1 sp xs s m (C : Int) l (SV.putPt l t) P R (i + 1) ys' z' w2) := fun W e w2 hb hd h0 => hp.step hb hi HOP.out hd h0
          have HSP : Hid (∀ W e w2, Below wr.heap.size wr W → SDid W sp ys z (m + 10 * i + 10) (SV.putPt l t z P[i]) e w2 → (SV.putPt l t z P[i]).2 ≠ 0 → R = SV.putPt l t z P[i] ∧ SDid w1 sp xs s (m + 2000) R e w2) := fun W e w2 hb hd h0 => hp.stop hb hi (by omega) hd h0
          have HNF : Hid (¬ fpS ys z wr.heap.size) := fun hs => by have := hp.shelf.fpLt hs; omega
          have hgw : g < wr.heap.size := Nat.lt_of_lt_of_le hgl hp.moved.size
          clear hpw hpt hgk hp HWP HSE
          generalize hpi : P[i] = p at c0 c1 c2 c3 HWI HGO HSP HSI
          clear hpi hi
          generalize SV.putPt l t z p = Z at HWI HGO HSP
          obtain ⟨pc, pf, pn, pp⟩ := p
          simp only at c0 c1 c2 c3 HWI HSI
          generalize secB t pp pn = ST at HWI HSI
          have k0 : (0 : Int) ≤ (i : Int) := by omega
          have k1 : (i : Int) < (N : Int) := by omega
          have k2 : ((i : Int)).toNat = i := by omega
          have HBN : Hid (Below wr.heap.size wr (wr.alloc (.cells #[.int .i64 (pc : Int), .int .i64 (pf : Int), .int .i64 (pn : Int), .int .i64 (pp : Int)] 224)).drew) := ((Below.refl _ _).alloc (Nat.le_refl _) _).drew
          have HX : Hid ((wr.alloc (.cells #[.int .i64 (pc : Int), .int .i64 (pf : Int), .int .i64 (pn : Int), .int .i64 (pp : Int)] 224)).heap[wr.heap.size]? = some (.cells #[.int .i64 (pc : Int), .int .i64 (pf : Int), .int .i64 (pn : Int), .int .i64 (pp : Int)] 224 (0, 0))) := heap_alloc_new _ _
          go_wp2
          generalize wr.alloc (.cells #[.int .i64 (pc : Int), .int .i64 (pf : Int), .int .i64 (pn : Int), .int .i64 (pp : Int)] 224) = wN at HBN HX ⊢
          have y0 : wN.drew.cell? ⟨wr.heap.size, 0, none⟩ = some (.int .i64 (pc : Int)) := by rw [World.cell?_drew, cell_of_row _ _ _ _ _ _ HX.out]; rfl
          have y1 : wN.drew.cell? ⟨wr.heap.size, 1, none⟩ = some (.int .i64 (pf : Int)) := by rw [World.cell?_drew, cell_of_row _ _ _ _ _ _ HX.out]; rfl
          have y2 : wN.drew.cell? ⟨wr.heap.size, 2, none⟩ = some (.int .i64 (pn : Int)) := by rw [World.cell?_drew, cell_of_row _ _ _ _ _ _ HX.out]; rfl
          have y3 : wN.drew.cell? ⟨wr.heap.size, 3, none⟩ = some (.int .i64 (pp : Int)) := by rw [World.cell?_drew, cell_of_row _ _ _ _ _ _ HX.out]; rfl
          have hNl : wr.heap.size < wN.drew.heap.size := World.block_lt_of_cell? _ _ y0
          have HWN := toHid (HWI.out _ HBN.out)
          clear c0 c1 c2 c3 HWI
          go_region_held3 (fun W => W.cell? ⟨wr.heap.size, 0, none⟩ = some (.int .i64 (pc : Int)) ∧ W.cell? ⟨wr.heap.size, 1, none⟩ = some (.int .i64 (pf : Int)) ∧ W.cell? ⟨wr.heap.size, 2, none⟩ = some (.int .i64 (pn : Int)) ∧ W.cell? ⟨wr.heap.size, 3, none⟩ = some (.int .i64 (pp : Int)))
            (first | (exact ⟨y0, y1, y2, y3⟩) | assumption)
            (first
              | (go_at_call 177; refine (HSI.out _).mono ?_; rintro e w' ⟨rfl, rfl⟩)
              | (go_at_call 176; refine HWN.out.mono ?_; rintro e w2 hd; have hd2 := hd; obtain ⟨ys', rfl, h2, h3⟩ := hd2; have hS4 : w2.cell? ⟨wr.heap.size, 0, none⟩ = some (.int .i64 (pc : Int)) ∧ w2.cell? ⟨wr.heap.size, 1, none⟩ = some (.int .i64 (pf : Int)) ∧ w2.cell? ⟨wr.heap.size, 2, none⟩ = some (.int .i64 (pn : Int)) ∧ w2.cell? ⟨wr.heap.size, 3, none⟩ = some (.int .i64 (pp : Int)) := ⟨(h3.cell (p := ⟨wr.heap.size, 0, none⟩) hNl HNF.out).trans y0, (h3.cell (p := ⟨wr.heap.size, 1, none⟩) hNl HNF.out).trans y1, (h3.cell (p := ⟨wr.heap.size, 2, none⟩) hNl HNF.out).trans y2, (h3.cell (p := ⟨wr.heap.size, 3, none⟩) hNl HNF.out).trans y3⟩; clear h2 h3))
          clear hS4 y0 y1 y2 y3 HWN
          by_cases hz : Z.2 = 0
          · obtain ⟨ys2, z2, hp2⟩ := HGO.out _ _ _ HBN.out hd hz
            have HP2 := toHid hp2
            rw [hz, erV_0]
            clear hd hp2 hz
            go_wp2
            go_roundw
            case rel =>
              have fin : ∃ (k1 : Nat) (y1 : Nat → Ih) (z1 : SV), k1 ≤ N ∧ Value.int .i64 ((i : Int) + 1) = .int .i64 (k1 : Int) ∧ PutAt w1 sp xs s m (C : Int) l (SV.putPt l t) P R k1 y1 z1 w2 := ⟨i + 1, ys2, z2, by omega, by go_num, HP2.out⟩
              first | exact fin | ((repeat apply Exists.intro); exact ⟨fin, rfl⟩)
            case measure => simp [intOf]; omega
          · obtain ⟨hRZ, hsd⟩ := HSP.out _ _ _ HBN.out hd hz
            have HSD := toHid (HFR.out _ _ _ _ HB1.out hsd)
            have HE := toHid (erV_some hz)
            rw [erV_some hz] at HSD ⊢
            clear hd hsd hz
            go_wp2
            go_ret
            exact HSD.out
        · have hie : i = N := by omega
          have HD := toHid (HFR.out _ _ _ _ HB1.out (hp.fin (hie.trans HPN.out.symm) (M := m + 2000) (by omega)))
          subst hie
          clear hp
          go_wp2
          go_ret
          exact HD.out
    · have HR : Hid (s.put l fr t = (s, s.chkF l fr (k : Int))) := by unfold Hid SV.put; rw [if_pos h16, hk2, if_neg hF]
      have HSM : Hid (∀ W : World, Below w.heap.size w W → SDid w sp xs s (m + 2000) (s, s.chkF l fr (k : Int)) (.returned (erV (s.chkF l fr (k : Int)))) W) := fun W hb => SDid.same (h.more (by omega)) hb
      rw [HR.out]
      rw [erV_some hF] at HCK HSM
      generalize s.chkF l fr (k : Int) = F at HCK HSM hF ⊢
      generalize l.length = q at HCK ⊢
      clear h hl hg ha HR hF hk hk2 h16
      go_enter Tryz.func69, Tryz.ntmps69
      go_wp2_with fail
      refine HCK.out.mono ?_
      rintro e wA ⟨rfl, hbA⟩
      have HD := toHid (HSM.out _ hbA)
      clear hbA HCK HSM
      go_wp2
      go_ret
      exact HD.out
  · have g16 : ((t.size : Int) % 16 != 0) = true := by simp; omega
    have HR : Hid (s.put l fr t = (s, 1)) := by unfold Hid SV.put; rw [if_neg h16]
    have HD : Hid (SDid w sp xs s (m + 2000) (s, 1) (.returned (erV 1)) w) := SDid.same (h.more (by omega)) (Below.refl _ _)
    rw [HR.out]
    rw [erV_1] at HD
    generalize l.length = q
    clear h hl hg ha HR h16
    go_enter Tryz.func69, Tryz.ntmps69
    go_wp2
    go_ret
    exact HD.out
end Go.Proofs.YtonhoahnieoebabGreatDoor
