/-
Put of a range (G3).
chained: put, on both shelves.
The document's Put, to wipe (G3).
-/
import Derived.Test.YtjegaljdindfaabGreatDoorQChainPut2
import Derived.Test.YtjegaljdindfaabGreatDoorQRchPut2
namespace Go.Proofs.YtjegaljdindfaabGreatDoor
open Go.RowKit Go.Maps
attribute [local go_sem ↓] Go.wp_at_zero Go.wp_at_succ

set_option maxRecDepth 100000 in
set_option maxHeartbeats 2000000 in
theorem cput_any {sp m cap C : Nat} {xs : Nat → Ih} {s : SV} {a : Option Addr} (l : List Int) (fr : Int) (t : ByteArray) (w : World) (h : IsShelf w sp xs s m) (hl : Nums w a l) (hg : s.good (C : Int) l) (h5 : l.length ≤ 100) (hC : C ≤ 40) (ha : Apart a (fpS xs s)) (hm : m + 3000 < 1000000000) (hfr : -9223372036854775808 ≤ fr ∧ fr ≤ 9223372036854775807) (ht : t.size ≤ 10000) :
    Calls Tryz.prog 35 #[.pointer (some ⟨sp, 0, none⟩), .slice a l.length cap, .int .i64 fr, .string t] w (SDid w sp xs s (m + 2000) (s.put l fr t)) := by
  by_cases h16 : t.size % 16 = 0
  · have g16 : ((t.size : Int) % 16 != 0) = false := by simp; omega
    obtain ⟨k, hk⟩ : ∃ k : Nat, t.size = k * 16 := ⟨t.size / 16, by omega⟩
    have hq16 : (t.size : Int) / 16 = (k : Int) := by omega
    have hk2 : t.size / 16 = k := by omega
    have HCK := toHid (check_any (cap := cap) l fr (k : Int) w h hl hg (by omega) hfr)
    by_cases hF : s.chkF l fr (k : Int) = 0
    · obtain ⟨h0, n0, n1, n2⟩ := SV.chk_ok hg hF
      obtain ⟨f, rfl⟩ : ∃ f : Nat, fr = (f : Int) := ⟨fr.toNat, by omega⟩
      have HR : Hid (s.put l (f : Int) t = goPts (SV.putPt l t) s (ptsFrom f k 0)) := by unfold Hid SV.put; rw [if_pos h16, hk2, if_pos hF]; rfl
      rw [hF, erV_0] at HCK
      have HPA := toHid (fun W => parts_any f k W (by omega))
      have HFI : Hid (∀ p ∈ ptsFrom f k 0, p.fits f k C) := ptsFrom_fits (by omega) k 0 (by omega)
      have hPL := ptsFrom_len f k k 0 (by omega)
      generalize ptsFrom f k 0 = P at HR HPA HFI hPL
      generalize s.put l (f : Int) t = R at HR ⊢
      have HOP : Hid (∀ (s : SV) p, s.good (C : Int) l → (SV.putPt l t s p).1.good (C : Int) l) := fun s p hg => hg.putPt l t p
      have HWP : Hid (∀ (W w1 wr : World) (ys : Nat → Ih) (z : SV) (i : Nat) (hi : i < P.length), Below w.heap.size w w1 → PutAt w1 sp xs s m (C : Int) l (SV.putPt l t) P R i ys z wr → Below wr.heap.size wr W →
          Calls Tryz.prog 96 #[.pointer (some ⟨sp, 0, none⟩), .slice a l.length cap, .agg #[.int .i64 (P[i].c : Int), .int .i64 (P[i].f : Int), .int .i64 (P[i].n : Int), .int .i64 (P[i].a : Int)], .string (secB t P[i].a P[i].n)] W (SDid W sp ys z (m + 10 * i + 10) (SV.putPt l t z P[i]))) := fun W w1 wr ys z i hi hb1 hp hb => by
        have hfi := HFI.out P[i] (List.getElem_mem hi)
        have hnu : Nums W a l := ((hl.below hb1).moved hp.moved (fun g o e => ha g o e)).below hb
        have hsz : (secB t P[i].a P[i].n).size = P[i].n * 16 := secB_size (by have := hfi.an; omega)
        cases l with
        | nil => exact absurd rfl h0
        | cons x r => exact putPart_any x r P[i].c P[i].f P[i].n P[i].a _ W (hp.shelf.below hb) hnu hp.good h5 (by omega) hfi.n4 (by have := hfi.c; omega) hsz
      have HSE : Hid (∀ (i : Nat) (hi : i < P.length) (W : World), Calls Tryz.prog 97 #[.string t, .int .i64 (P[i].a : Int), .int .i64 (P[i].n : Int)] W fun e w' => e = .returned (.string (secB t P[i].a P[i].n)) ∧ w' = W) := fun i hi W => sectors_any t P[i].a P[i].n W (by have := (HFI.out P[i] (List.getElem_mem hi)).an; omega) (by omega)
      have HST : Hid (∀ w1 : World, Below w.heap.size w w1 → PutAt w1 sp xs s m (C : Int) l (SV.putPt l t) P R 0 xs s w1) := fun w1 hb => ⟨h.below hb, hg, HR.out.symm, Moved.refl _ _⟩
      have HKP : Hid (∀ k, w.heap.size ≤ k → ¬ fpS xs s k) := fun k hk hs => by have := h.fpLt hs; omega
      have HFR : Hid (∀ (w1 w' : World) (R : SV × Int) (e : Ending), Below w.heap.size w w1 → SDid w1 sp xs s (m + 2000) R e w' → SDid w sp xs s (m + 2000) R e w') := fun w1 w' R e hb hd => hd.from hb
      generalize hq : l.length = q at HCK HWP ⊢
      clear h hl hg ha hF hq HFI h16 hk hk2
      go_enter Tryz.func35, Tryz.ntmps35
      go_wp2_with fail
      refine HCK.out.mono ?_
      rintro e wA ⟨rfl, hbA⟩
      have HBA := toHid hbA
      clear hbA HCK
      go_wp2_with fail
      refine (HPA.out wA).mono ?_
      rintro e w1 ⟨pa, pcap, rfl, hpo, hb1⟩
      have HB1 := toHid (HBA.out.trans (hb1.mono HBA.out.size))
      have HPO : Hid (w1.ownsRow w.heap.size 156 4 (.slice pa P.length pcap) P.length (ptsV P)) := ownsRow_base hpo HBA.out.size
      have HS1 := toHid (HST.out w1 HB1.out)
      clear hpo hb1 HPA HST
      have HRN : Hid ((P.length : Int) ≤ 1000) := by unfold Hid; omega
      generalize hPn : P.length = N at hPL HRN HPO ⊢
      have HPN := toHid hPn
      clear hPn
      go_wp2
      go_loopw [34] (fun i wr => ∃ (k : Nat) (ys : Nat → Ih) (z : SV), k ≤ N ∧ i = .int .i64 (k : Int) ∧ PutAt w1 sp xs s m (C : Int) l (SV.putPt l t) P R k ys z wr) (fun i _ => N - (intOf i).toNat)
      case atStart => exact ⟨0, xs, s, Nat.zero_le _, rfl, HS1.out⟩
      case round =>
        obtain ⟨i, ys, z, hiN, rfl, hp⟩ := hrel
        by_cases hlt : i < N
        · have hi : i < P.length := by rw [HPN.out]; exact hlt
          obtain ⟨g, rfl, hgB, hgl, hpt⟩ := pts_form HPO.out HPN.out (by omega)
          have hgk : wr.heap[g]? = w1.heap[g]? := hp.moved.block hgl (HKP.out g hgB)
          have hpw : PtsAt wr g pcap P := ⟨ownsRow_keep hpt.own fun r e => by
            have : g = r := by simpa [Value.ownBlock] using e
            subst this; exact hgk⟩
          obtain ⟨c0, c1, c2, c3⟩ := hpw.cells hi
          have HWI := toHid (fun W hb => HWP.out W w1 wr ys z i hi HB1.out hp hb)
          have HSI := toHid (HSE.out i hi)
          have HP := toHid hp
          have HGO : Hid (∀ W e w2, Below wr.heap.size wr W → SDid W sp ys z (m + 10 * i + 10) (SV.putPt l t z P[i]) e w2 → (SV.putPt l t z P[i]).2 = 0 → ∃ ys' z', PutAt w1 sp xs s m (C : Int) l (SV.putPt l t) P R (i + 1) ys' z' w2) := fun W e w2 hb hd h0 => hp.step hb hi HOP.out hd h0
          have HSP : Hid (∀ W e w2, Below wr.heap.size wr W → SDid W sp ys z (m + 10 * i + 10) (SV.putPt l t z P[i]) e w2 → (SV.putPt l t z P[i]).2 ≠ 0 → R = SV.putPt l t z P[i] ∧ SDid w1 sp xs s (m + 2000) R e w2) := fun W e w2 hb hd h0 => hp.stop hb hi (by omega) hd h0
          have HNF : Hid (¬ fpS ys z wr.heap.size) := fun hs => by have := hp.shelf.fpLt hs; omega
          have hgw : g < wr.heap.size := Nat.lt_of_lt_of_le hgl hp.moved.size
          clear hpw hpt hgk hp HWP HSE
          generalize hpi : P[i] = p at c0 c1 c2 c3 HWI HGO HSP HSI
          clear hpi hi
          generalize SV.putPt l t z p = Z at HWI HGO HSP
          obtain ⟨pc, pf, pn, pp⟩ := p
          simp only at c0 c1 c2 c3 HWI HSI
          generalize secB t pp pn = ST at HWI HSI
          have k0 : (0 : Int) ≤ (i : Int) := by omega
          have k1 : (i : Int) < (N : Int) := by omega
          have k2 : ((i : Int)).toNat = i := by omega
          have HBN : Hid (Below wr.heap.size wr (wr.alloc (.cells #[.int .i64 (pc : Int), .int .i64 (pf : Int), .int .i64 (pn : Int), .int .i64 (pp : Int)] 156)).drew) := ((Below.refl _ _).alloc (Nat.le_refl _) _).drew
          have HX : Hid ((wr.alloc (.cells #[.int .i64 (pc : Int), .int .i64 (pf : Int), .int .i64 (pn : Int), .int .i64 (pp : Int)] 156)).heap[wr.heap.size]? = some (.cells #[.int .i64 (pc : Int), .int .i64 (pf : Int), .int .i64 (pn : Int), .int .i64 (pp : Int)] 156 (0, 0))) := heap_alloc_new _ _
          go_wp2
          generalize wr.alloc (.cells #[.int .i64 (pc : Int), .int .i64 (pf : Int), .int .i64 (pn : Int), .int .i64 (pp : Int)] 156) = wN at HBN HX ⊢
          have y0 : wN.drew.cell? ⟨wr.heap.size, 0, none⟩ = some (.int .i64 (pc : Int)) := by rw [World.cell?_drew, cell_of_row _ _ _ _ _ _ HX.out]; rfl
          have y1 : wN.drew.cell? ⟨wr.heap.size, 1, none⟩ = some (.int .i64 (pf : Int)) := by rw [World.cell?_drew, cell_of_row _ _ _ _ _ _ HX.out]; rfl
          have y2 : wN.drew.cell? ⟨wr.heap.size, 2, none⟩ = some (.int .i64 (pn : Int)) := by rw [World.cell?_drew, cell_of_row _ _ _ _ _ _ HX.out]; rfl
          have y3 : wN.drew.cell? ⟨wr.heap.size, 3, none⟩ = some (.int .i64 (pp : Int)) := by rw [World.cell?_drew, cell_of_row _ _ _ _ _ _ HX.out]; rfl
          have hNl : wr.heap.size < wN.drew.heap.size := World.block_lt_of_cell? _ _ y0
          have HWN := toHid (HWI.out _ HBN.out)
          clear c0 c1 c2 c3 HWI
          go_region_held3 (fun W => W.cell? ⟨wr.heap.size, 0, none⟩ = some (.int .i64 (pc : Int)) ∧ W.cell? ⟨wr.heap.size, 1, none⟩ = some (.int .i64 (pf : Int)) ∧ W.cell? ⟨wr.heap.size, 2, none⟩ = some (.int .i64 (pn : Int)) ∧ W.cell? ⟨wr.heap.size, 3, none⟩ = some (.int .i64 (pp : Int)))
            (first | (exact ⟨y0, y1, y2, y3⟩) | assumption)
            (first
              | (go_at_call 97; refine (HSI.out _).mono ?_; rintro e w' ⟨rfl, rfl⟩)
              | (go_at_call 96; refine HWN.out.mono ?_; rintro e w2 hd; have hd2 := hd; obtain ⟨ys', rfl, h2, h3⟩ := hd2; have hS4 : w2.cell? ⟨wr.heap.size, 0, none⟩ = some (.int .i64 (pc : Int)) ∧ w2.cell? ⟨wr.heap.size, 1, none⟩ = some (.int .i64 (pf : Int)) ∧ w2.cell? ⟨wr.heap.size, 2, none⟩ = some (.int .i64 (pn : Int)) ∧ w2.cell? ⟨wr.heap.size, 3, none⟩ = some (.int .i64 (pp : Int)) := ⟨(h3.cell (p := ⟨wr.heap.size, 0, none⟩) hNl HNF.out).trans y0, (h3.cell (p := ⟨wr.heap.size, 1, none⟩) hNl HNF.out).trans y1, (h3.cell (p := ⟨wr.heap.size, 2, none⟩) hNl HNF.out).trans y2, (h3.cell (p := ⟨wr.heap.size, 3, none⟩) hNl HNF.out).trans y3⟩; clear h2 h3))
          clear hS4 y0 y1 y2 y3 HWN
          by_cases hz : Z.2 = 0
          · obtain ⟨ys2, z2, hp2⟩ := HGO.out _ _ _ HBN.out hd hz
            have HP2 := toHid hp2
            rw [hz, erV_0]
            clear hd hp2 hz
            go_wp2
            go_roundw
            case rel =>
              have fin : ∃ (k1 : Nat) (y1 : Nat → Ih) (z1 : SV), k1 ≤ N ∧ Value.int .i64 ((i : Int) + 1) = .int .i64 (k1 : Int) ∧ PutAt w1 sp xs s m (C : Int) l (SV.putPt l t) P R k1 y1 z1 w2 := ⟨i + 1, ys2, z2, by omega, by go_num, HP2.out⟩
              first | exact fin | ((repeat apply Exists.intro); exact ⟨fin, rfl⟩)
            case measure => simp [intOf]; omega
          · obtain ⟨hRZ, hsd⟩ := HSP.out _ _ _ HBN.out hd hz
            have HSD := toHid (HFR.out _ _ _ _ HB1.out hsd)
            have HE := toHid (erV_some hz)
            rw [erV_some hz] at HSD ⊢
            clear hd hsd hz
            go_wp2
            go_ret
            exact HSD.out
        · have hie : i = N := by omega
          have HD := toHid (HFR.out _ _ _ _ HB1.out (hp.fin (hie.trans HPN.out.symm) (M := m + 2000) (by omega)))
          subst hie
          clear hp
          go_wp2
          go_ret
          exact HD.out
    · have HR : Hid (s.put l fr t = (s, s.chkF l fr (k : Int))) := by unfold Hid SV.put; rw [if_pos h16, hk2, if_neg hF]
      have HSM : Hid (∀ W : World, Below w.heap.size w W → SDid w sp xs s (m + 2000) (s, s.chkF l fr (k : Int)) (.returned (erV (s.chkF l fr (k : Int)))) W) := fun W hb => SDid.same (h.more (by omega)) hb
      rw [HR.out]
      rw [erV_some hF] at HCK HSM
      generalize s.chkF l fr (k : Int) = F at HCK HSM hF ⊢
      generalize l.length = q at HCK ⊢
      clear h hl hg ha HR hF hk hk2 h16
      go_enter Tryz.func35, Tryz.ntmps35
      go_wp2_with fail
      refine HCK.out.mono ?_
      rintro e wA ⟨rfl, hbA⟩
      have HD := toHid (HSM.out _ hbA)
      clear hbA HCK HSM
      go_wp2
      go_ret
      exact HD.out
  · have g16 : ((t.size : Int) % 16 != 0) = true := by simp; omega
    have HR : Hid (s.put l fr t = (s, 1)) := by unfold Hid SV.put; rw [if_neg h16]
    have HD : Hid (SDid w sp xs s (m + 2000) (s, 1) (.returned (erV 1)) w) := SDid.same (h.more (by omega)) (Below.refl _ _)
    rw [HR.out]
    rw [erV_1] at HD
    generalize l.length = q
    clear h hl hg ha HR h16
    go_enter Tryz.func35, Tryz.ntmps35
    go_wp2
    go_ret
    exact HD.out
end Go.Proofs.YtjegaljdindfaabGreatDoor

namespace Go.Proofs.YtjegaljdindfaabGreatDoor
open Go.RowKit Go.Maps
attribute [local go_sem ↓] Go.wp_at_zero Go.wp_at_succ

set_option maxRecDepth 100000 in
set_option maxHeartbeats 2000000 in
theorem chained_put {B m C cap : Nat} {w0 : World} {sp mp : Nat} {xs : Nat → Ih} {qs : Nat → Qh} {s : SV} {a : Option Addr} {l : List Int} (x : ActV) (w : World) (h : Yoke B w0 w sp mp xs qs s m a l C) (hm : m + 3000 < 1000000000) (ha : (-9223372036854775808 ≤ x.a ∧ x.a ≤ 9223372036854775807)) (ht : x.s.size ≤ 10000) (e0 : x.kind.toList = [112, 117, 116]) :
    Calls Tryz.prog 13 #[.pointer (some ⟨sp, 0, none⟩), .pointer (some ⟨mp, 0, none⟩), .slice a l.length cap, .agg #[.string x.kind, .int .i64 x.a, .int .i64 x.b, .int .i64 x.c, .int .i64 x.d, .string x.s, .slice x.ka x.kl x.kc]] w fun e w' => e = .returned (.bool true) ∧ Yoked B w0 sp mp (m + 2000) a l C w' := by
  have hst := yoke_step h (h.good.put l x.a x.s) x (fun W hi hn => cput_any (cap := cap) l x.a x.s W hi hn h.good h.len h.cc h.apS hm ha ht) (fun W hr hn => rput_any (cap := cap) l x.a x.s W hr hn h.good h.len h.cc h.apQ hm ha ht)
  have hat : ActAt (w.alloc (actBox x)) w.heap.size x := ⟨heap_alloc_new w _⟩
  have hf0 := s.put_pos l x.a x.s
  have g0 : (x.kind.toList == [112, 117, 116]) = true := by rw [e0]; rfl
  clear h ht e0 hm ha
  generalize s.put l x.a x.s = R at hst hf0
  generalize l.length = len at hst ⊢
  have HST := toHid hst
  have HAT := toHid hat
  clear hst hat
  unfold actBox at HST HAT
  go_enter Tryz.func13, Tryz.ntmps13
  go_wp2
  generalize w.alloc (.cells #[.string x.kind, .int .i64 x.a, .int .i64 x.b, .int .i64 x.c, .int .i64 x.d, .string x.s, .slice x.ka x.kl x.kc] 43) = W at HST HAT ⊢
  generalize w.heap.size = N at HST HAT ⊢
  obtain ⟨c1, c2, c5⟩ := HAT.out.cells
  clear HAT
  go_region_held3 (fun W' => W'.cell? ⟨N, 1, none⟩ = some (.int .i64 x.a) ∧ W'.cell? ⟨N, 2, none⟩ = some (.int .i64 x.b) ∧ W'.cell? ⟨N, 5, none⟩ = some (.string x.s))
    (first | (exact ⟨c1, c2, c5⟩) | assumption)
    (first
      | (go_at_call 35; refine (HST.out _ ?_).mono ?_; (· exact Alike.below ⟨rfl, rfl, rfl, rfl⟩); rintro e W1 ⟨rfl, hA1, href⟩; have hSW1 := hA1.cells; have HREF := toHid href; clear href hA1)
      | (go_at_call 36; refine (HREF.out _ ?_).mono ?_; (· exact Alike.below ⟨rfl, rfl, rfl, rfl⟩); rintro e W2 ⟨rfl, hA2, hlf⟩; have hSW2 := hA2.cells; have HLF := toHid hlf; clear hlf hA2)
      | (go_at_call 11; refine (errSame R.2 _ hf0).mono ?_; rintro e w' ⟨rfl, rfl⟩))
  go_wp2
  go_ret
  exact ⟨rfl, HLF.out _ (Alike.below ⟨rfl, rfl, rfl, rfl⟩)⟩
end Go.Proofs.YtjegaljdindfaabGreatDoor

namespace Go.Proofs.YtjegaljdindfaabGreatDoor
open Go.RowKit Go.Maps
attribute [local go_sem ↓] Go.wp_at_zero Go.wp_at_succ

set_option maxRecDepth 100000 in
set_option maxHeartbeats 4000000 in
theorem rwipe_any {sp m cap C n : Nat} {xs : Nat → Qh} {s : SV} {a : Option Addr} (l : List Int) (fr : Int) (w : World) (h : IsRshelf w sp xs s m) (hl : Nums w a l) (hg : s.good (C : Int) l) (h5 : l.length ≤ 100) (hC : C ≤ 40) (ha : Apart a (fpQ xs s)) (hm : m + 3000 < 1000000000) (hfr : -9223372036854775808 ≤ fr ∧ fr ≤ 9223372036854775807) (hn : n ≤ 200) :
    Calls Tryz.prog 36 #[.pointer (some ⟨sp, 0, none⟩), .slice a l.length cap, .int .i64 fr, .string (noughtB (n * 16)), .bool true] w (RDid w sp xs s (m + 2000) (s.wipe l fr (n : Int))) := by
  have htz : (noughtB (n * 16)).size = n * 16 := by show (List.replicate (n * 16) (0 : UInt8)).toArray.size = _; simp
  generalize noughtB (n * 16) = t at htz ⊢
  have g16 : decide (0 < (t.size : Int) % 16) = false := decide_eq_false (by omega)
  have hq16 : (t.size : Int) / 16 = (n : Int) := by omega
  have HCK := toHid (rwithin_any (cap := cap) l fr (n : Int) w h hl hg (by omega) hfr)
  by_cases hF : s.chkF l fr (n : Int) = 0
  · obtain ⟨h0, n0, n1, n2⟩ := SV.chk_ok hg hF
    obtain ⟨f, rfl⟩ : ∃ f : Nat, fr = (f : Int) := ⟨fr.toNat, by omega⟩
    have HR : Hid (s.wipe l (f : Int) (n : Int) = goPts (SV.wipePt l) s (ptsFrom f n 0)) := by unfold Hid SV.wipe; rw [if_pos hF]; rfl
    rw [hF] at HCK
    generalize s.wipe l (f : Int) (n : Int) = R at HR ⊢
    have HOP : Hid (∀ (s : SV) p, s.good (C : Int) l → (SV.wipePt l s p).1.good (C : Int) l) := fun s p hg => hg.wipePt l p
    have HST : Hid (∀ w1 : World, Below w.heap.size w w1 → RputAt w1 sp xs s m (C : Int) l (SV.wipePt l) f n R 0 xs s w1) := fun w1 hb => ⟨h.below hb, hg, HR.out.symm, Moved.refl _ _, Nat.zero_le _⟩
    have hl0 : 0 < l.length := List.length_pos_iff.2 h0
    have HLA : Hid (∀ (w1 wr W : World) (ys : Nat → Qh) (z : SV) (k : Nat), k < n → Below w.heap.size w w1 → RputAt w1 sp xs s m (C : Int) l (SV.wipePt l) f n R k ys z wr → Below wr.heap.size wr W →
        Calls Tryz.prog 99 #[.pointer (some ⟨sp, 0, none⟩), .slice a l.length cap, .int .i64 ((mkPt f n k).c : Int), .int .i64 ((mkPt f n k).f : Int), .string (noughtB ((mkPt f n k).n * 16))] W (RDid W sp ys z (m + 10 * k + 10) (z.lay l (mkPt f n k).c (mkPt f n k).f (noughtB ((mkPt f n k).n * 16))))) := fun w1 wr W ys z k hk hb1 hp hb => by
      have hfi := mkPt_fits (C := C) hk (by omega : f + n ≤ 4 * C)
      have hnu : Nums W a l := ((hl.below hb1).moved hp.moved (fun g o e => ha g o e)).below hb
      have hsz : (noughtB ((mkPt f n k).n * 16)).size = (mkPt f n k).n * 16 := by show (List.replicate ((mkPt f n k).n * 16) (0 : UInt8)).toArray.size = _; simp
      exact rlay_any l (mkPt f n k).c (mkPt f n k).f _ W (hp.shelf.below hb) hnu hp.good h0 h5 (by omega) (by rw [hsz]; have := hfi.n4; omega) (by have := hfi.c; omega)
    have HFS : Hid (∀ (w1 wr : World) (ys : Nat → Qh) (z : SV) (k : Nat), k < n → Below w.heap.size w w1 → RputAt w1 sp xs s m (C : Int) l (SV.wipePt l) f n R k ys z wr →
        ∃ (g o x : Nat) (v : IV) (g2 cap2 : Nat), a = some ⟨g, o, none⟩ ∧ x < 5 ∧ wr.cell? ⟨g, o, none⟩ = some (.int .i64 (x : Int)) ∧ wr.cell? ⟨sp, x, none⟩ = some (.pointer (some ⟨(ys x).p, 0, none⟩)) ∧ wr.cell? ⟨(ys x).p, 4, none⟩ = some (.slice (some ⟨g2, 0, none⟩) v.t.length cap2) ∧ (mkPt f n k).c < v.t.length ∧ wr.cell? ⟨g2, (mkPt f n k).c * 2, none⟩ = some (.int .i64 (v.entE (mkPt f n k).c).1) ∧
        (SV.wipePt l z (mkPt f n k) = if (mkPt f n k).n = 4 then (z.upd x (v.clear (mkPt f n k).c), v.clearF (mkPt f n k).c) else if (v.entE (mkPt f n k).c).1 = 1 then (z, 0) else z.lay l (mkPt f n k).c (mkPt f n k).f (noughtB ((mkPt f n k).n * 16))) ∧
        (∀ W : World, Below wr.heap.size wr W → Calls Tryz.prog 30 #[.pointer (some ⟨(ys x).p, 0, none⟩), .int .i64 ((mkPt f n k).c : Int)] W (RDid W sp ys z (m + 10 * k + 10) (z.upd x (v.clear (mkPt f n k).c), v.clearF (mkPt f n k).c))) ∧ ¬ fpQ ys z g ∧ ¬ fpQ ys z sp) := fun w1 wr ys z k hk hb1 hp => by
      have hfi := mkPt_fits (C := C) hk (by omega : f + n ≤ 4 * C)
      have hnu : Nums wr a l := (hl.below hb1).moved hp.moved (fun g o e => ha g o e)
      obtain ⟨g, o, x, v, e1, hx, x5, hf, hvc, hc1, hc2, hi, hok⟩ := hp.shelf.numAt hnu hp.good hl0
      have hxt : ((x : Int)).toNat = x := by omega
      have hcl : (mkPt f n k).c < v.t.length := by have := hok.len; have := hfi.c; omega
      obtain ⟨g2, cap2, hv2, hg2, e0, _⟩ := hi.entAt hcl
      have e4 := hi.cells.2.2.2.2.1
      rw [hv2] at e4
      have hth : v.there ((mkPt f n k).c : Int) = true := decide_eq_true ⟨by omega, by omega⟩
      have hent : (v.entE (mkPt f n k).c).1 = (v.t.getD (mkPt f n k).c (0, 0)).1 := by unfold IV.entE; rw [hth, if_pos rfl]; rfl
      refine ⟨g, o, x, v, g2, cap2, e1, x5, hc1, hc2, e4, hcl, by rw [hent]; exact e0, ?_, fun W hb => ?_, (Apart.moved ha (hl.below hb1) h0 hp.moved) g o e1, hp.shelf.notSp⟩
      · cases l with
        | nil => exact absurd rfl h0
        | cons y r =>
          have hy : y = (x : Int) := hx
          subst hy
          show (match z.file (x : Int) with | none => (z, (4 : Int)) | some v => _) = _
          rw [hf]
          rfl
      · have := rclear_s ((mkPt f n k).c : Int) W (hp.shelf.below hb) hf (by omega)
        rw [hxt] at this; exact this
    have HNO : Hid (∀ (k : Nat) (W : World), k < n → Calls Tryz.prog 38 #[.int .i64 (16 * ((mkPt f n k).n : Int))] W fun e w' => e = .returned (.string (noughtB ((mkPt f n k).n * 16))) ∧ Below W.heap.size W w') := fun k W hk => by
      have hp := mkPt_n (fr := f) hk
      have := noughtsN_any ((mkPt f n k).n * 16) W (by omega)
      rw [show ((((mkPt f n k).n * 16 : Nat)) : Int) = 16 * ((mkPt f n k).n : Int) by omega] at this; exact this
    have HIN : Hid (∀ k, k < n → ((mkPt f n k).c : Int) = ((f : Int) + (k : Int)) / 4 ∧ ((mkPt f n k).f : Int) = ((f : Int) + (k : Int)) % 4 ∧ ((mkPt f n k).n : Int) = min (4 - ((f : Int) + (k : Int)) % 4) ((n : Int) - (k : Int)) ∧ (mkPt f n k).a = k) := fun k hk => mkPt_int f n k hk
    have HPN : Hid (∀ k, k < n → 1 ≤ (mkPt f n k).n ∧ (mkPt f n k).f + (mkPt f n k).n ≤ 4 ∧ k + (mkPt f n k).n ≤ n) := fun k hk => mkPt_n hk
    have HFR : Hid (∀ (w1 w' : World) (R : SV × Int) (e : Ending), Below w.heap.size w w1 → RDid w1 sp xs s (m + 2000) R e w' → RDid w sp xs s (m + 2000) R e w') := fun w1 w' R e hb hd => RDid.from hd hb
    have hn1' : (0 : Int) < (l.length : Int) := by omega
    generalize hq : l.length = q at HCK HLA hl0 hn1' ⊢
    clear h hl hg ha hF hq
    have hfn : f + n ≤ 1000 := by omega
    go_enter Tryz.func36, Tryz.ntmps36
    go_wp2_with fail
    refine HCK.out.mono ?_
    rintro e w1 ⟨rfl, hb1⟩
    have HB1 := toHid hb1
    have HS1 := toHid (HST.out w1 hb1)
    clear hb1 HCK HST
    go_wp2
    go_loopw [13] (fun i wr => ∃ (k : Nat) (ys : Nat → Qh) (z : SV), i = .int .i64 (k : Int) ∧ RputAt w1 sp xs s m (C : Int) l (SV.wipePt l) f n R k ys z wr) (fun i _ => n - (intOf i).toNat)
    case atStart => exact ⟨0, xs, s, rfl, HS1.out⟩
    case round =>
      obtain ⟨k, ys, z, rfl, hp⟩ := hrel
      have hkn := hp.le
      by_cases hlt : k < n
      · have HLK := toHid (fun W hb => HLA.out w1 wr W ys z k hlt HB1.out hp hb)
        obtain ⟨g, o, x, v, g2, cap2, rfl, x5, hc1, hc2, e4, hcl, e0, hwp, hcr, hng, hns⟩ := HFS.out w1 wr ys z k hlt HB1.out hp
        have HCR := toHid hcr
        have HNK := toHid (fun W => HNO.out k W hlt)
        obtain ⟨i1, i2, i3, _⟩ := HIN.out k hlt
        obtain ⟨p1, p2, p3⟩ := HPN.out k hlt
        have HI3 := toHid i3
        have HGO : Hid (∀ W e w2, Below wr.heap.size wr W → RDid W sp ys z (m + 10 * k + 10) (SV.wipePt l z (mkPt f n k)) e w2 → (SV.wipePt l z (mkPt f n k)).2 = 0 → ∃ ys' z', RputAt w1 sp xs s m (C : Int) l (SV.wipePt l) f n R (k + (mkPt f n k).n) ys' z' w2) := fun W e w2 hb hd h0 => hp.step hb hlt HOP.out hd h0
        have HSP : Hid (∀ W e w2, Below wr.heap.size wr W → RDid W sp ys z (m + 10 * k + 10) (SV.wipePt l z (mkPt f n k)) e w2 → (SV.wipePt l z (mkPt f n k)).2 ≠ 0 → R = SV.wipePt l z (mkPt f n k) ∧ RDid w1 sp xs s (m + 2000) R e w2) := fun W e w2 hb hd h0 => hp.stop hb hlt (by omega) hd h0
        have HSM : Hid (∀ W : World, Below wr.heap.size wr W → RDid W sp ys z (m + 10 * k + 10) (z, 0) (.returned (.int .i64 0)) W) := fun W hb => RDid.same ((hp.shelf.below hb).more (by omega)) (Below.refl _ _)
        have HPO := toHid (wipePt_pos l z (mkPt f n k))
        have HWP := toHid hwp
        clear hp HLA HFS HNO HIN HPN i3 hwp hcr
        generalize SV.wipePt l z (mkPt f n k) = Z at HGO HSP HPO HWP
        generalize z.lay l (mkPt f n k).c (mkPt f n k).f (noughtB ((mkPt f n k).n * 16)) = ZL at HLK HWP
        generalize noughtB ((mkPt f n k).n * 16) = NB at HLK HNK
        generalize hpn : (mkPt f n k).n = pn at HLK HGO HI3 p1 p2 p3 HNK HWP
        clear hpn
        generalize hpf : (mkPt f n k).f = pf at HLK i2 p2
        clear hpf
        generalize hpc : (mkPt f n k).c = pc at HLK i1 hcl e0 HWP HCR
        clear hpc
        have hat0 : (0 : Int) ≤ (f : Int) + (k : Int) := by omega
        have k1 : IntKind.i64.wrap ((f : Int) + (k : Int)) = (f : Int) + (k : Int) := IntWalk.i64_in _ (by omega)
        have k2 : (0 : Int) ≤ ((f : Int) + (k : Int)) % 4 := by omega
        have k3 : ((f : Int) + (k : Int)) % 4 < 4 := by omega
        have k4 : min (4 - (pf : Int)) ((n : Int) - (k : Int)) = (pn : Int) := by rw [i2]; exact HI3.out.symm
        have j1 : ((f : Int) + (k : Int)) / 4 = (pc : Int) := i1.symm
        have j2 : ((f : Int) + (k : Int)) % 4 = (pf : Int) := i2.symm
        have k5 : IntKind.i64.wrap (16 * (pn : Int)) = 16 * (pn : Int) := IntWalk.i64_in _ (by omega)
        have k6 : IntKind.i64.wrap ((k : Int) + (pn : Int)) = (k : Int) + (pn : Int) := IntWalk.i64_in _ (by omega)
        have q0 : (0 : Int) ≤ (pc : Int) := by omega
        have q1 : (pc : Int) < (v.t.length : Int) := by omega
        have q2 : ((pc : Int)).toNat = pc := by omega
        have x0 : (0 : Int) ≤ (x : Int) := by omega
        have x1 : (x : Int) < 5 := by omega
        generalize (v.entE pc).1 = y at e0 HWP
        generalize v.t.length = tl at e4 q1 hcl
        generalize (ys x).p = xp at hc2 e4 HCR
        clear htz hq16 i1 i2
        have HDR : Hid (Below wr.heap.size wr wr.drew) := (Below.refl _ _).drew
        have d1 : wr.drew.cell? ⟨g, o, none⟩ = some (.int .i64 (x : Int)) := hc1
        have d2 : wr.drew.cell? ⟨sp, x, none⟩ = some (.pointer (some ⟨xp, 0, none⟩)) := hc2
        by_cases h4 : pn = 4
        · have g4 : ((pn : Int) == 4) = true := by simp; omega
          have HZ : Hid (Z = (z.upd x (v.clear pc), v.clearF pc)) := by unfold Hid; rw [HWP.out, if_pos h4]
          have HC1 := toHid (HCR.out _ HDR.out)
          rw [← HZ.out] at HC1
          clear HWP HCR HNK HLK HSM e4 e0 h4
          go_wp2
          go_region_held3 (fun W => W.cell? ⟨g, o, none⟩ = some (.int .i64 (x : Int)) ∧ W.cell? ⟨sp, x, none⟩ = some (.pointer (some ⟨xp, 0, none⟩)))
            (first | (exact ⟨d1, d2⟩) | assumption)
            (first
              | (go_at_call 30; refine HC1.out.mono ?_; rintro e w2 hd; have hd2 := hd; obtain ⟨ys', rfl, _, h3⟩ := hd2; have hS4 : w2.cell? ⟨g, o, none⟩ = some (.int .i64 (x : Int)) ∧ w2.cell? ⟨sp, x, none⟩ = some (.pointer (some ⟨xp, 0, none⟩)) := ⟨(h3.cell (p := ⟨g, o, none⟩) (World.block_lt_of_cell? _ _ d1) hng).trans d1, (h3.cell (p := ⟨sp, x, none⟩) (World.block_lt_of_cell? _ _ d2) hns).trans d2⟩; clear h3))
          clear hS4
          rw [retN_is]
          clear HC1 HZ
          by_cases hz : Z.2 = 0
          · obtain ⟨ys2, z2, hp2⟩ := HGO.out _ _ _ HDR.out hd hz
            have HP2 := toHid hp2
            rw [hz]
            clear hd hp2 hz
            go_wp2
            go_roundw
            case rel =>
              have fin : ∃ (k1 : Nat) (y1 : Nat → Qh) (z1 : SV), Value.int .i64 ((k : Int) + (pn : Int)) = .int .i64 (k1 : Int) ∧ RputAt w1 sp xs s m (C : Int) l (SV.wipePt l) f n R k1 y1 z1 w2 := ⟨k + pn, ys2, z2, by go_num, HP2.out⟩
              first | exact fin | ((repeat apply Exists.intro); exact ⟨fin, rfl⟩)
            case measure => simp [intOf]; omega
          · obtain ⟨hRZ, hsd⟩ := HSP.out _ _ _ HDR.out hd hz
            have HSD := toHid (HFR.out _ _ _ _ HB1.out hsd)
            have hpz : 0 < Z.2 := by have := HPO.out; omega
            clear hd hsd hz hRZ HGO HSP HPO
            generalize Z.2 = fz at hpz HSD ⊢
            have gz : decide (0 < fz) = true := decide_eq_true hpz
            clear hpz
            go_wp2
            go_ret
            exact HSD.out
        · have g4 : ((pn : Int) == 4) = false := by simp; omega
          by_cases hy : y = 1
          · have gy : (y != 1) = false := by simpa using hy
            have HZ : Hid (Z = (z, 0)) := by unfold Hid; rw [HWP.out, if_neg h4, if_pos hy]
            have hd0 := HSM.out _ HDR.out
            rw [← HZ.out] at hd0
            obtain ⟨ys2, z2, hp2⟩ := HGO.out _ _ _ HDR.out hd0 (by rw [HZ.out])
            have HP2 := toHid hp2
            clear HWP HCR HNK HLK HSM hd0 hp2 HGO HSP HPO hy HZ
            go_wp2
            go_region
            go_wp2
            go_roundw
            case rel =>
              have fin : ∃ (k1 : Nat) (y1 : Nat → Qh) (z1 : SV), Value.int .i64 ((k : Int) + (pn : Int)) = .int .i64 (k1 : Int) ∧ RputAt w1 sp xs s m (C : Int) l (SV.wipePt l) f n R k1 y1 z1 wr.drew := ⟨k + pn, ys2, z2, by go_num, HP2.out⟩
              first | exact fin | ((repeat apply Exists.intro); exact ⟨fin, rfl⟩)
            case measure => simp [intOf]; omega
          · have gy : (y != 1) = true := by simpa using hy
            have HZ : Hid (Z = ZL) := by unfold Hid; rw [HWP.out, if_neg h4, if_neg hy]
            rw [← HZ.out] at HLK
            clear HWP HCR HSM hy HZ
            go_wp2
            go_region
            go_wp2_with fail
            refine (HNK.out _).mono ?_
            rintro e w2 ⟨rfl, hb2⟩
            have HB2 := toHid (HDR.out.trans (hb2.mono HDR.out.size))
            have HL2 := toHid (HLK.out _ HB2.out)
            clear hb2 HNK HLK
            go_wp2_with fail
            refine HL2.out.mono ?_
            rintro e w3 hd
            have hd2 := hd
            obtain ⟨ys', rfl, _, _⟩ := hd2
            rw [retN_is]
            clear HL2
            by_cases hz : Z.2 = 0
            · obtain ⟨ys2, z2, hp2⟩ := HGO.out _ _ _ HB2.out hd hz
              have HP2 := toHid hp2
              rw [hz]
              clear hd hp2 hz
              go_wp2
              go_roundw
              case rel =>
                have fin : ∃ (k1 : Nat) (y1 : Nat → Qh) (z1 : SV), Value.int .i64 ((k : Int) + (pn : Int)) = .int .i64 (k1 : Int) ∧ RputAt w1 sp xs s m (C : Int) l (SV.wipePt l) f n R k1 y1 z1 w3 := ⟨k + pn, ys2, z2, by go_num, HP2.out⟩
                first | exact fin | ((repeat apply Exists.intro); exact ⟨fin, rfl⟩)
              case measure => simp [intOf]; omega
            · obtain ⟨hRZ, hsd⟩ := HSP.out _ _ _ HB2.out hd hz
              have HSD := toHid (HFR.out _ _ _ _ HB1.out hsd)
              have hpz : 0 < Z.2 := by have := HPO.out; omega
              clear hd hsd hz hRZ HGO HSP HPO
              generalize Z.2 = fz at hpz HSD ⊢
              have gz : decide (0 < fz) = true := decide_eq_true hpz
              clear hpz
              go_wp2
              go_ret
              exact HSD.out
      · have HD := toHid (HFR.out _ _ _ _ HB1.out (hp.fin hlt (M := m + 2000) (by omega)))
        have gk : decide ((k : Int) < (n : Int)) = false := decide_eq_false (by omega)
        clear hp
        go_wp2
        go_ret
        exact HD.out
  · have HR : Hid (s.wipe l fr (n : Int) = (s, s.chkF l fr (n : Int))) := by unfold Hid SV.wipe; rw [if_neg hF]
    have HSM : Hid (∀ W : World, Below w.heap.size w W → RDid w sp xs s (m + 2000) (s, s.chkF l fr (n : Int)) (.returned (.int .i64 (s.chkF l fr (n : Int)))) W) := fun W hb => RDid.same (h.more (by omega)) hb
    have hpos := chkF_pos hF
    rw [HR.out]
    generalize s.chkF l fr (n : Int) = F at HCK HSM hF hpos ⊢
    have gF : decide (0 < F) = true := decide_eq_true hpos
    generalize l.length = q at HCK ⊢
    clear h hl hg ha HR hF hpos htz
    go_enter Tryz.func36, Tryz.ntmps36
    go_wp2_with fail
    refine HCK.out.mono ?_
    rintro e wA ⟨rfl, hbA⟩
    have HD := toHid (HSM.out _ hbA)
    clear hbA HCK HSM
    go_wp2
    go_ret
    exact HD.out
end Go.Proofs.YtjegaljdindfaabGreatDoor
