/-
chained: move, on both shelves.
Get of a range (G3).
-/
import Derived.Test.YtjegaljdindfaabGreatDoorQChainPut2
import Derived.Test.YtjegaljdindfaabGreatDoorQRchPut2
import Derived.Test.YtjegaljdindfaabGreatDoorQRchMove
namespace Go.Proofs.YtjegaljdindfaabGreatDoor
open Go.RowKit Go.Maps
attribute [local go_sem ↓] Go.wp_at_zero Go.wp_at_succ

set_option maxRecDepth 100000 in
set_option maxHeartbeats 2000000 in
theorem chained_move {B m C cap : Nat} {w0 : World} {sp mp : Nat} {xs : Nat → Ih} {qs : Nat → Qh} {s : SV} {a : Option Addr} {l : List Int} (x : ActV) (w : World) (h : Yoke B w0 w sp mp xs qs s m a l C) (hm : m + 3000 < 1000000000) (e0 : x.kind.toList = [109, 111, 118, 101]) :
    Calls Tryz.prog 13 #[.pointer (some ⟨sp, 0, none⟩), .pointer (some ⟨mp, 0, none⟩), .slice a l.length cap, .agg #[.string x.kind, .int .i64 x.a, .int .i64 x.b, .int .i64 x.c, .int .i64 x.d, .string x.s, .slice x.ka x.kl x.kc]] w fun e w' => e = .returned (.bool true) ∧ Yoked B w0 sp mp (m + 2000) a l C w' := by
  have hat : ActAt (w.alloc (actBox x)) w.heap.size x := ⟨heap_alloc_new w _⟩
  have g0 : (x.kind.toList == [112, 117, 116]) = false := by rw [e0]; rfl
  have g1 : (x.kind.toList == [119, 105, 112, 101]) = false := by rw [e0]; rfl
  have g2 : (x.kind.toList == [103, 101, 116]) = false := by rw [e0]; rfl
  have g3 : (x.kind.toList == [109, 111, 118, 101]) = true := by rw [e0]; rfl
  have hba : Below w.heap.size w (w.alloc (actBox x)) := (Below.refl _ _).alloc (Nat.le_refl _) _
  clear e0
  obtain ⟨c1, c2, c5⟩ := hat.cells
  have HY : Hid (∀ W : World, Below (w.alloc (actBox x)).heap.size (w.alloc (actBox x)) W → Yoked B w0 sp mp (m + 2000) a l C W) := fun W hb => ⟨xs, qs, s, (h.below (hba.trans (hb.mono hba.size))).more (by omega)⟩
  by_cases h0 : x.a < 0
  · have q0 : decide (x.a < 0) = true := decide_eq_true h0
    clear h hba hat hm h0
    unfold actBox at HY c1 c2 c5
    go_enter Tryz.func13, Tryz.ntmps13
    go_wp2
    generalize w.alloc (.cells #[.string x.kind, .int .i64 x.a, .int .i64 x.b, .int .i64 x.c, .int .i64 x.d, .string x.s, .slice x.ka x.kl x.kc] 43) = W at HY c1 c2 c5 ⊢
    generalize w.heap.size = N at c1 c2 c5 ⊢
    go_quiet (fail)
    go_wp2
    go_ret
    exact ⟨rfl, HY.out _ (by first | exact below_drewN (Below.refl _ _) _ | exact below_drewN (Below.refl _ _).drew _ | exact (below_drewN (Below.refl _ _) _).drew)⟩
  · have q0 : decide (x.a < 0) = false := decide_eq_false h0
    by_cases h4 : 4 < x.a
    · have q1 : decide (4 < x.a) = true := decide_eq_true h4
      clear h hba hat hm h0 h4
      unfold actBox at HY c1 c2 c5
      go_enter Tryz.func13, Tryz.ntmps13
      go_wp2
      generalize w.alloc (.cells #[.string x.kind, .int .i64 x.a, .int .i64 x.b, .int .i64 x.c, .int .i64 x.d, .string x.s, .slice x.ka x.kl x.kc] 43) = W at HY c1 c2 c5 ⊢
      generalize w.heap.size = N at c1 c2 c5 ⊢
      go_quiet (fail)
      go_wp2
      go_ret
      exact ⟨rfl, HY.out _ (by first | exact below_drewN (Below.refl _ _) _ | exact below_drewN (Below.refl _ _).drew _ | exact (below_drewN (Below.refl _ _) _).drew)⟩
    · have q1 : decide (4 < x.a) = false := decide_eq_false h4
      have k0 : 0 ≤ x.a := by omega
      have k1 : x.a < 5 := by omega
      have c0 := (h.lay.prog.below hba).cell (i := x.a.toNat) (by omega)
      have hfi : s.file x.a = s x.a.toNat := by unfold SV.file; rw [if_pos ⟨k0, k1⟩]
      cases hs : s x.a.toNat with
      | none =>
        rw [hs] at c0
        unfold ptrO at c0
        clear h hba hat hm h0 h4 hfi hs
        unfold actBox at HY c1 c2 c5 c0
        go_enter Tryz.func13, Tryz.ntmps13
        go_wp2
        generalize w.alloc (.cells #[.string x.kind, .int .i64 x.a, .int .i64 x.b, .int .i64 x.c, .int .i64 x.d, .string x.s, .slice x.ka x.kl x.kc] 43) = W at HY c1 c2 c5 c0 ⊢
        generalize w.heap.size = N at c1 c2 c5 c0 ⊢
        go_quiet (fail)
        go_wp2
        go_ret
        exact ⟨rfl, HY.out _ (by first | exact below_drewN (Below.refl _ _) _ | exact below_drewN (Below.refl _ _).drew _ | exact (below_drewN (Below.refl _ _) _).drew)⟩
      | some v =>
        rw [hs] at c0
        unfold ptrO at c0
        by_cases h64 : x.s.size = 64
        · have q3 : ((x.s.size : Int) != 64) = false := by simp; omega
          have hst := yoke_step h (h.good.move x.a x.b x.s) x (fun W hi hn => cmove_any x.a x.b x.s W hi (hfi.trans hs) h64 (by omega)) (fun W hr hn => rmove_any x.a x.b x.s W hr (hfi.trans hs) h64 (by omega))
          have hf0 := s.move_pos x.a x.b x.s
          have HMO : Hid (∀ W : World, Yoked B w0 sp mp (m + 10) a l C W → Yoked B w0 sp mp (m + 2000) a l C W) := fun W ⟨xs, qs, s, hy⟩ => ⟨xs, qs, s, hy.more (by omega)⟩
          have HCS : Hid (∀ W : World, Below (w.alloc (actBox x)).heap.size (w.alloc (actBox x)) W → W.cell? ⟨w.heap.size, 1, none⟩ = some (.int .i64 x.a) ∧ W.cell? ⟨w.heap.size, 2, none⟩ = some (.int .i64 x.b) ∧ W.cell? ⟨w.heap.size, 5, none⟩ = some (.string x.s)) := fun W hb => by
            have hlt : w.heap.size < (w.alloc (actBox x)).heap.size := by simp
            exact ActAt.cells ⟨by rw [hb.block _ hlt]; exact hat.blk⟩
          clear h hba hat hm h0 h4 hfi hs h64
          generalize s.move x.a x.b x.s = R at hst hf0
          have HST := toHid hst
          clear hst
          unfold actBox at HY c1 c2 c5 c0 HST HCS
          go_enter Tryz.func13, Tryz.ntmps13
          go_wp2
          generalize w.alloc (.cells #[.string x.kind, .int .i64 x.a, .int .i64 x.b, .int .i64 x.c, .int .i64 x.d, .string x.s, .slice x.ka x.kl x.kc] 43) = W at HY c1 c2 c5 c0 HST HCS ⊢
          generalize w.heap.size = N at c1 c2 c5 c0 HST HCS ⊢
          go_quiet (fail)
          go_wp2
          obtain ⟨WQ, hWQ⟩ : ∃ WQ, WQ = W.drewN nq := ⟨_, rfl⟩
          rw [← hWQ]
          have hbQ : Below W.heap.size W WQ := by rw [hWQ]; exact below_drewN (Below.refl _ _) _
          have HBQ := toHid hbQ
          clear hWQ hbQ c1 c2 c5 c0
          obtain ⟨c1, c2, c5⟩ := HCS.out WQ HBQ.out
          go_region_held3 (fun W' => W'.cell? ⟨N, 1, none⟩ = some (.int .i64 x.a) ∧ W'.cell? ⟨N, 2, none⟩ = some (.int .i64 x.b) ∧ W'.cell? ⟨N, 5, none⟩ = some (.string x.s))
            (first | (exact ⟨c1, c2, c5⟩) | assumption)
            (first
              | (go_at_call 41; refine (HST.out _ ?_).mono ?_; (· exact Alike.after HBQ.out ⟨rfl, rfl, rfl, rfl⟩); rintro e W1 ⟨rfl, hA1, href⟩; have hSW1 := hA1.cells; have HREF := toHid href; clear href hA1)
              | (go_at_call 42; refine (HREF.out _ ?_).mono ?_; (· exact Alike.below ⟨rfl, rfl, rfl, rfl⟩); rintro e W2 ⟨rfl, hA2, hlf⟩; have hSW2 := hA2.cells; have HLF := toHid hlf; clear hlf hA2)
              | (go_at_call 11; refine (errSame R.2 _ hf0).mono ?_; rintro e w' ⟨rfl, rfl⟩))
          go_wp2
          go_ret
          exact ⟨rfl, HMO.out _ (HLF.out _ (Alike.below ⟨rfl, rfl, rfl, rfl⟩))⟩
        · have q3 : ((x.s.size : Int) != 64) = true := by simp; omega
          clear h hba hat hm h0 h4 hfi hs h64
          unfold actBox at HY c1 c2 c5 c0
          go_enter Tryz.func13, Tryz.ntmps13
          go_wp2
          generalize w.alloc (.cells #[.string x.kind, .int .i64 x.a, .int .i64 x.b, .int .i64 x.c, .int .i64 x.d, .string x.s, .slice x.ka x.kl x.kc] 43) = W at HY c1 c2 c5 c0 ⊢
          generalize w.heap.size = N at c1 c2 c5 c0 ⊢
          go_quiet (fail)
          go_wp2
          go_ret
          exact ⟨rfl, HY.out _ (by first | exact below_drewN (Below.refl _ _) _ | exact below_drewN (Below.refl _ _).drew _ | exact (below_drewN (Below.refl _ _) _).drew)⟩
end Go.Proofs.YtjegaljdindfaabGreatDoor

namespace Go.Proofs.YtjegaljdindfaabGreatDoor
open Go.RowKit Go.Maps
attribute [local go_sem ↓] Go.wp_at_zero Go.wp_at_succ

theorem ownsRowF_keep {w w' : World} {B e size n : Nat} {v : Value} {xs : List Value} (h : w.ownsRowF B e size v n xs) (hk : ∀ k, v.ownBlock = some k → w'.heap[k]? = w.heap[k]?) : w'.ownsRowF B e size v n xs := by
  obtain ⟨h1, h2⟩ := h
  refine ⟨h1, ?_⟩
  rcases h2 with h2 | ⟨g, cap, cur, fz, hv, hb, hh, r⟩
  · exact .inl h2
  · exact .inr ⟨g, cap, cur, fz, hv, hb, by rw [hk g (by rw [hv]; rfl)]; exact hh, r⟩

theorem builder_below {T e B b : Nat} {bs : List Value} {w w' : World} (h : Lib.IsBuilderF T e B b bs w) (hb : Below w.heap.size w w') : Lib.IsBuilderF T e B b bs w' := by
  have key : ∀ p, Lib.BuilderAtF T e B b p bs w → Lib.BuilderAtF T e B b p bs w' := by
    rintro p ⟨h1, v, h2, h3, h4⟩
    exact ⟨h1, v, by rw [hb.block _ (lt_of_some h2)]; exact h2, ownsRowF_keep h3 fun k e => hb.block k (h3.lt k e).2, h4⟩
  exact h.imp (key _) (key _)

theorem bWriteK (B b : Nat) (l : List UInt8) (s : ByteArray) (w : World) (h : Lib.IsBuilderF 164 5 B b (Lib.byteCells l) w) (hlen : l.length + s.size ≤ 140737488355328) (hBw : B ≤ w.heap.size) :
    Calls Tryz.prog 101 #[.pointer (some ⟨b, 0, none⟩), .string s] w fun e w' =>
      e = .returned (.tuple #[.int .i64 s.size, .nilIface]) ∧ Lib.IsBuilderF 164 5 B b (Lib.byteCells (l ++ s.data.toList)) w' ∧ Below B w w' ∧ Lib.OthersKept 5 (some b) w w' := by
  refine (Any.Builder_WriteString_k { Tryz.lays105 with } Tryz.Builder_Extra_105 B b (Lib.byteCells l) s w h (by rw [Lib.byteCells_length]; exact hlen) hBw).mono ?_
  rintro e w' ⟨rfl, h1, h2, h3⟩
  refine ⟨rfl, .inr ?_, h2, h3⟩
  have e1 : Lib.byteCells (l ++ s.data.toList) = Lib.byteCells l ++ Lib.strCells s := by simp [Lib.byteCells, Lib.strCells]
  rw [e1]; exact h1

/- Where a list of parts stands: what is ahead of the part. -/
def aheadOf (P : List Pt) (n i : Nat) : Nat := if h : i < P.length then P[i].a else n

theorem append_data (a b : ByteArray) : (a ++ b).data.toList = a.data.toList ++ b.data.toList := by rw [ByteArray.data_append, Array.toList_append]

structure GetAt (w1 : World) (B b : Nat) (G : Nat → ByteArray) (P : List Pt) (n : Nat) (i : Nat) (wr : World) : Prop where
  bld : Lib.IsBuilderF 164 5 B b (Lib.byteCells (G (aheadOf P n i)).data.toList) wr
  bel : Below B w1 wr
  row : ∀ g cap, PtsAt w1 g cap P → PtsAt wr g cap P

set_option maxRecDepth 100000 in
set_option maxHeartbeats 2000000 in
theorem cget_any {sp m cap C : Nat} {xs : Nat → Ih} {s : SV} {a : Option Addr} (l : List Int) (fr n : Int) (w : World) (h : IsShelf w sp xs s m) (hl : Nums w a l) (hg : s.good (C : Int) l) (h5 : l.length ≤ 100) (hC : C ≤ 40) (hfr : -9223372036854775808 ≤ fr ∧ fr ≤ 9223372036854775807) :
    Calls Tryz.prog 39 #[.pointer (some ⟨sp, 0, none⟩), .slice a l.length cap, .int .i64 fr, .int .i64 n] w fun e w' => e = .returned (.tuple #[.string (s.getS l fr n), erV (s.chkF l fr n)]) ∧ Below w.heap.size w w' := by
  have HCK := toHid (check_any (cap := cap) l fr n w h hl hg (by omega) hfr)
  by_cases hF : s.chkF l fr n = 0
  · obtain ⟨h0, n0, n1, n2⟩ := SV.chk_ok hg hF
    obtain ⟨f, rfl⟩ : ∃ f : Nat, fr = (f : Int) := ⟨fr.toNat, by omega⟩
    obtain ⟨k, rfl⟩ : ∃ k : Nat, n = (k : Int) := ⟨n.toNat, by omega⟩
    have HR : Hid (s.getS l (f : Int) (k : Int) = s.getTo l f k) := by unfold Hid SV.getS; rw [if_pos hF]; rfl
    rw [hF, erV_0] at HCK ⊢
    have HPA := toHid (fun W => parts_any f k W (by omega))
    have hPL := ptsFrom_len f k k 0 (by omega)
    have HFI : Hid (∀ p ∈ ptsFrom f k 0, p.fits f k C) := ptsFrom_fits (by omega) k 0 (by omega)
    have HAT := toHid (ptsFrom_at f k k 0 (by omega))
    have HAZ : Hid (aheadOf (ptsFrom f k 0) k 0 = 0) := by
      unfold Hid aheadOf
      split
      · next hx => exact (HAT.out 0 hx).2.2.2 rfl
      · next hx =>
        by_cases hk : 0 < k
        · rw [ptsFrom_cons hk] at hx; simp at hx
        · omega
    have HAS : Hid (∀ i (hi : i < (ptsFrom f k 0).length), aheadOf (ptsFrom f k 0) k i = (ptsFrom f k 0)[i].a ∧ aheadOf (ptsFrom f k 0) k (i + 1) = (ptsFrom f k 0)[i].a + (ptsFrom f k 0)[i].n) := fun i hi => by
      refine ⟨by unfold aheadOf; rw [dif_pos hi], ?_⟩
      unfold aheadOf
      split
      · next hx => exact (HAT.out i hi).2.1 (i + 1) hx rfl
      · next hx => exact ((HAT.out i hi).2.2.1 (by omega)).symm
    have HAE : Hid (aheadOf (ptsFrom f k 0) k (ptsFrom f k 0).length = k) := by unfold Hid aheadOf; rw [dif_neg (by omega)]
    have HGS : Hid (∀ p ∈ ptsFrom f k 0, s.getTo l f (p.a + p.n) = s.getTo l f p.a ++ secB (s.read l (p.c : Int)).1 p.f p.n) := fun p hp => SV.getTo_part (HFI.out p hp) p.n (Nat.le_refl _)
    have HGZ : Hid (∀ j, j ≤ k → (s.getTo l f j).size = j * 16) := fun j hj => SV.getTo_size hg h.ok h0 j (by omega)
    have HG0 : Hid (s.getTo l f 0 = bytesOf []) := rfl
    have HRD : Hid (∀ (i : Nat) (hi : i < (ptsFrom f k 0).length) (W : World), Below w.heap.size w W → Calls Tryz.prog 23 #[.pointer (some ⟨sp, 0, none⟩), .slice a l.length cap, .int .i64 ((ptsFrom f k 0)[i].c : Int)] W fun e w' => e = .returned (.tuple #[.string (s.read l ((ptsFrom f k 0)[i].c : Int)).1, .nilIface]) ∧ Below W.heap.size W w') := fun i hi W hb => by
      have hfi := HFI.out _ (List.getElem_mem hi)
      have := cread_any (cap := cap) l ((ptsFrom f k 0)[i].c : Int) W (h.below hb) (hl.below hb) hg h5
      rw [(SV.read_yes hg h.ok h0 (c := ((ptsFrom f k 0)[i].c : Int)) ⟨by omega, by have := hfi.c; omega⟩).1, erV_0] at this; exact this
    have HSE : Hid (∀ (i : Nat) (hi : i < (ptsFrom f k 0).length) (W : World), Calls Tryz.prog 97 #[.string (s.read l ((ptsFrom f k 0)[i].c : Int)).1, .int .i64 ((ptsFrom f k 0)[i].f : Int), .int .i64 ((ptsFrom f k 0)[i].n : Int)] W fun e w' => e = .returned (.string (secB (s.read l ((ptsFrom f k 0)[i].c : Int)).1 (ptsFrom f k 0)[i].f (ptsFrom f k 0)[i].n)) ∧ w' = W) := fun i hi W => by
      have hfi := HFI.out _ (List.getElem_mem hi)
      have hz := (SV.read_yes hg h.ok h0 (c := ((ptsFrom f k 0)[i].c : Int)) ⟨by omega, by have := hfi.c; omega⟩).2
      exact sectors_any _ _ _ W (by have := hfi.n4; omega) (by omega)
    have HSZ : Hid (∀ (i : Nat) (hi : i < (ptsFrom f k 0).length), (secB (s.read l ((ptsFrom f k 0)[i].c : Int)).1 (ptsFrom f k 0)[i].f (ptsFrom f k 0)[i].n).size ≤ 100 ∧ (ptsFrom f k 0)[i].a ≤ k) := fun i hi => by
      have hfi := HFI.out _ (List.getElem_mem hi)
      have hz := (SV.read_yes hg h.ok h0 (c := ((ptsFrom f k 0)[i].c : Int)) ⟨by omega, by have := hfi.c; omega⟩).2
      refine ⟨?_, by have := hfi.an; omega⟩
      rw [secB_size (by have := hfi.n4; omega)]
      have := hfi.n4; omega
    generalize ptsFrom f k 0 = P at HPA hPL HAZ HAS HAE HGS HRD HSE HSZ
    generalize s.getS l (f : Int) (k : Int) = R at HR ⊢
    have HRR : Hid (∀ c : Int, s.read l c = s.read l c) := fun _ => rfl
    generalize s.getTo l f = G at HR HGS HGZ HG0
    generalize hq : l.length = q at HCK HRD ⊢
    clear h hl hg hF hq HFI HAT HRR
    have hk1000 : k ≤ 1000 := by omega
    go_enter Tryz.func39, Tryz.ntmps39
    go_wp2_with fail
    refine HCK.out.mono ?_
    rintro e wA ⟨rfl, hbA⟩
    have HBA := toHid hbA
    have HBU : Hid (Lib.IsBuilderF 164 5 wA.heap.size wA.heap.size (Lib.byteCells []) (wA.alloc (.cells #[.pointer none, .slice none 0 0] 164))) := Lib.IsBuilderF.of (Lib.fresh_isBuilder _ _ _)
    have HBB : Hid (Below wA.heap.size wA (wA.alloc (.cells #[.pointer none, .slice none 0 0] 164))) := (Below.refl _ _).alloc (Nat.le_refl _) _
    clear hbA HCK
    go_wp2_with fail
    generalize wA.alloc (.cells #[.pointer none, .slice none 0 0] 164) = wB at HBU HBB ⊢
    refine (HPA.out wB).mono ?_
    rintro e w1 ⟨pa, pcap, rfl, hpo, hb1⟩
    have HB1 := toHid (HBB.out.trans (hb1.mono HBB.out.size))
    have HPO := toHid hpo
    have HS1 : Hid (GetAt w1 wA.heap.size wA.heap.size G P k 0 w1) := ⟨by rw [HAZ.out, HG0.out]; exact builder_below HBU.out hb1, Below.refl _ _, fun _ _ h => h⟩
    clear hpo hb1 HPA HBU
    generalize hPn : P.length = N at hPL HPO ⊢
    have HPN := toHid hPn
    clear hPn
    go_wp2
    go_loopw [28] (fun i wr => ∃ (j : Nat), j ≤ N ∧ i = .int .i64 (j : Int) ∧ GetAt w1 wA.heap.size wA.heap.size G P k j wr) (fun i _ => N - (intOf i).toNat)
    case atStart => exact ⟨0, Nat.zero_le _, rfl, HS1.out⟩
    case round =>
      obtain ⟨i, hiN, rfl, hp⟩ := hrel
      have hbw : Below wA.heap.size wA wr := HB1.out.trans hp.bel
      have HWB : Hid (Below w.heap.size w wr) := HBA.out.trans (hbw.mono HBA.out.size)
      by_cases hlt : i < N
      · have hi : i < P.length := by rw [HPN.out]; exact hlt
        obtain ⟨g, rfl, hgB, hgl, hpt⟩ := pts_form HPO.out HPN.out (by omega)
        obtain ⟨c0, c1, c2, c3⟩ := (hp.row g pcap hpt).cells hi
        obtain ⟨a1, a2⟩ := HAS.out i hi
        have HRI := toHid (HRD.out i hi)
        have HSI := toHid (HSE.out i hi)
        obtain ⟨z1, z2⟩ := HSZ.out i hi
        have HGI := toHid (HGS.out P[i] (List.getElem_mem hi))
        have HP := toHid hp
        have hgw : g < wr.heap.size := by have := hp.bel.size; omega
        have hbld := hp.bld
        rw [a1] at hbld
        have HBLD := toHid hbld
        have HA2 := toHid a2
        clear hp HRD HSE HSZ HGS HAS a1 a2 hbld
        generalize hpi : P[i] = p at c0 c1 c2 c3 HRI HSI HGI z1 z2 HBLD HA2
        clear hpi
        obtain ⟨pc, pf, pn, pp⟩ := p
        simp only at c0 c1 c2 c3 HRI HSI HGI z1 z2 HBLD HA2
        generalize (s.read l (pc : Int)).1 = old at HRI HSI HGI z1
        generalize secB old pf pn = ST at HSI HGI z1
        have hGz := HGZ.out pp z2
        have k0 : (0 : Int) ≤ (i : Int) := by omega
        have k1 : (i : Int) < (N : Int) := by omega
        have k2 : ((i : Int)).toNat = i := by omega
        have HBN : Hid (Below wr.heap.size wr (wr.alloc (.cells #[.int .i64 (pc : Int), .int .i64 (pf : Int), .int .i64 (pn : Int), .int .i64 (pp : Int)] 156))) := (Below.refl _ _).alloc (Nat.le_refl _) _
        have HX : Hid ((wr.alloc (.cells #[.int .i64 (pc : Int), .int .i64 (pf : Int), .int .i64 (pn : Int), .int .i64 (pp : Int)] 156)).heap[wr.heap.size]? = some (.cells #[.int .i64 (pc : Int), .int .i64 (pf : Int), .int .i64 (pn : Int), .int .i64 (pp : Int)] 156 (0, 0))) := heap_alloc_new _ _
        go_wp2_with fail
        generalize wr.alloc (.cells #[.int .i64 (pc : Int), .int .i64 (pf : Int), .int .i64 (pn : Int), .int .i64 (pp : Int)] 156) = wN at HBN HX ⊢
        refine (HRI.out wN (HWB.out.trans (HBN.out.mono HWB.out.size))).mono ?_
        rintro e w2 ⟨rfl, hb2⟩
        have HB2 := toHid (HBN.out.trans (hb2.mono HBN.out.size))
        have hx2 : w2.heap[wr.heap.size]? = some (.cells #[.int .i64 (pc : Int), .int .i64 (pf : Int), .int .i64 (pn : Int), .int .i64 (pp : Int)] 156 (0, 0)) := by rw [hb2.block _ (lt_of_some HX.out)]; exact HX.out
        have y1 : w2.cell? ⟨wr.heap.size, 1, none⟩ = some (.int .i64 (pf : Int)) := by rw [cell_of_row _ _ _ _ _ _ hx2]; rfl
        have y2 : w2.cell? ⟨wr.heap.size, 2, none⟩ = some (.int .i64 (pn : Int)) := by rw [cell_of_row _ _ _ _ _ _ hx2]; rfl
        have hdl : (G pp).data.toList.length = pp * 16 := by rw [← hGz]; simp
        have HWS := toHid (bWriteK wA.heap.size wA.heap.size (G pp).data.toList ST w2 (builder_below HBLD.out HB2.out) (by rw [hdl]; omega) (Nat.le_trans hbw.size HB2.out.size))
        clear hdl
        clear hb2 hx2 HRI HX c0 c1 c2 c3 hGz
        go_wp2_with (go_at_call 97; refine (HSI.out _).mono ?_; rintro e w' ⟨rfl, hw⟩; have hw' := hw.symm; subst hw'; clear hw)
        refine HWS.out.mono ?_
        rintro e w3 ⟨rfl, hbl, hb3, hok3⟩
        have HP3 : Hid (GetAt w1 wA.heap.size wA.heap.size G P k (i + 1) w3) := by
          refine ⟨?_, ?_, fun g2 cap2 h2 => ?_⟩
          · rw [HA2.out, HGI.out, append_data]; exact hbl
          · exact HP.out.bel.trans ((HB2.out.mono hbw.size).trans hb3)
          · have h3 := HP.out.row g2 cap2 h2
            refine ⟨ownsRow_keep h3.own fun r e => ?_⟩
            obtain ⟨cur, hh⟩ := ownsRow_kind h3.own r e
            have h4 : w2.heap[r]? = some (.cells cur 156 (0, 0)) := by rw [HB2.out.block r (lt_of_some hh)]; exact hh
            rw [hh]
            refine hok3 r _ h4 (fun e2 => ?_) (fun c fz e2 => by cases e2)
            cases e2
            have hbb : ∃ p v, w2.heap[wA.heap.size]? = some (.cells #[p, v] 164 (0, 0)) := by
              rcases builder_below HBLD.out HB2.out with ⟨_, v, q, _⟩ | ⟨_, v, q, _⟩ <;> exact ⟨_, v, q⟩
            obtain ⟨p, v, hbb⟩ := hbb
            rw [h4] at hbb
            cases hbb
        clear hbl hb3 hok3 HWS HSI y1 y2 HBLD HA2 HGI HP
        go_wp2
        go_roundw
        case rel =>
          have fin : ∃ (j1 : Nat), j1 ≤ N ∧ Value.int .i64 ((i : Int) + 1) = .int .i64 (j1 : Int) ∧ GetAt w1 wA.heap.size wA.heap.size G P k j1 w3 := ⟨i + 1, by omega, by go_num, HP3.out⟩
          first | exact fin | ((repeat apply Exists.intro); exact ⟨fin, rfl⟩)
        case measure => simp [intOf]; omega
      · have hie : i = N := by omega
        subst hie
        have hbld := hp.bld
        have e1 : aheadOf P k i = k := by rw [← HPN.out]; exact HAE.out
        rw [e1, ← HR.out] at hbld
        have HST := toHid (Tryz.Builder_String_any_k wA.heap.size wA.heap.size R.data.toList wr hbld hbw.size)
        have hre : ByteArray.mk R.data.toList.toArray = R := by simp
        rw [hre] at HST
        clear hre
        clear hp hbld HRD HSE HSZ HGS HAS
        go_wp2_with fail
        refine HST.out.mono ?_
        rintro e w2 ⟨rfl, _, hb2, _⟩
        have HB2 : Hid (Below w.heap.size w w2) := HBA.out.trans ((hbw.trans hb2).mono HBA.out.size)
        clear hb2
        go_wp2
        go_ret2
        exact ⟨rfl, HB2.out⟩
  · have HR : Hid (s.getS l fr n = bytesOf []) := by unfold Hid SV.getS; rw [if_neg hF]
    rw [HR.out]
    rw [erV_some hF] at HCK ⊢
    generalize s.chkF l fr n = F at HCK ⊢
    generalize l.length = q at HCK ⊢
    clear h hl hg HR hF
    go_enter Tryz.func39, Tryz.ntmps39
    go_wp2_with fail
    refine HCK.out.mono ?_
    rintro e wA ⟨rfl, hbA⟩
    go_wp2
    go_ret2
    exact ⟨rfl, hbA⟩
end Go.Proofs.YtjegaljdindfaabGreatDoor
