/-
The document's Walk (G1), and its Get (G3).
chained: get, and read, on both shelves.
chained: any act, on both shelves.
-/
import Derived.Test.YtjegaljdindfaabGreatDoorQChainParts
import Derived.Test.YtjegaljdindfaabGreatDoorQChainLaws
import Derived.Test.YtjegaljdindfaabGreatDoorQChainPut2
import Derived.Test.YtjegaljdindfaabGreatDoorQChainGet
import Derived.Test.YtjegaljdindfaabGreatDoorQRchWipe
import Derived.Test.YtjegaljdindfaabGreatDoorQRchMove
namespace Go.Proofs.YtjegaljdindfaabGreatDoor
open Go.RowKit Go.Maps
attribute [local go_sem ↓] Go.wp_at_zero Go.wp_at_succ

set_option maxRecDepth 100000 in
set_option maxHeartbeats 2000000 in
theorem rwalk_any {sp m : Nat} {xs : Nat → Qh} {s : SV} (root : Int) (w : World) (h : IsRshelf w sp xs s m) :
    Calls Tryz.prog 10 #[.pointer (some ⟨sp, 0, none⟩), .int .i64 root] w fun e w' =>
      ∃ (a : Option Addr) (cap : Nat), e = .returned (.tuple #[.slice a (s.walk root).1.length cap, .int .i64 (s.walk root).2]) ∧ Nums w' a (s.walk root).1 ∧ (∀ g o, a = some ⟨g, o, none⟩ → w.heap.size ≤ g ∧ (s.walk root).1.length ≤ cap) ∧ Below w.heap.size w w' := by
  obtain ⟨i1, hi1, hx0, hx1, hx2⟩ := info_parts info_int
  have HCE : Hid (∀ (i : Nat) (W : World), i < 5 → Below w.heap.size w W → W.cell? ⟨sp, i, none⟩ = some (ptrQ (xs i) (s i))) := fun i W hi hb => (h.below hb).cell hi
  have HHD : Hid (∀ (n : Int) (v : IV) (W : World), s.file n = some v → Below w.heap.size w W → ∃ k : Nat, n = (k : Int) ∧ k < 5 ∧ W.cell? ⟨sp, k, none⟩ = some (.pointer (some ⟨(xs k).p, 0, none⟩)) ∧ W.cell? ⟨(xs k).p, 1, none⟩ = some (.int .i64 v.h.c) ∧ W.cell? ⟨(xs k).p, 3, none⟩ = some (.int .i64 v.h.b)) := fun n v W hf hb => by
    obtain ⟨n0, n5, _⟩ := SV.file_of hf
    have hk : n = (n.toNat : Int) := by omega
    obtain ⟨i1, _⟩ := (h.below hb).imgF hf
    exact ⟨n.toNat, hk, by omega, (h.below hb).cellF hf, i1.cells.2.1, i1.cells.2.2.2.1⟩
  have HST : Hid (Walks w s root (s.walk root) [] root none 0 w) := ⟨World.ownsRow_nil _ _ _ _, rfl, Nat.zero_le _, .inl rfl, Below.refl _ _⟩
  generalize s.walk root = R at HST ⊢
  clear h
  go_enter Tryz.func10, Tryz.ntmps10
  go_wp2
  go_loopw [6, 7] (fun u i wr => ∃ (l : List Int) (n : Int) (a : Option Addr) (cap : Nat), u = .slice a l.length cap ∧ i = .int .i64 n ∧ Walks w s root R l n a cap wr) (fun u _ _ => 6 - sliceLen u)
  case atStart => exact ⟨[], root, none, 0, rfl, rfl, HST.out⟩
  case round =>
    obtain ⟨l, n, a, cap, rfl, rfl, hw⟩ := hrel
    have hl5 := hw.len
    obtain ⟨q, hq⟩ : ∃ q, 6 - l.length = q + 1 := ⟨5 - l.length, by omega⟩
    have hgo := hw.go
    rw [hq] at hgo
    by_cases hn : n = -1
    · have g0 : (n != -1) = false := by simpa using hn
      rw [hn, SV.walk_end] at hgo
      have HR := toHid hgo
      have HN : Hid (Nums wr a l ∧ ∀ g o, a = some ⟨g, o, none⟩ → w.heap.size ≤ g ∧ l.length ≤ cap) := ⟨nums_owns hw.own rfl, fun g o e => by
        subst e
        refine ⟨?_, owns_cap hw.own⟩
        rcases hw.own.2 with ⟨h0, _⟩ | ⟨g', cap', cur, hv, hb, _⟩
        · cases h0
        · cases hv; exact hb⟩
      have HB := toHid hw.bel
      clear hw hgo hn
      go_wp2
      go_ret2
      exact ⟨a, cap, by rw [← HR.out]; rfl, by rw [← HR.out]; exact HN.out.1, by rw [← HR.out]; exact HN.out.2, HB.out⟩
    · have g0 : (n != -1) = true := by simpa using hn
      cases hf : s.file n with
      | none =>
        rw [SV.walk_none hn hf] at hgo
        have HR := toHid hgo
        have HB := toHid hw.bel
        by_cases h0 : n < 0
        · have g1 : decide (n < 0) = true := decide_eq_true h0
          clear hw hgo hn hf
          go_wp2
          go_ret2
          first | exact ⟨none, 0, by rw [← HR.out]; rfl, by rw [← HR.out]; exact Nums.nil _ _, (fun g o e => by cases e), HB.out⟩ | exact ⟨none, ⟨0, by rw [← HR.out]; rfl⟩, by rw [← HR.out]; exact Nums.nil _ _, (fun g o e => by cases e), HB.out⟩
        · have g1 : decide (n < 0) = false := decide_eq_false h0
          by_cases h1 : 5 ≤ n
          · have g2 : decide (5 ≤ n) = true := decide_eq_true h1
            clear hw hgo hn hf
            go_wp2
            go_ret2
            first | exact ⟨none, 0, by rw [← HR.out]; rfl, by rw [← HR.out]; exact Nums.nil _ _, (fun g o e => by cases e), HB.out⟩ | exact ⟨none, ⟨0, by rw [← HR.out]; rfl⟩, by rw [← HR.out]; exact Nums.nil _ _, (fun g o e => by cases e), HB.out⟩
          · have g2 : decide (5 ≤ n) = false := decide_eq_false h1
            obtain ⟨k, rfl⟩ : ∃ k : Nat, n = (k : Int) := ⟨n.toNat, by omega⟩
            have hc := HCE.out k wr (by omega) hw.bel
            rw [SV.file_at (by omega)] at hf
            rw [hf] at hc
            unfold ptrQ at hc
            have k0 : (0 : Int) ≤ (k : Int) := by omega
            have k1 : (k : Int) < 5 := by omega
            have k2 : ((k : Int)).toNat = k := by omega
            clear hw hgo hn hf
            go_wp2
            go_ret2
            first | exact ⟨none, 0, by rw [← HR.out]; rfl, by rw [← HR.out]; exact Nums.nil _ _, (fun g o e => by cases e), HB.out⟩ | exact ⟨none, ⟨0, by rw [← HR.out]; rfl⟩, by rw [← HR.out]; exact Nums.nil _ _, (fun g o e => by cases e), HB.out⟩
      | some v =>
        obtain ⟨nk, rfl, n5, hc0, hc1, hc3⟩ := HHD.out n v wr hf hw.bel
        have g1 : decide ((nk : Int) < 0) = false := by simp
        have g2 : decide (5 ≤ (nk : Int)) = false := decide_eq_false (by omega)
        have k0 : (0 : Int) ≤ (nk : Int) := by omega
        have k1 : (nk : Int) < 5 := by omega
        have k2 : ((nk : Int)).toNat = nk := by omega
        by_cases h5 : l.length = 5
        · have g3 : ((l.length : Int) == 5) = true := by simp; omega
          rw [SV.walk_long hn hf h5] at hgo
          have HR := toHid hgo
          have HB := toHid hw.bel
          clear hw hgo hn hf
          go_wp2
          go_ret2
          first | exact ⟨none, 0, by rw [← HR.out]; rfl, by rw [← HR.out]; exact Nums.nil _ _, (fun g o e => by cases e), HB.out⟩ | exact ⟨none, ⟨0, by rw [← HR.out]; rfl⟩, by rw [← HR.out]; exact Nums.nil _ _, (fun g o e => by cases e), HB.out⟩
        · have g3 : ((l.length : Int) == 5) = false := by simp; omega
          obtain ⟨vr, hr⟩ : ∃ vr, s.file root = some vr := by
            rcases hw.root with e | e
            · rw [← e]; exact ⟨v, hf⟩
            · exact e
          have hrc : s.rootC root = vr.h.c := by unfold SV.rootC; rw [hr]
          have HB := toHid hw.bel
          obtain ⟨rk, hrk, r5, hd0, hd1, _⟩ := HHD.out root vr wr hr hw.bel
          have r0 : (0 : Int) ≤ (rk : Int) := by omega
          have r1 : (rk : Int) < 5 := by omega
          have r2 : ((rk : Int)).toNat = rk := by omega
          subst hrk
          have HBN : Hid (∀ W : World, Below w.heap.size w W → W.cell? ⟨sp, nk, none⟩ = some (.pointer (some ⟨(xs nk).p, 0, none⟩)) ∧ W.cell? ⟨(xs nk).p, 3, none⟩ = some (.int .i64 v.h.b)) := fun W hb => by
            obtain ⟨k', e1, _, e2, _, e3⟩ := HHD.out (nk : Int) v W hf hb
            have : nk = k' := by omega
            subst this; exact ⟨e2, e3⟩
          have HDR : Hid (Below w.heap.size w wr.drew) := HB.out.drew
          have HOD : Hid (wr.drew.ownsRow w.heap.size 3 1 (.slice a l.length cap) l.length (numV l)) := hw.own
          generalize (xs nk).p = xn at hc0 hc1 hc3 HBN
          generalize (xs rk).p = xr at hd0 hd1
          by_cases hc : v.h.c = vr.h.c
          · have hcb : (v.h.c != vr.h.c) = false := by simpa using hc
            rw [SV.walk_on hn hf h5 (by rw [hrc]; exact hc)] at hgo
            have HGO := toHid hgo
            have HVR : Hid (∃ v, s.file (rk : Int) = some v) := ⟨vr, hr⟩
            have hl4 : l.length ≤ 4 := by omega
            have HQ := toHid hq
            have HM : Hid (l.length + 1 ≤ maxLen) := by unfold Hid maxLen; omega
            clear hw hgo hf hr HHD HCE HST hq hn hc
            go_wp2
            go_region
            generalize wr.drew = wH at HDR HOD ⊢
            have HO1 : Hid ((wH.alloc (.cells #[.int .i64 (nk : Int)] 3)).ownsRow w.heap.size 3 1 (.slice a l.length cap) l.length (numV l)) := HOD.out.alloc _
            have HZ1 : Hid ((wH.alloc (.cells #[.int .i64 (nk : Int)] 3)).heap.size = wH.heap.size + 1) := by unfold Hid; simp
            have HB1 : Hid (w.heap.size ≤ (wH.alloc (.cells #[.int .i64 (nk : Int)] 3)).heap.size) := by unfold Hid; have := HDR.out.size; rw [HZ1.out]; omega
            have HN1 : Hid (∀ j y, ([.int .i64 (nk : Int)] : List Value)[j]? = some y → (wH.alloc (.cells #[.int .i64 (nk : Int)] 3)).cell? ((⟨wH.heap.size, 0, none⟩ : Addr).add j) = some y) := cell_one_new _ _ _
            have HBA : Hid (Below w.heap.size w (wH.alloc (.cells #[.int .i64 (nk : Int)] 3))) := HDR.out.alloc HDR.out.size _
            go_wp2_with (at_builtin; refine wpList_append_lies _ (by rfl) _ _ 31 (by rfl) w.heap.size 3 i1 (.int .i64 0) 1 8 Tryz.underlying31 hi1 hx0 hx1 hx2 rfl (by decide) (.slice a l.length cap) l.length (numV l) (by rfl) HO1.out ⟨wH.heap.size, 0, none⟩ 1 1 [.int .i64 (nk : Int)] (by rfl) (by rfl) HN1.out (fun u hu => by simp at hu; subst hu; rfl) (by decide) HM.out (by omega) HB1.out (wH.heap.size + 1) HZ1.out ?_
                         intro g k w1 hown hgrow hat hlt
                         have HBF : Hid (Below w.heap.size w w1) := HBA.out.grown hgrow HB1.out (fun r e => (HO1.out.lt r e).1)
                         have HOF := toHid hown
                         have d3 := (HBN.out w1 HBF.out).1
                         have d4 := (HBN.out w1 HBF.out).2
                         clear hown hgrow hat hlt)
            have HWK : Hid (Walks w s (rk : Int) R (l ++ [(nk : Int)]) v.h.b (some ⟨g, 0, none⟩) k w1) := by
              have e1 : (l ++ [(nk : Int)]).length = l.length + 1 := by simp
              have e2 : numV (l ++ [(nk : Int)]) = numV l ++ [.int .i64 (nk : Int)] := by simp [numV]
              refine ⟨?_, ?_, by rw [e1]; omega, .inr HVR.out, HBF.out⟩
              · rw [e1, e2]; exact HOF.out
              · have := HQ.out
                rw [e1, show 6 - (l.length + 1) = q by omega]; exact HGO.out
            clear d3 d4
            go_roundw
            case rel =>
              have fin : ∃ (l1 : List Int) (n1 : Int) (a1 : Option Addr) (cap1 : Nat), Value.slice (some ⟨g, 0, none⟩) (l.length + 1) k = .slice a1 l1.length cap1 ∧ Value.int .i64 v.h.b = .int .i64 n1 ∧ Walks w s (rk : Int) R l1 n1 a1 cap1 w1 := ⟨l ++ [(nk : Int)], v.h.b, some ⟨g, 0, none⟩, k, by simp, rfl, HWK.out⟩
              first | exact fin | ((repeat apply Exists.intro); exact ⟨fin, rfl⟩)
            case measure => simp [sliceLen]; omega
          · have hcb : (v.h.c != vr.h.c) = true := by simpa using hc
            rw [SV.walk_other hn hf h5 (by rw [hrc]; exact hc)] at hgo
            have HR := toHid hgo
            clear hw hgo hf hr HHD HCE HST hq hn hc
            go_wp2
            go_region
            go_wp2
            go_ret2
            exact ⟨none, 0, by rw [← HR.out]; rfl, by rw [← HR.out]; exact Nums.nil _ _, (fun g o e => by cases e), HDR.out⟩

set_option maxRecDepth 100000 in
set_option maxHeartbeats 2000000 in
theorem rget_any {sp m cap C : Nat} {xs : Nat → Qh} {s : SV} {a : Option Addr} (l : List Int) (fr n : Int) (w : World) (h : IsRshelf w sp xs s m) (hl : Nums w a l) (hg : s.good (C : Int) l) (h5 : l.length ≤ 100) (hC : C ≤ 40) (hfr : -9223372036854775808 ≤ fr ∧ fr ≤ 9223372036854775807) :
    Calls Tryz.prog 40 #[.pointer (some ⟨sp, 0, none⟩), .slice a l.length cap, .int .i64 fr, .int .i64 n] w fun e w' => e = .returned (.tuple #[.string (s.getS l fr n), .int .i64 (s.chkF l fr n)]) ∧ Below w.heap.size w w' := by
  have HCK := toHid (rwithin_any (cap := cap) l fr n w h hl hg (by omega) hfr)
  by_cases hF : s.chkF l fr n = 0
  · obtain ⟨h0, n0, n1, n2⟩ := SV.chk_ok hg hF
    obtain ⟨f, rfl⟩ : ∃ f : Nat, fr = (f : Int) := ⟨fr.toNat, by omega⟩
    obtain ⟨k, rfl⟩ : ∃ k : Nat, n = (k : Int) := ⟨n.toNat, by omega⟩
    have HR : Hid (s.getS l (f : Int) (k : Int) = s.getTo l f k) := by unfold Hid SV.getS; rw [if_pos hF]; rfl
    rw [hF] at HCK ⊢
    have HGZ : Hid (∀ j, j ≤ k → (s.getTo l f j).size = j * 16) := fun j hj => SV.getTo_size hg h.ok h0 j (by omega)
    have HG0 : Hid (s.getTo l f 0 = bytesOf []) := rfl
    have HGS : Hid (∀ j, s.getTo l f (j + 1) = s.getTo l f j ++ (s.read l (((f + j) / 4 : Nat) : Int)).1.extract ((f + j) % 4 * 16) (((f + j) % 4 + 1) * 16)) := fun j => rfl
    have HRD : Hid (∀ (j : Nat) (W : World), j < k → Below w.heap.size w W → Calls Tryz.prog 43 #[.pointer (some ⟨sp, 0, none⟩), .slice a l.length cap, .int .i64 (((f : Int) + (j : Int)) / 4)] W fun e w' => e = .returned (.tuple #[.string (s.read l (((f + j) / 4 : Nat) : Int)).1, .int .i64 0]) ∧ Below W.heap.size W w') := fun j W hj hb => by
      have := rread_any (cap := cap) l (((f + j) / 4 : Nat) : Int) W (h.below hb) (hl.below hb) hg h5
      rw [(SV.read_yes hg h.ok h0 (c := (((f + j) / 4 : Nat) : Int)) ⟨by omega, by omega⟩).1, show ((((f + j) / 4 : Nat)) : Int) = ((f : Int) + (j : Int)) / 4 by omega] at this; exact this
    have HRZ : Hid (∀ j, j < k → (s.read l (((f + j) / 4 : Nat) : Int)).1.size = 64) := fun j hj => (SV.read_yes hg h.ok h0 (c := (((f + j) / 4 : Nat) : Int)) ⟨by omega, by omega⟩).2
    generalize s.getS l (f : Int) (k : Int) = R at HR ⊢
    generalize s.getTo l f = G at HR HGS HGZ HG0
    generalize hq : l.length = q at HCK HRD ⊢
    clear h hl hg hF hq
    have hk1000 : f + k ≤ 1000 := by omega
    have kk : IntKind.i64.wrap ((f : Int) + (k : Int)) = (f : Int) + (k : Int) := IntWalk.i64_in _ (by omega)
    go_enter Tryz.func40, Tryz.ntmps40
    go_wp2_with fail
    refine HCK.out.mono ?_
    rintro e wA ⟨rfl, hbA⟩
    have HBA := toHid hbA
    clear hbA HCK
    go_wp2
    go_loopw [11, 12] (fun u i wr => ∃ (j : Nat), j ≤ k ∧ u = .string (G j) ∧ i = .int .i64 ((f : Int) + (j : Int)) ∧ Below w.heap.size w wr) (fun _ i _ => (f + k) - (intOf i).toNat)
    case atStart => exact ⟨0, Nat.zero_le _, by rw [HG0.out]; rfl, by simp, HBA.out⟩
    case round =>
      obtain ⟨j, hjk, rfl, rfl, hbel⟩ := hrel
      have HB := toHid hbel
      by_cases hlt : j < k
      · have HRJ := toHid (HRD.out j wr hlt hbel)
        have hz := HRZ.out j hlt
        have HS := toHid (HGS.out j)
        have hGz := HGZ.out j hjk
        have g1 : decide ((f : Int) + (j : Int) < (f : Int) + (k : Int)) = true := decide_eq_true (by omega)
        generalize (s.read l (((f + j) / 4 : Nat) : Int)).1 = old at HRJ hz HS
        have e0 : (0 : Int) ≤ (f : Int) + (j : Int) := by omega
        obtain ⟨md, hmd⟩ : ∃ md : Nat, (f + j) % 4 = md := ⟨_, rfl⟩
        have hmd4 : md < 4 := by omega
        have e1 : ((f : Int) + (j : Int)) % 4 = (md : Int) := by omega
        have e2 : (0 : Int) ≤ 16 * (md : Int) := by omega
        have e3 : 16 * (md : Int) ≤ 16 * (md : Int) + 16 := by omega
        have e4 : 16 * (md : Int) + 16 ≤ (old.size : Int) := by omega
        have e5 : (16 * (md : Int)).toNat = 16 * md := by omega
        have e6 : (16 * (md : Int) + 16).toNat = 16 * md + 16 := by omega
        have e7 : (0 : Int) ≤ 16 * (md : Int) + 16 := by omega
        have e8 : ¬ 9223372036854775807 < (G j).size + (old.extract (16 * md) (16 * md + 16)).size := by rw [ByteArray.size_extract]; omega
        have e8' : ¬ 9223372036854775807 < (G j).size + (min (16 * md + 16) old.size - 16 * md) := by omega
        have HS2 : Hid (G j ++ old.extract (16 * md) (16 * md + 16) = G (j + 1)) := by
          unfold Hid
          rw [HS.out, hmd, show md * 16 = 16 * md by omega, show (md + 1) * 16 = 16 * md + 16 by omega]
        have w1 : IntKind.i64.wrap (16 * (md : Int)) = 16 * (md : Int) := IntWalk.i64_in _ (by omega)
        have w2 : IntKind.i64.wrap (16 * (md : Int) + 16) = 16 * (md : Int) + 16 := IntWalk.i64_in _ (by omega)
        have w3 : IntKind.i64.wrap ((f : Int) + (j : Int) + 1) = (f : Int) + (j : Int) + 1 := IntWalk.i64_in _ (by omega)
        clear hbel HRD HRZ HGS HS hz hGz hmd
        go_wp2_with fail
        refine HRJ.out.mono ?_
        rintro e wB ⟨rfl, hbB⟩
        have HB2 := toHid (HB.out.trans (hbB.mono HB.out.size))
        clear hbB HRJ
        go_wp2
        go_roundw
        case rel =>
          have fin : ∃ (j1 : Nat), j1 ≤ k ∧ Value.string (G j ++ old.extract (16 * md) (16 * md + 16)) = .string (G j1) ∧ Value.int .i64 ((f : Int) + (j : Int) + 1) = .int .i64 ((f : Int) + (j1 : Int)) ∧ Below w.heap.size w wB := ⟨j + 1, by omega, by rw [HS2.out], by go_num, HB2.out⟩
          first | exact fin | ((repeat apply Exists.intro); exact ⟨fin, rfl⟩)
        case measure => simp [intOf]; omega
      · have hje : j = k := by omega
        subst hje
        have g1 : decide ((f : Int) + (j : Int) < (f : Int) + (j : Int)) = false := decide_eq_false (by omega)
        clear hbel HRD HRZ HGS
        go_wp2
        go_ret2
        exact ⟨by rw [HR.out]; rfl, HB.out⟩
  · have HR : Hid (s.getS l fr n = bytesOf []) := by unfold Hid SV.getS; rw [if_neg hF]
    have HP : Hid (0 < s.chkF l fr n) := by
      unfold Hid SV.chkF at *
      split
      · decide
      · split
        · decide
        · next h1 h2 => rw [if_neg h1, if_neg h2] at hF; exact absurd rfl hF
    rw [HR.out]
    generalize s.chkF l fr n = F at HCK HP ⊢
    have g1 : decide (0 < F) = true := decide_eq_true HP.out
    generalize l.length = q at HCK ⊢
    clear h hl hg HR hF
    go_enter Tryz.func40, Tryz.ntmps40
    go_wp2_with fail
    refine HCK.out.mono ?_
    rintro e wA ⟨rfl, hbA⟩
    go_wp2
    go_ret2
    exact ⟨rfl, hbA⟩
end Go.Proofs.YtjegaljdindfaabGreatDoor

namespace Go.Proofs.YtjegaljdindfaabGreatDoor
open Go.RowKit Go.Maps
attribute [local go_sem ↓] Go.wp_at_zero Go.wp_at_succ

set_option maxRecDepth 100000 in
set_option maxHeartbeats 2000000 in
theorem chained_get {B m C cap : Nat} {w0 : World} {sp mp : Nat} {xs : Nat → Ih} {qs : Nat → Qh} {s : SV} {a : Option Addr} {l : List Int} (x : ActV) (w : World) (h : Yoke B w0 w sp mp xs qs s m a l C) (ha : (-9223372036854775808 ≤ x.a ∧ x.a ≤ 9223372036854775807)) (e0 : x.kind.toList = [103, 101, 116]) :
    Calls Tryz.prog 13 #[.pointer (some ⟨sp, 0, none⟩), .pointer (some ⟨mp, 0, none⟩), .slice a l.length cap, .agg #[.string x.kind, .int .i64 x.a, .int .i64 x.b, .int .i64 x.c, .int .i64 x.d, .string x.s, .slice x.ka x.kl x.kc]] w fun e w' => e = .returned (.bool true) ∧ Yoked B w0 sp mp (m + 2000) a l C w' := by
  have hat : ActAt (w.alloc (actBox x)) w.heap.size x := ⟨heap_alloc_new w _⟩
  have g0 : (x.kind.toList == [112, 117, 116]) = false := by rw [e0]; rfl
  have g1 : (x.kind.toList == [119, 105, 112, 101]) = false := by rw [e0]; rfl
  have g2 : (x.kind.toList == [103, 101, 116]) = true := by rw [e0]; rfl
  have hba : Below w.heap.size w (w.alloc (actBox x)) := (Below.refl _ _).alloc (Nat.le_refl _) _
  have HY : Hid (∀ W : World, Below (w.alloc (actBox x)).heap.size (w.alloc (actBox x)) W → Yoked B w0 sp mp (m + 2000) a l C W) := fun W hb => ⟨xs, qs, s, (h.below (hba.trans (hb.mono hba.size))).more (by omega)⟩
  have HCS : Hid (∀ W : World, Below (w.alloc (actBox x)).heap.size (w.alloc (actBox x)) W → Below (w.alloc (actBox x)).heap.size (w.alloc (actBox x)) W ∧ W.cell? ⟨w.heap.size, 1, none⟩ = some (.int .i64 x.a) ∧ W.cell? ⟨w.heap.size, 2, none⟩ = some (.int .i64 x.b)) := fun W hb => by
    have hlt : w.heap.size < (w.alloc (actBox x)).heap.size := by simp
    obtain ⟨c1, c2, _⟩ := ActAt.cells (w := W) (N := w.heap.size) (a := x) ⟨by rw [hb.block _ hlt]; exact hat.blk⟩
    exact ⟨hb, c1, c2⟩
  have HYO : Hid (∀ W : World, Below (w.alloc (actBox x)).heap.size (w.alloc (actBox x)) W → Yoke B w0 W sp mp xs qs s m a l C) := fun W hb => h.below (hba.trans (hb.mono hba.size))
  have HGP : Hid (∀ W : World, Below (w.alloc (actBox x)).heap.size (w.alloc (actBox x)) W → Calls Tryz.prog 39 #[.pointer (some ⟨sp, 0, none⟩), .slice a l.length cap, .int .i64 x.a, .int .i64 x.b] W fun e w' => e = .returned (.tuple #[.string (s.getS l x.a x.b), erV (s.chkF l x.a x.b)]) ∧ Below W.heap.size W w') := fun W hb => cget_any l x.a x.b W (HYO.out W hb).lay.prog (HYO.out W hb).nums h.good h.len h.cc ha
  have HGR : Hid (∀ W : World, Below (w.alloc (actBox x)).heap.size (w.alloc (actBox x)) W → Calls Tryz.prog 40 #[.pointer (some ⟨mp, 0, none⟩), .slice a l.length cap, .int .i64 x.a, .int .i64 x.b] W fun e w' => e = .returned (.tuple #[.string (s.getS l x.a x.b), .int .i64 (s.chkF l x.a x.b)]) ∧ Below W.heap.size W w') := fun W hb => rget_any l x.a x.b W (HYO.out W hb).lay.ref (HYO.out W hb).nums h.good h.len h.cc ha
  have hf0 := chkF_zero s l x.a x.b
  clear h hba hat ha e0 HYO
  generalize s.getS l x.a x.b = T at HGP HGR
  generalize s.chkF l x.a x.b = F at HGP HGR hf0
  generalize l.length = len at HGP HGR ⊢
  have gT : (T.toList == T.toList) = true := by simp
  unfold actBox at HY HCS HGP HGR
  have c12 := HCS.out _ (Below.refl _ _)
  obtain ⟨_, c1, c2⟩ := c12
  go_enter Tryz.func13, Tryz.ntmps13
  go_wp2_with fail
  generalize w.alloc (.cells #[.string x.kind, .int .i64 x.a, .int .i64 x.b, .int .i64 x.c, .int .i64 x.d, .string x.s, .slice x.ka x.kl x.kc] 43) = W at HY HCS HGP HGR c1 c2 ⊢
  generalize w.heap.size = N at HCS c1 c2 ⊢
  refine (HGP.out _ (Below.refl _ _)).mono ?_
  rintro e w1 ⟨rfl, hb1⟩
  clear c1 c2
  obtain ⟨_, c1, c2⟩ := HCS.out w1 hb1
  have HB1 := toHid hb1
  clear hb1 HGP
  go_wp2_with fail
  refine (HGR.out _ HB1.out).mono ?_
  rintro e w2 ⟨rfl, hb2⟩
  have HB2 : Hid (Below W.heap.size W w2) := HB1.out.trans (hb2.mono HB1.out.size)
  clear hb2 HGR c1 c2
  go_wp2_with (go_at_call 11; refine (errSame F _ hf0).mono ?_; rintro e w' ⟨rfl, hw⟩; have hw' := hw.symm; subst hw'; clear hw)
  go_ret
  exact ⟨rfl, HY.out _ HB2.out⟩

set_option maxRecDepth 100000 in
set_option maxHeartbeats 2000000 in
theorem chained_read {B m C cap : Nat} {w0 : World} {sp mp : Nat} {xs : Nat → Ih} {qs : Nat → Qh} {s : SV} {a : Option Addr} {l : List Int} (x : ActV) (w : World) (h : Yoke B w0 w sp mp xs qs s m a l C) (e0 : x.kind.toList ≠ [112, 117, 116]) (e1 : x.kind.toList ≠ [119, 105, 112, 101]) (e2 : x.kind.toList ≠ [103, 101, 116]) (e3 : x.kind.toList ≠ [109, 111, 118, 101]) :
    Calls Tryz.prog 13 #[.pointer (some ⟨sp, 0, none⟩), .pointer (some ⟨mp, 0, none⟩), .slice a l.length cap, .agg #[.string x.kind, .int .i64 x.a, .int .i64 x.b, .int .i64 x.c, .int .i64 x.d, .string x.s, .slice x.ka x.kl x.kc]] w fun e w' => e = .returned (.bool true) ∧ Yoked B w0 sp mp (m + 2000) a l C w' := by
  have hat : ActAt (w.alloc (actBox x)) w.heap.size x := ⟨heap_alloc_new w _⟩
  have g0 : (x.kind.toList == [112, 117, 116]) = false := beq_eq_false_iff_ne.2 e0
  have g1 : (x.kind.toList == [119, 105, 112, 101]) = false := beq_eq_false_iff_ne.2 e1
  have g2 : (x.kind.toList == [103, 101, 116]) = false := beq_eq_false_iff_ne.2 e2
  have g3 : (x.kind.toList == [109, 111, 118, 101]) = false := beq_eq_false_iff_ne.2 e3
  have hba : Below w.heap.size w (w.alloc (actBox x)) := (Below.refl _ _).alloc (Nat.le_refl _) _
  have HY : Hid (∀ W : World, Below (w.alloc (actBox x)).heap.size (w.alloc (actBox x)) W → Yoked B w0 sp mp (m + 2000) a l C W) := fun W hb => ⟨xs, qs, s, (h.below (hba.trans (hb.mono hba.size))).more (by omega)⟩
  have HCS : Hid (∀ W : World, Below (w.alloc (actBox x)).heap.size (w.alloc (actBox x)) W → Below (w.alloc (actBox x)).heap.size (w.alloc (actBox x)) W ∧ W.cell? ⟨w.heap.size, 1, none⟩ = some (.int .i64 x.a) ∧ W.cell? ⟨w.heap.size, 2, none⟩ = some (.int .i64 x.b)) := fun W hb => by
    have hlt : w.heap.size < (w.alloc (actBox x)).heap.size := by simp
    obtain ⟨c1, c2, _⟩ := ActAt.cells (w := W) (N := w.heap.size) (a := x) ⟨by rw [hb.block _ hlt]; exact hat.blk⟩
    exact ⟨hb, c1, c2⟩
  have HYO : Hid (∀ W : World, Below (w.alloc (actBox x)).heap.size (w.alloc (actBox x)) W → Yoke B w0 W sp mp xs qs s m a l C) := fun W hb => h.below (hba.trans (hb.mono hba.size))
  have HGP : Hid (∀ W : World, Below (w.alloc (actBox x)).heap.size (w.alloc (actBox x)) W → Calls Tryz.prog 23 #[.pointer (some ⟨sp, 0, none⟩), .slice a l.length cap, .int .i64 x.a] W fun e w' => e = .returned (.tuple #[.string (s.read l x.a).1, erV (s.read l x.a).2]) ∧ Below W.heap.size W w') := fun W hb => cread_any l x.a W (HYO.out W hb).lay.prog (HYO.out W hb).nums h.good h.len
  have HGR : Hid (∀ W : World, Below (w.alloc (actBox x)).heap.size (w.alloc (actBox x)) W → Calls Tryz.prog 43 #[.pointer (some ⟨mp, 0, none⟩), .slice a l.length cap, .int .i64 x.a] W fun e w' => e = .returned (.tuple #[.string (s.read l x.a).1, .int .i64 (s.read l x.a).2]) ∧ Below W.heap.size W w') := fun W hb => rread_any l x.a W (HYO.out W hb).lay.ref (HYO.out W hb).nums h.good h.len
  have HFP : Hid (∀ W : World, Below (w.alloc (actBox x)).heap.size (w.alloc (actBox x)) W → Calls Tryz.prog 44 #[.pointer (some ⟨sp, 0, none⟩), .slice a l.length cap, .int .i64 x.a] W fun e w' => e = .returned (.int .i64 (s.found l x.a)) ∧ Below W.heap.size W w') := fun W hb => found_any l x.a W (HYO.out W hb).lay.prog (HYO.out W hb).nums h.len
  have HFR : Hid (∀ W : World, Below (w.alloc (actBox x)).heap.size (w.alloc (actBox x)) W → Calls Tryz.prog 45 #[.pointer (some ⟨mp, 0, none⟩), .slice a l.length cap, .int .i64 x.a] W fun e w' => e = .returned (.int .i64 (s.found l x.a)) ∧ Below W.heap.size W w') := fun W hb => rfound_any l x.a W (HYO.out W hb).lay.ref (HYO.out W hb).nums h.good h.len
  have hf0 := s.read_pos l x.a
  clear h hba hat e0 e1 e2 e3 HYO
  generalize s.read l x.a = R at HGP HGR hf0
  obtain ⟨T, F⟩ := R
  generalize s.found l x.a = D at HFP HFR
  generalize l.length = len at HGP HGR HFP HFR ⊢
  have gT : (T.toList == T.toList) = true := by simp
  have gD : (D == D) = true := by simp
  unfold actBox at HY HCS HGP HGR HFP HFR
  have c12 := HCS.out _ (Below.refl _ _)
  obtain ⟨_, c1, c2⟩ := c12
  go_enter Tryz.func13, Tryz.ntmps13
  go_wp2_with fail
  generalize w.alloc (.cells #[.string x.kind, .int .i64 x.a, .int .i64 x.b, .int .i64 x.c, .int .i64 x.d, .string x.s, .slice x.ka x.kl x.kc] 43) = W at HY HCS HGP HGR HFP HFR c1 c2 ⊢
  generalize w.heap.size = N at HCS c1 c2 ⊢
  refine (HGP.out _ (Below.refl _ _)).mono ?_
  rintro e w1 ⟨rfl, hb1⟩
  clear c1 c2
  obtain ⟨_, c1, c2⟩ := HCS.out w1 hb1
  have HB1 := toHid hb1
  clear hb1 HGP
  go_wp2_with fail
  refine (HGR.out _ HB1.out).mono ?_
  rintro e w2 ⟨rfl, hb2⟩
  have HB2 : Hid (Below W.heap.size W w2) := HB1.out.trans (hb2.mono HB1.out.size)
  clear hb2 HGR c1 c2
  obtain ⟨_, c1, _⟩ := HCS.out w2 HB2.out
  go_wp2
  go_region_held3 (fun W' => W'.cell? ⟨N, 1, none⟩ = some (.int .i64 x.a))
    (first | (exact c1) | assumption)
    (first
      | (go_at_call 11; refine (errSame F _ hf0).mono ?_; rintro e w' ⟨rfl, rfl⟩)
      | (go_at_call 44; refine (HFP.out _ ?_).mono ?_; (· exact Alike.after HB2.out ⟨rfl, rfl, rfl, rfl⟩); rintro e W3 ⟨rfl, hb3⟩; have HB3 := toHid (Alike.far HB2.out hb3 ⟨rfl, rfl, rfl, rfl⟩); have c3 := (HCS.out _ HB3.out).2.1; clear hb3)
      | (go_at_call 45; refine (HFR.out _ ?_).mono ?_; (· exact Alike.after HB3.out ⟨rfl, rfl, rfl, rfl⟩); rintro e W4 ⟨rfl, hb4⟩; have HB4 := toHid (Alike.far HB3.out hb4 ⟨rfl, rfl, rfl, rfl⟩); have c4 := (HCS.out _ HB4.out).2.1; clear hb4))
  go_wp2
  go_ret
  exact ⟨rfl, HY.out _ (Alike.after HB4.out ⟨rfl, rfl, rfl, rfl⟩)⟩
end Go.Proofs.YtjegaljdindfaabGreatDoor

namespace Go.Proofs.YtjegaljdindfaabGreatDoor
open Go.RowKit Go.Maps

theorem chained_any {B m C cap : Nat} {w0 : World} {sp mp : Nat} {xs : Nat → Ih} {qs : Nat → Qh} {s : SV} {a : Option Addr} {l : List Int} (x : ActV) (w : World) (h : Yoke B w0 w sp mp xs qs s m a l C) (hm : m + 3000 < 1000000000) (ha : (-9223372036854775808 ≤ x.a ∧ x.a ≤ 9223372036854775807)) (ht : x.s.size ≤ 10000) :
    Calls Tryz.prog 13 #[.pointer (some ⟨sp, 0, none⟩), .pointer (some ⟨mp, 0, none⟩), .slice a l.length cap, .agg #[.string x.kind, .int .i64 x.a, .int .i64 x.b, .int .i64 x.c, .int .i64 x.d, .string x.s, .slice x.ka x.kl x.kc]] w fun e w' => e = .returned (.bool true) ∧ Yoked B w0 sp mp (m + 2000) a l C w' := by
  by_cases e0 : x.kind.toList = [112, 117, 116]
  · exact chained_put x w h hm ha ht e0
  · by_cases e1 : x.kind.toList = [119, 105, 112, 101]
    · exact chained_wipe x w h hm ha e1
    · by_cases e2 : x.kind.toList = [103, 101, 116]
      · exact chained_get x w h ha e2
      · by_cases e3 : x.kind.toList = [109, 111, 118, 101]
        · exact chained_move x w h hm e3
        · exact chained_read x w h e0 e1 e2 e3
end Go.Proofs.YtjegaljdindfaabGreatDoor
