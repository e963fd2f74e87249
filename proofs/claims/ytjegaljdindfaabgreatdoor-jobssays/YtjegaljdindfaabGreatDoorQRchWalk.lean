/-
The document's Put (G3): a range is gone over cluster by cluster.
The document's Move (G4).
The document's Walk (G1), and its Get (G3).
-/
import Derived.Test.YtjegaljdindfaabGreatDoorQRimLink
import Derived.Test.YtjegaljdindfaabGreatDoorQImgCreate
import Derived.Test.YtjegaljdindfaabGreatDoorQRchRead
import Derived.Test.YtjegaljdindfaabGreatDoorQActs4
namespace Go.Proofs.YtjegaljdindfaabGreatDoor
open Go.RowKit Go.Maps
attribute [local go_sem ↓] Go.wp_at_zero Go.wp_at_succ

structure RputAt (w1 : World) (sp : Nat) (xs : Nat → Qh) (s : SV) (m : Nat) (C : Int) (l : List Int) (op : SV → Pt → SV × Int) (fr n : Nat) (R : SV × Int) (k : Nat) (ys : Nat → Qh) (z : SV) (wr : World) : Prop where
  shelf : IsRshelf wr sp ys z (m + 10 * k)
  good : z.good C l
  go : goPts op z (ptsFrom fr n k) = R
  moved : Moved (fpQ xs s) w1 (fpQ ys z) wr
  le : k ≤ n

theorem RputAt.step {w1 wr W w2 : World} {sp m k fr n : Nat} {xs ys : Nat → Qh} {s z : SV} {C : Int} {l : List Int} {op : SV → Pt → SV × Int} {R : SV × Int} {e : Ending} (h : RputAt w1 sp xs s m C l op fr n R k ys z wr) (hb : Below wr.heap.size wr W) (hk : k < n) (hop : ∀ (s : SV) p, s.good C l → (op s p).1.good C l) (hd : RDid W sp ys z (m + 10 * k + 10) (op z (mkPt fr n k)) e w2) (h0 : (op z (mkPt fr n k)).2 = 0) :
    ∃ ys' z', RputAt w1 sp xs s m C l op fr n R (k + (mkPt fr n k).n) ys' z' w2 := by
  obtain ⟨ys', h1, h2, h3⟩ := hd
  have hp := mkPt_n (fr := fr) hk
  refine ⟨ys', (op z (mkPt fr n k)).1, ⟨h2.more (by omega), hop _ _ h.good, ?_, h.moved.trans ((Moved.of_below hb).trans h3), hp.2.2⟩⟩
  have := h.go
  rw [ptsFrom_cons hk, goPts_cons, if_pos h0] at this
  exact this

theorem RputAt.stop {w1 wr W w2 : World} {sp m k fr n M : Nat} {xs ys : Nat → Qh} {s z : SV} {C : Int} {l : List Int} {op : SV → Pt → SV × Int} {R : SV × Int} {e : Ending} (h : RputAt w1 sp xs s m C l op fr n R k ys z wr) (hb : Below wr.heap.size wr W) (hk : k < n) (hM : m + 10 * k + 10 ≤ M) (hd : RDid W sp ys z (m + 10 * k + 10) (op z (mkPt fr n k)) e w2) (h0 : (op z (mkPt fr n k)).2 ≠ 0) :
    R = op z (mkPt fr n k) ∧ RDid w1 sp xs s M R e w2 := by
  have hR : R = op z (mkPt fr n k) := by
    have := h.go
    rw [ptsFrom_cons hk, goPts_cons, if_neg h0] at this
    exact this.symm
  obtain ⟨ys', h1, h2, h3⟩ := hd
  rw [hR]
  exact ⟨rfl, ys', h1, h2.more hM, h.moved.trans ((Moved.of_below hb).trans h3)⟩

theorem RputAt.fin {w1 wr : World} {sp m k fr n M : Nat} {xs ys : Nat → Qh} {s z : SV} {C : Int} {l : List Int} {op : SV → Pt → SV × Int} {R : SV × Int} (h : RputAt w1 sp xs s m C l op fr n R k ys z wr) (hk : ¬ k < n) (hM : m + 10 * k ≤ M) : RDid w1 sp xs s M R (.returned (.int .i64 0)) wr := by
  have hR := h.go
  rw [ptsFrom_nil hk] at hR
  have hR' : R = (z, 0) := hR.symm
  rw [hR']
  exact ⟨ys, rfl, h.shelf.more hM, h.moved⟩

/- The numbers of a part. -/
theorem mkPt_int (f n k : Nat) (hk : k < n) : ((mkPt f n k).c : Int) = ((f : Int) + (k : Int)) / 4 ∧ ((mkPt f n k).f : Int) = ((f : Int) + (k : Int)) % 4 ∧ ((mkPt f n k).n : Int) = min (4 - ((f : Int) + (k : Int)) % 4) ((n : Int) - (k : Int)) ∧ (mkPt f n k).a = k := by
  refine ⟨?_, ?_, ?_, rfl⟩
  · show (((f + k) / 4 : Nat) : Int) = _; omega
  · show (((f + k) % 4 : Nat) : Int) = _; omega
  · show ((min (4 - (f + k) % 4) (n - k) : Nat) : Int) = _; omega

theorem chkF_pos {s : SV} {l : List Int} {fr n : Int} (hF : s.chkF l fr n ≠ 0) : 0 < s.chkF l fr n := by
  unfold SV.chkF at *
  split
  · decide
  · split
    · decide
    · next h1 h2 => rw [if_neg h1, if_neg h2] at hF; exact absurd rfl hF

theorem lay_pos (s : SV) (l : List Int) (c f : Nat) (t : ByteArray) : 0 ≤ (s.lay l c f t).2 := by
  unfold SV.lay
  split
  · simp
  · split
    · simp
    · split
      · exact writeF_pos _ _ _ _
      · exact fillF_pos _ _ _

theorem wipePt_pos (l : List Int) (s : SV) (p : Pt) : 0 ≤ (SV.wipePt l s p).2 := by
  unfold SV.wipePt
  split
  · simp
  · split
    · simp
    · split
      · exact clearF_pos _ _
      · split
        · exact Int.le_refl _
        · exact lay_pos _ _ _ _ _

set_option maxRecDepth 100000 in
set_option maxHeartbeats 4000000 in
theorem rput_any {sp m cap C : Nat} {xs : Nat → Qh} {s : SV} {a : Option Addr} (l : List Int) (fr : Int) (t : ByteArray) (w : World) (h : IsRshelf w sp xs s m) (hl : Nums w a l) (hg : s.good (C : Int) l) (h5 : l.length ≤ 100) (hC : C ≤ 40) (ha : Apart a (fpQ xs s)) (hm : m + 3000 < 1000000000) (hfr : -9223372036854775808 ≤ fr ∧ fr ≤ 9223372036854775807) (ht : t.size ≤ 10000) :
    Calls Tryz.prog 36 #[.pointer (some ⟨sp, 0, none⟩), .slice a l.length cap, .int .i64 fr, .string t, .bool false] w (RDid w sp xs s (m + 2000) (s.put l fr t)) := by
  by_cases h16 : t.size % 16 = 0
  · have g16 : decide (0 < (t.size : Int) % 16) = false := decide_eq_false (by omega)
    obtain ⟨n, hn⟩ : ∃ n : Nat, t.size = n * 16 := ⟨t.size / 16, by omega⟩
    have hq16 : (t.size : Int) / 16 = (n : Int) := by omega
    have hn2 : t.size / 16 = n := by omega
    have HCK := toHid (rwithin_any (cap := cap) l fr (n : Int) w h hl hg (by omega) hfr)
    by_cases hF : s.chkF l fr (n : Int) = 0
    · obtain ⟨h0, n0, n1, n2⟩ := SV.chk_ok hg hF
      obtain ⟨f, rfl⟩ : ∃ f : Nat, fr = (f : Int) := ⟨fr.toNat, by omega⟩
      have HR : Hid (s.put l (f : Int) t = goPts (SV.putPt l t) s (ptsFrom f n 0)) := by unfold Hid SV.put; rw [if_pos h16, hn2, if_pos hF]; rfl
      rw [hF] at HCK
      generalize s.put l (f : Int) t = R at HR ⊢
      have HOP : Hid (∀ (s : SV) p, s.good (C : Int) l → (SV.putPt l t s p).1.good (C : Int) l) := fun s p hg => hg.putPt l t p
      have HST : Hid (∀ w1 : World, Below w.heap.size w w1 → RputAt w1 sp xs s m (C : Int) l (SV.putPt l t) f n R 0 xs s w1) := fun w1 hb => ⟨h.below hb, hg, HR.out.symm, Moved.refl _ _, Nat.zero_le _⟩
      have HLA : Hid (∀ (w1 wr : World) (ys : Nat → Qh) (z : SV) (k : Nat), k < n → Below w.heap.size w w1 → RputAt w1 sp xs s m (C : Int) l (SV.putPt l t) f n R k ys z wr →
          Calls Tryz.prog 99 #[.pointer (some ⟨sp, 0, none⟩), .slice a l.length cap, .int .i64 ((mkPt f n k).c : Int), .int .i64 ((mkPt f n k).f : Int), .string (secB t k (mkPt f n k).n)] wr (RDid wr sp ys z (m + 10 * k + 10) (SV.putPt l t z (mkPt f n k)))) := fun w1 wr ys z k hk hb1 hp => by
        have hfi := mkPt_fits (C := C) hk (by omega : f + n ≤ 4 * C)
        have hnu : Nums wr a l := (hl.below hb1).moved hp.moved (fun g o e => ha g o e)
        have hsz : (secB t k (mkPt f n k).n).size = (mkPt f n k).n * 16 := secB_size (by have := (mkPt_n (fr := f) hk).2.2; omega)
        exact rlay_any l (mkPt f n k).c (mkPt f n k).f (secB t k (mkPt f n k).n) wr hp.shelf hnu hp.good h0 h5 (by omega) (by rw [hsz]; have := hfi.n4; omega) (by have := hfi.c; omega)
      have HIN : Hid (∀ k, k < n → ((mkPt f n k).c : Int) = ((f : Int) + (k : Int)) / 4 ∧ ((mkPt f n k).f : Int) = ((f : Int) + (k : Int)) % 4 ∧ ((mkPt f n k).n : Int) = min (4 - ((f : Int) + (k : Int)) % 4) ((n : Int) - (k : Int)) ∧ (mkPt f n k).a = k) := fun k hk => mkPt_int f n k hk
      have HPN : Hid (∀ k, k < n → 1 ≤ (mkPt f n k).n ∧ (mkPt f n k).f + (mkPt f n k).n ≤ 4 ∧ k + (mkPt f n k).n ≤ n) := fun k hk => mkPt_n hk
      have HFR : Hid (∀ (w1 w' : World) (R : SV × Int) (e : Ending), Below w.heap.size w w1 → RDid w1 sp xs s (m + 2000) R e w' → RDid w sp xs s (m + 2000) R e w') := fun w1 w' R e hb hd => RDid.from hd hb
      generalize hq : l.length = q at HCK HLA ⊢
      clear h hl hg ha hF hq h16 hn2
      have hfn : f + n ≤ 1000 := by omega
      go_enter Tryz.func36, Tryz.ntmps36
      go_wp2_with fail
      refine HCK.out.mono ?_
      rintro e w1 ⟨rfl, hb1⟩
      have HB1 := toHid hb1
      have HS1 := toHid (HST.out w1 hb1)
      clear hb1 HCK HST
      go_wp2
      go_loopw [13] (fun i wr => ∃ (k : Nat) (ys : Nat → Qh) (z : SV), i = .int .i64 (k : Int) ∧ RputAt w1 sp xs s m (C : Int) l (SV.putPt l t) f n R k ys z wr) (fun i _ => n - (intOf i).toNat)
      case atStart => exact ⟨0, xs, s, rfl, HS1.out⟩
      case round =>
        obtain ⟨k, ys, z, rfl, hp⟩ := hrel
        have hkn := hp.le
        by_cases hlt : k < n
        · have HLK := toHid (HLA.out w1 wr ys z k hlt HB1.out hp)
          obtain ⟨i1, i2, i3, _⟩ := HIN.out k hlt
          obtain ⟨p1, p2, p3⟩ := HPN.out k hlt
          rw [i1, i2] at HLK
          have HI3 := toHid i3
          have HGO : Hid (∀ e w2, RDid wr sp ys z (m + 10 * k + 10) (SV.putPt l t z (mkPt f n k)) e w2 → (SV.putPt l t z (mkPt f n k)).2 = 0 → ∃ ys' z', RputAt w1 sp xs s m (C : Int) l (SV.putPt l t) f n R (k + (mkPt f n k).n) ys' z' w2) := fun e w2 hd h0 => hp.step (Below.refl _ _) hlt HOP.out hd h0
          have HSP : Hid (∀ e w2, RDid wr sp ys z (m + 10 * k + 10) (SV.putPt l t z (mkPt f n k)) e w2 → (SV.putPt l t z (mkPt f n k)).2 ≠ 0 → R = SV.putPt l t z (mkPt f n k) ∧ RDid w1 sp xs s (m + 2000) R e w2) := fun e w2 hd h0 => hp.stop (Below.refl _ _) hlt (by omega) hd h0
          have HPO : Hid (0 ≤ (SV.putPt l t z (mkPt f n k)).2) := lay_pos _ _ _ _ _
          clear hp HLA HIN HPN i1 i2 i3
          generalize SV.putPt l t z (mkPt f n k) = Z at HLK HGO HSP HPO
          generalize hpn : (mkPt f n k).n = pn at HLK HGO HI3 p1 p2 p3
          clear hpn
          have hat0 : (0 : Int) ≤ (f : Int) + (k : Int) := by omega
          have k1 : IntKind.i64.wrap ((f : Int) + (k : Int)) = (f : Int) + (k : Int) := IntWalk.i64_in _ (by omega)
          have k2 : (0 : Int) ≤ ((f : Int) + (k : Int)) % 4 := by omega
          have k3 : ((f : Int) + (k : Int)) % 4 < 4 := by omega
          have k4 : min (4 - ((f : Int) + (k : Int)) % 4) ((n : Int) - (k : Int)) = (pn : Int) := HI3.out.symm
          have k5 : IntKind.i64.wrap (16 * (k : Int)) = 16 * (k : Int) := IntWalk.i64_in _ (by omega)
          have k6 : IntKind.i64.wrap ((k : Int) + (pn : Int)) = (k : Int) + (pn : Int) := IntWalk.i64_in _ (by omega)
          have k7 : IntKind.i64.wrap (16 * ((k : Int) + (pn : Int))) = 16 * ((k : Int) + (pn : Int)) := IntWalk.i64_in _ (by omega)
          have k8 : (0 : Int) ≤ 16 * (k : Int) := by omega
          have k9 : 16 * (k : Int) ≤ 16 * ((k : Int) + (pn : Int)) := by omega
          have k10 : 16 * ((k : Int) + (pn : Int)) ≤ (t.size : Int) := by omega
          have k11 : (16 * (k : Int)).toNat = 16 * k := by omega
          have k12 : (16 * ((k : Int) + (pn : Int))).toNat = 16 * (k + pn) := by omega
          have k13 : (0 : Int) ≤ 16 * ((k : Int) + (pn : Int)) := by omega
          have k14 : (k : Int) ≤ (k : Int) + (pn : Int) := by omega
          have hsb : secB t k pn = t.extract (16 * k) (16 * (k + pn)) := by unfold secB; rw [show k * 16 = 16 * k by omega, show (k + pn) * 16 = 16 * (k + pn) by omega]
          rw [hsb] at HLK
          clear hsb hn hq16
          go_wp2_with fail
          refine HLK.out.mono ?_
          rintro e w2 hd
          have hd2 := hd
          obtain ⟨ys', rfl, _, _⟩ := hd2
          rw [retN_is]
          by_cases hz : Z.2 = 0
          · obtain ⟨ys2, z2, hp2⟩ := HGO.out _ _ hd hz
            have HP2 := toHid hp2
            rw [hz]
            clear hd hp2 hz
            go_wp2
            go_roundw
            case rel =>
              have fin : ∃ (k1 : Nat) (y1 : Nat → Qh) (z1 : SV), Value.int .i64 ((k : Int) + (pn : Int)) = .int .i64 (k1 : Int) ∧ RputAt w1 sp xs s m (C : Int) l (SV.putPt l t) f n R k1 y1 z1 w2 := ⟨k + pn, ys2, z2, by go_num, HP2.out⟩
              first | exact fin | ((repeat apply Exists.intro); exact ⟨fin, rfl⟩)
            case measure => simp [intOf]; omega
          · obtain ⟨hRZ, hsd⟩ := HSP.out _ _ hd hz
            have HSD := toHid (HFR.out _ _ _ _ HB1.out hsd)
            have hpz : 0 < Z.2 := by have := HPO.out; omega
            clear hd hsd hz hRZ HGO HSP HPO HLK
            generalize Z.2 = fz at hpz HSD ⊢
            have gz : decide (0 < fz) = true := decide_eq_true hpz
            clear hpz
            go_wp2
            go_ret
            exact HSD.out
        · have HD := toHid (HFR.out _ _ _ _ HB1.out (hp.fin hlt (M := m + 2000) (by omega)))
          have gk : decide ((k : Int) < (n : Int)) = false := decide_eq_false (by omega)
          clear hp
          go_wp2
          go_ret
          exact HD.out
    · have HR : Hid (s.put l fr t = (s, s.chkF l fr (n : Int))) := by unfold Hid SV.put; rw [if_pos h16, hn2, if_neg hF]
      have HSM : Hid (∀ W : World, Below w.heap.size w W → RDid w sp xs s (m + 2000) (s, s.chkF l fr (n : Int)) (.returned (.int .i64 (s.chkF l fr (n : Int)))) W) := fun W hb => RDid.same (h.more (by omega)) hb
      have hpos := chkF_pos hF
      rw [HR.out]
      generalize s.chkF l fr (n : Int) = F at HCK HSM hF hpos ⊢
      have gF : decide (0 < F) = true := decide_eq_true hpos
      generalize l.length = q at HCK ⊢
      clear h hl hg ha HR hF hn hn2 h16 hpos
      go_enter Tryz.func36, Tryz.ntmps36
      go_wp2_with fail
      refine HCK.out.mono ?_
      rintro e wA ⟨rfl, hbA⟩
      have HD := toHid (HSM.out _ hbA)
      clear hbA HCK HSM
      go_wp2
      go_ret
      exact HD.out
  · have g16 : decide (0 < (t.size : Int) % 16) = true := decide_eq_true (by omega)
    have HR : Hid (s.put l fr t = (s, 1)) := by unfold Hid SV.put; rw [if_neg h16]
    have HD : Hid (RDid w sp xs s (m + 2000) (s, 1) (.returned (.int .i64 1)) w) := RDid.same (h.more (by omega)) (Below.refl _ _)
    rw [HR.out]
    generalize l.length = q
    clear h hl hg ha HR h16
    go_enter Tryz.func36, Tryz.ntmps36
    go_wp2
    go_ret
    exact HD.out
end Go.Proofs.YtjegaljdindfaabGreatDoor

namespace Go.Proofs.YtjegaljdindfaabGreatDoor
open Go.RowKit Go.Maps
attribute [local go_sem ↓] Go.wp_at_zero Go.wp_at_succ

theorem text_eq (t u : ByteArray) : (t.toList == u.toList) = decide (t = u) := by
  by_cases h : t = u
  · rw [h, decide_eq_true rfl]; simp
  · rw [decide_eq_false h]
    have : t.toList ≠ u.toList := fun e => h (by
      rw [ByteArray.toList_eq, ByteArray.toList_eq] at e
      rw [← bytesOf_data t, e, bytesOf_data])
    simpa using this

set_option maxRecDepth 100000 in
set_option maxHeartbeats 2000000 in
theorem rmove_any {sp m : Nat} {xs : Nat → Qh} {s : SV} {v : IV} (n c : Int) (t : ByteArray) (w : World) (h : IsRshelf w sp xs s m) (hf : s.file n = some v) (ht : t.size = 64) (hm : m + 10 < 1000000000) :
    Calls Tryz.prog 42 #[.pointer (some ⟨sp, 0, none⟩), .int .i64 n, .int .i64 c, .string t] w (RDid w sp xs s (m + 10) (s.move n c t)) := by
  obtain ⟨n0, n5, _⟩ := SV.file_of hf
  obtain ⟨k, rfl⟩ : ∃ k : Nat, n = (k : Int) := ⟨n.toNat, by omega⟩
  have hkt : ((k : Int)).toNat = k := by omega
  obtain ⟨hi, hok⟩ := h.imgF hf
  have hcf := h.cellF hf
  rw [hkt] at hi hcf
  have HMV : Hid (s.move (k : Int) c t = if t = noughtB 64 then (s.upd k (v.clear c), v.clearF c) else if (v.entE c).1 = 2 then (s.upd k (v.write c 0 t), v.writeF c 0 t) else (s.upd k (v.fill c t), v.fillF c t)) := by unfold Hid SV.move; rw [hf]; rfl
  have HNO : Hid (Calls Tryz.prog 38 #[.int .i64 64] w fun e w' => e = .returned (.string (noughtB 64)) ∧ Below w.heap.size w w') := noughtsN_any 64 w (by decide)
  have HTH : Hid (∀ W : World, Below w.heap.size w W → Calls Tryz.prog 85 #[.pointer (some ⟨(xs k).p, 0, none⟩), .int .i64 c] W fun e w' => e = .returned (.bool (v.there c)) ∧ w' = W) := fun W hb => there_rim c W (hi.below hb) hok.len
  have HCL : Hid (∀ W : World, Below w.heap.size w W → Calls Tryz.prog 30 #[.pointer (some ⟨(xs k).p, 0, none⟩), .int .i64 c] W (RDid w sp xs s (m + 10) (s.upd k (v.clear c), v.clearF c))) := fun W hb => by
    have := (rclear_s c W (h.below hb) hf hm).mono fun e w' hd => RDid.from hd hb
    rw [hkt] at this; exact this
  have HWR : Hid (∀ W : World, Below w.heap.size w W → Calls Tryz.prog 106 #[.pointer (some ⟨(xs k).p, 0, none⟩), .int .i64 c, .int .i64 0, .string t] W (RDid w sp xs s (m + 10) (s.upd k (v.write c 0 t), v.writeF c 0 t))) := fun W hb => by
    have := (rwrite_s c 0 t W (h.below hb) hf hm (by omega) (by decide)).mono fun e w' hd => RDid.from hd hb
    rw [hkt] at this; exact this
  have HFL : Hid (∀ W : World, Below w.heap.size w W → Calls Tryz.prog 32 #[.pointer (some ⟨(xs k).p, 0, none⟩), .int .i64 c, .string t] W (RDid w sp xs s (m + 10) (s.upd k (v.fill c t), v.fillF c t))) := fun W hb => by
    have := (rfill_s c t W (h.below hb) hf hm).mono fun e w' hd => RDid.from hd hb
    rw [hkt] at this; exact this
  have HSM : Hid (∀ W : World, Below w.heap.size w W → RDid w sp xs s (m + 10) (s, 1) (.returned (.int .i64 1)) W) := fun W hb => RDid.same (h.more (by omega)) hb
  have HNT : Hid (v.there c = false → (s.upd k (v.fill c t), v.fillF c t) = (s, 1)) := fun hx => by
    have e1 : v.fill c t = v := by unfold IV.fill; rw [hx, if_neg (by simp)]
    have e2 : v.fillF c t = 1 := by unfold IV.fillF; rw [hx, if_neg (by simp)]
    have e3 : s k = some v := by have := (SV.file_of hf).2.2; rw [hkt] at this; exact this
    rw [e1, e2]
    congr 1
    funext j
    unfold SV.upd
    split
    · next hj => rw [hj, e3]
    · rfl
  have HET : Hid (v.there c = true → ∃ (cn g2 cap2 : Nat), c = (cn : Int) ∧ cn < v.t.length ∧ ∀ W : World, Below w.heap.size w W → W.cell? ⟨(xs k).p, 4, none⟩ = some (.slice (some ⟨g2, 0, none⟩) v.t.length cap2) ∧ W.cell? ⟨g2, cn * 2, none⟩ = some (.int .i64 (v.entE c).1)) := fun hx => by
    obtain ⟨t0, t1⟩ := IV.there_of hx
    obtain ⟨cn, rfl⟩ : ∃ cn : Nat, c = (cn : Int) := ⟨c.toNat, by omega⟩
    obtain ⟨g2, cap2, hv2, hg2, e0, _⟩ := hi.entAt (c := cn) (by omega)
    refine ⟨cn, g2, cap2, rfl, by omega, fun W hb => ?_⟩
    have e4 := (hi.below hb).cells.2.2.2.2.1
    rw [hv2] at e4
    refine ⟨e4, ?_⟩
    have hent : (v.entE (cn : Int)).1 = (v.t.getD cn (0, 0)).1 := by unfold IV.entE; rw [hx, if_pos rfl]; rfl
    rw [hent, hb.cell (p := ⟨g2, cn * 2, none⟩) hg2]
    exact e0
  have HEN : Hid (v.there c = false → (v.entE c).1 = 0) := fun hx => by unfold IV.entE; rw [hx]; rfl
  have k0 : (0 : Int) ≤ (k : Int) := by omega
  have k1 : (k : Int) < 5 := by omega
  have hteq := text_eq t (noughtB 64)
  generalize s.move (k : Int) c t = R at HMV ⊢
  clear h hf hi hok ht
  generalize (xs k).p = xp at hcf HTH HCL HWR HFL HET
  by_cases hz : t = noughtB 64
  · have HR : Hid (R = (s.upd k (v.clear c), v.clearF c)) := by unfold Hid; rw [HMV.out, if_pos hz]
    rw [decide_eq_true hz] at hteq
    rw [← HR.out] at HCL
    generalize noughtB 64 = NB at hteq HNO
    clear hz HMV HTH HWR HFL HSM HNT HET HEN
    go_enter Tryz.func42, Tryz.ntmps42
    go_wp2_with fail
    refine HNO.out.mono ?_
    rintro e w1 ⟨rfl, hb1⟩
    have HC1 := toHid (HCL.out _ hb1)
    clear hb1 HCL
    go_wp2_with fail
    refine HC1.out.mono ?_
    rintro e w2 ⟨xs', rfl, h2, h3⟩
    have HD : Hid (RDid w sp xs s (m + 10) R (.returned (.int .i64 R.2)) w2) := ⟨xs', rfl, h2, h3⟩
    clear h2 h3
    rw [retN_is]
    go_wp2
    go_ret
    exact HD.out
  · rw [decide_eq_false hz] at hteq
    have HM2 : Hid (R = if (v.entE c).1 = 2 then (s.upd k (v.write c 0 t), v.writeF c 0 t) else (s.upd k (v.fill c t), v.fillF c t)) := by unfold Hid; rw [HMV.out, if_neg hz]
    generalize noughtB 64 = NB at hteq HNO
    clear hz HMV HCL
    cases hth : v.there c with
    | false =>
      have HR : Hid (R = (s, 1)) := by
        unfold Hid
        rw [HM2.out, if_neg (by rw [HEN.out hth]; decide), HNT.out hth]
      rw [hth] at HTH
      rw [← HR.out] at HSM
      clear hth HM2 HNT HET HEN HWR HFL
      go_enter Tryz.func42, Tryz.ntmps42
      go_wp2_with fail
      refine HNO.out.mono ?_
      rintro e w1 ⟨rfl, hb1⟩
      have HB1 := toHid hb1
      clear hb1
      go_wp2_with fail
      refine (HTH.out _ HB1.out).mono ?_
      rintro e w' ⟨rfl, hw⟩
      have hw' := hw.symm
      subst hw'
      clear hw
      have HD := toHid (HSM.out _ HB1.out)
      go_wp2
      go_ret
      exact HD.out
    | true =>
      obtain ⟨cn, g2, cap2, rfl, hcl, hcells⟩ := HET.out hth
      have HCC := toHid hcells
      rw [hth] at HTH
      have q0 : (0 : Int) ≤ (cn : Int) := by omega
      have q1 : (cn : Int) < (v.t.length : Int) := by omega
      have q2 : ((cn : Int)).toNat = cn := by omega
      clear hth HNT HET HEN hcells HSM
      generalize (v.entE (cn : Int)).1 = y at HM2 HCC
      generalize v.t.length = tl at q1 HCC hcl
      by_cases hy : y = 2
      · have HR : Hid (R = (s.upd k (v.write (cn : Int) 0 t), v.writeF (cn : Int) 0 t)) := by unfold Hid; rw [HM2.out, if_pos hy]
        have g1 : (y == 2) = true := by simpa using hy
        rw [← HR.out] at HWR
        clear HM2 HFL hy
        go_enter Tryz.func42, Tryz.ntmps42
        go_wp2_with fail
        refine HNO.out.mono ?_
        rintro e w1 ⟨rfl, hb1⟩
        have HB1 := toHid hb1
        obtain ⟨d1, d2⟩ := HCC.out w1 hb1
        clear hb1
        go_wp2_with fail
        refine (HTH.out _ HB1.out).mono ?_
        rintro e w' ⟨rfl, hw⟩
        have hw' := hw.symm
        subst hw'
        clear hw
        have HW2 := toHid (HWR.out _ HB1.out)
        clear HWR
        go_wp2_with fail
        refine HW2.out.mono ?_
        rintro e w3 ⟨xs', rfl, h2, h3⟩
        have HD : Hid (RDid w sp xs s (m + 10) R (.returned (.int .i64 R.2)) w3) := ⟨xs', rfl, h2, h3⟩
        clear h2 h3 d1 d2
        rw [retN_is]
        go_wp2
        go_ret
        exact HD.out
      · have HR : Hid (R = (s.upd k (v.fill (cn : Int) t), v.fillF (cn : Int) t)) := by unfold Hid; rw [HM2.out, if_neg hy]
        have g1 : (y == 2) = false := by simpa using hy
        rw [← HR.out] at HFL
        clear HM2 HWR hy
        go_enter Tryz.func42, Tryz.ntmps42
        go_wp2_with fail
        refine HNO.out.mono ?_
        rintro e w1 ⟨rfl, hb1⟩
        have HB1 := toHid hb1
        obtain ⟨d1, d2⟩ := HCC.out w1 hb1
        clear hb1
        go_wp2_with fail
        refine (HTH.out _ HB1.out).mono ?_
        rintro e w' ⟨rfl, hw⟩
        have hw' := hw.symm
        subst hw'
        clear hw
        have HW2 := toHid (HFL.out _ HB1.out)
        clear HFL
        go_wp2_with fail
        refine HW2.out.mono ?_
        rintro e w3 ⟨xs', rfl, h2, h3⟩
        have HD : Hid (RDid w sp xs s (m + 10) R (.returned (.int .i64 R.2)) w3) := ⟨xs', rfl, h2, h3⟩
        clear h2 h3 d1 d2
        rw [retN_is]
        go_wp2
        go_ret
        exact HD.out
end Go.Proofs.YtjegaljdindfaabGreatDoor

namespace Go.Proofs.YtjegaljdindfaabGreatDoor
open Go.RowKit Go.Maps
attribute [local go_sem ↓] Go.wp_at_zero Go.wp_at_succ

set_option maxRecDepth 100000 in
set_option maxHeartbeats 2000000 in
theorem rwalk_any {sp m : Nat} {xs : Nat → Qh} {s : SV} (root : Int) (w : World) (h : IsRshelf w sp xs s m) :
    Calls Tryz.prog 10 #[.pointer (some ⟨sp, 0, none⟩), .int .i64 root] w fun e w' =>
      ∃ (a : Option Addr) (cap : Nat), e = .returned (.tuple #[.slice a (s.walk root).1.length cap, .int .i64 (s.walk root).2]) ∧ Nums w' a (s.walk root).1 ∧ (∀ g o, a = some ⟨g, o, none⟩ → w.heap.size ≤ g ∧ (s.walk root).1.length ≤ cap) ∧ Below w.heap.size w w' := by
  obtain ⟨i1, hi1, hx0, hx1, hx2⟩ := info_parts info_int
  have HCE : Hid (∀ (i : Nat) (W : World), i < 5 → Below w.heap.size w W → W.cell? ⟨sp, i, none⟩ = some (ptrQ (xs i) (s i))) := fun i W hi hb => (h.below hb).cell hi
  have HHD : Hid (∀ (n : Int) (v : IV) (W : World), s.file n = some v → Below w.heap.size w W → ∃ k : Nat, n = (k : Int) ∧ k < 5 ∧ W.cell? ⟨sp, k, none⟩ = some (.pointer (some ⟨(xs k).p, 0, none⟩)) ∧ W.cell? ⟨(xs k).p, 1, none⟩ = some (.int .i64 v.h.c) ∧ W.cell? ⟨(xs k).p, 3, none⟩ = some (.int .i64 v.h.b)) := fun n v W hf hb => by
    obtain ⟨n0, n5, _⟩ := SV.file_of hf
    have hk : n = (n.toNat : Int) := by omega
    obtain ⟨i1, _⟩ := (h.below hb).imgF hf
    exact ⟨n.toNat, hk, by omega, (h.below hb).cellF hf, i1.cells.2.1, i1.cells.2.2.2.1⟩
  have HST : Hid (Walks w s root (s.walk root) [] root none 0 w) := ⟨World.ownsRow_nil _ _ _ _, rfl, Nat.zero_le _, .inl rfl, Below.refl _ _⟩
  generalize s.walk root = R at HST ⊢
  clear h
  go_enter Tryz.func10, Tryz.ntmps10
  go_wp2
  go_loopw [6, 7] (fun u i wr => ∃ (l : List Int) (n : Int) (a : Option Addr) (cap : Nat), u = .slice a l.length cap ∧ i = .int .i64 n ∧ Walks w s root R l n a cap wr) (fun u _ _ => 6 - sliceLen u)
  case atStart => exact ⟨[], root, none, 0, rfl, rfl, HST.out⟩
  case round =>
    obtain ⟨l, n, a, cap, rfl, rfl, hw⟩ := hrel
    have hl5 := hw.len
    obtain ⟨q, hq⟩ : ∃ q, 6 - l.length = q + 1 := ⟨5 - l.length, by omega⟩
    have hgo := hw.go
    rw [hq] at hgo
    by_cases hn : n = -1
    · have g0 : (n != -1) = false := by simpa using hn
      rw [hn, SV.walk_end] at hgo
      have HR := toHid hgo
      have HN : Hid (Nums wr a l ∧ ∀ g o, a = some ⟨g, o, none⟩ → w.heap.size ≤ g ∧ l.length ≤ cap) := ⟨nums_owns hw.own rfl, fun g o e => by
        subst e
        refine ⟨?_, owns_cap hw.own⟩
        rcases hw.own.2 with ⟨h0, _⟩ | ⟨g', cap', cur, hv, hb, _⟩
        · cases h0
        · cases hv; exact hb⟩
      have HB := toHid hw.bel
      clear hw hgo hn
      go_wp2
      go_ret2
      exact ⟨a, cap, by rw [← HR.out]; rfl, by rw [← HR.out]; exact HN.out.1, by rw [← HR.out]; exact HN.out.2, HB.out⟩
    · have g0 : (n != -1) = true := by simpa using hn
      cases hf : s.file n with
      | none =>
        rw [SV.walk_none hn hf] at hgo
        have HR := toHid hgo
        have HB := toHid hw.bel
        by_cases h0 : n < 0
        · have g1 : decide (n < 0) = true := decide_eq_true h0
          clear hw hgo hn hf
          go_wp2
          go_ret2
          first | exact ⟨none, 0, by rw [← HR.out]; rfl, by rw [← HR.out]; exact Nums.nil _ _, (fun g o e => by cases e), HB.out⟩ | exact ⟨none, ⟨0, by rw [← HR.out]; rfl⟩, by rw [← HR.out]; exact Nums.nil _ _, (fun g o e => by cases e), HB.out⟩
        · have g1 : decide (n < 0) = false := decide_eq_false h0
          by_cases h1 : 5 ≤ n
          · have g2 : decide (5 ≤ n) = true := decide_eq_true h1
            clear hw hgo hn hf
            go_wp2
            go_ret2
            first | exact ⟨none, 0, by rw [← HR.out]; rfl, by rw [← HR.out]; exact Nums.nil _ _, (fun g o e => by cases e), HB.out⟩ | exact ⟨none, ⟨0, by rw [← HR.out]; rfl⟩, by rw [← HR.out]; exact Nums.nil _ _, (fun g o e => by cases e), HB.out⟩
          · have g2 : decide (5 ≤ n) = false := decide_eq_false h1
            obtain ⟨k, rfl⟩ : ∃ k : Nat, n = (k : Int) := ⟨n.toNat, by omega⟩
            have hc := HCE.out k wr (by omega) hw.bel
            rw [SV.file_at (by omega)] at hf
            rw [hf] at hc
            unfold ptrQ at hc
            have k0 : (0 : Int) ≤ (k : Int) := by omega
            have k1 : (k : Int) < 5 := by omega
            have k2 : ((k : Int)).toNat = k := by omega
            clear hw hgo hn hf
            go_wp2
            go_ret2
            first | exact ⟨none, 0, by rw [← HR.out]; rfl, by rw [← HR.out]; exact Nums.nil _ _, (fun g o e => by cases e), HB.out⟩ | exact ⟨none, ⟨0, by rw [← HR.out]; rfl⟩, by rw [← HR.out]; exact Nums.nil _ _, (fun g o e => by cases e), HB.out⟩
      | some v =>
        obtain ⟨nk, rfl, n5, hc0, hc1, hc3⟩ := HHD.out n v wr hf hw.bel
        have g1 : decide ((nk : Int) < 0) = false := by simp
        have g2 : decide (5 ≤ (nk : Int)) = false := decide_eq_false (by omega)
        have k0 : (0 : Int) ≤ (nk : Int) := by omega
        have k1 : (nk : Int) < 5 := by omega
        have k2 : ((nk : Int)).toNat = nk := by omega
        by_cases h5 : l.length = 5
        · have g3 : ((l.length : Int) == 5) = true := by simp; omega
          rw [SV.walk_long hn hf h5] at hgo
          have HR := toHid hgo
          have HB := toHid hw.bel
          clear hw hgo hn hf
          go_wp2
          go_ret2
          first | exact ⟨none, 0, by rw [← HR.out]; rfl, by rw [← HR.out]; exact Nums.nil _ _, (fun g o e => by cases e), HB.out⟩ | exact ⟨none, ⟨0, by rw [← HR.out]; rfl⟩, by rw [← HR.out]; exact Nums.nil _ _, (fun g o e => by cases e), HB.out⟩
        · have g3 : ((l.length : Int) == 5) = false := by simp; omega
          obtain ⟨vr, hr⟩ : ∃ vr, s.file root = some vr := by
            rcases hw.root with e | e
            · rw [← e]; exact ⟨v, hf⟩
            · exact e
          have hrc : s.rootC root = vr.h.c := by unfold SV.rootC; rw [hr]
          have HB := toHid hw.bel
          obtain ⟨rk, hrk, r5, hd0, hd1, _⟩ := HHD.out root vr wr hr hw.bel
          have r0 : (0 : Int) ≤ (rk : Int) := by omega
          have r1 : (rk : Int) < 5 := by omega
          have r2 : ((rk : Int)).toNat = rk := by omega
          subst hrk
          have HBN : Hid (∀ W : World, Below w.heap.size w W → W.cell? ⟨sp, nk, none⟩ = some (.pointer (some ⟨(xs nk).p, 0, none⟩)) ∧ W.cell? ⟨(xs nk).p, 3, none⟩ = some (.int .i64 v.h.b)) := fun W hb => by
            obtain ⟨k', e1, _, e2, _, e3⟩ := HHD.out (nk : Int) v W hf hb
            have : nk = k' := by omega
            subst this; exact ⟨e2, e3⟩
          have HDR : Hid (Below w.heap.size w wr.drew) := HB.out.drew
          have HOD : Hid (wr.drew.ownsRow w.heap.size 3 1 (.slice a l.length cap) l.length (numV l)) := hw.own
          generalize (xs nk).p = xn at hc0 hc1 hc3 HBN
          generalize (xs rk).p = xr at hd0 hd1
          by_cases hc : v.h.c = vr.h.c
          · have hcb : (v.h.c != vr.h.c) = false := by simpa using hc
            rw [SV.walk_on hn hf h5 (by rw [hrc]; exact hc)] at hgo
            have HGO := toHid hgo
            have HVR : Hid (∃ v, s.file (rk : Int) = some v) := ⟨vr, hr⟩
            have hl4 : l.length ≤ 4 := by omega
            have HQ := toHid hq
            have HM : Hid (l.length + 1 ≤ maxLen) := by unfold Hid maxLen; omega
            clear hw hgo hf hr HHD HCE HST hq hn hc
            go_wp2
            go_region
            generalize wr.drew = wH at HDR HOD ⊢
            have HO1 : Hid ((wH.alloc (.cells #[.int .i64 (nk : Int)] 3)).ownsRow w.heap.size 3 1 (.slice a l.length cap) l.length (numV l)) := HOD.out.alloc _
            have HZ1 : Hid ((wH.alloc (.cells #[.int .i64 (nk : Int)] 3)).heap.size = wH.heap.size + 1) := by unfold Hid; simp
            have HB1 : Hid (w.heap.size ≤ (wH.alloc (.cells #[.int .i64 (nk : Int)] 3)).heap.size) := by unfold Hid; have := HDR.out.size; rw [HZ1.out]; omega
            have HN1 : Hid (∀ j y, ([.int .i64 (nk : Int)] : List Value)[j]? = some y → (wH.alloc (.cells #[.int .i64 (nk : Int)] 3)).cell? ((⟨wH.heap.size, 0, none⟩ : Addr).add j) = some y) := cell_one_new _ _ _
            have HBA : Hid (Below w.heap.size w (wH.alloc (.cells #[.int .i64 (nk : Int)] 3))) := HDR.out.alloc HDR.out.size _
            go_wp2_with (at_builtin; refine wpList_append_lies _ (by rfl) _ _ 31 (by rfl) w.heap.size 3 i1 (.int .i64 0) 1 8 Tryz.underlying31 hi1 hx0 hx1 hx2 rfl (by decide) (.slice a l.length cap) l.length (numV l) (by rfl) HO1.out ⟨wH.heap.size, 0, none⟩ 1 1 [.int .i64 (nk : Int)] (by rfl) (by rfl) HN1.out (fun u hu => by simp at hu; subst hu; rfl) (by decide) HM.out (by omega) HB1.out (wH.heap.size + 1) HZ1.out ?_
                         intro g k w1 hown hgrow hat hlt
                         have HBF : Hid (Below w.heap.size w w1) := HBA.out.grown hgrow HB1.out (fun r e => (HO1.out.lt r e).1)
                         have HOF := toHid hown
                         have d3 := (HBN.out w1 HBF.out).1
                         have d4 := (HBN.out w1 HBF.out).2
                         clear hown hgrow hat hlt)
            have HWK : Hid (Walks w s (rk : Int) R (l ++ [(nk : Int)]) v.h.b (some ⟨g, 0, none⟩) k w1) := by
              have e1 : (l ++ [(nk : Int)]).length = l.length + 1 := by simp
              have e2 : numV (l ++ [(nk : Int)]) = numV l ++ [.int .i64 (nk : Int)] := by simp [numV]
              refine ⟨?_, ?_, by rw [e1]; omega, .inr HVR.out, HBF.out⟩
              · rw [e1, e2]; exact HOF.out
              · have := HQ.out
                rw [e1, show 6 - (l.length + 1) = q by omega]; exact HGO.out
            clear d3 d4
            go_roundw
            case rel =>
              have fin : ∃ (l1 : List Int) (n1 : Int) (a1 : Option Addr) (cap1 : Nat), Value.slice (some ⟨g, 0, none⟩) (l.length + 1) k = .slice a1 l1.length cap1 ∧ Value.int .i64 v.h.b = .int .i64 n1 ∧ Walks w s (rk : Int) R l1 n1 a1 cap1 w1 := ⟨l ++ [(nk : Int)], v.h.b, some ⟨g, 0, none⟩, k, by simp, rfl, HWK.out⟩
              first | exact fin | ((repeat apply Exists.intro); exact ⟨fin, rfl⟩)
            case measure => simp [sliceLen]; omega
          · have hcb : (v.h.c != vr.h.c) = true := by simpa using hc
            rw [SV.walk_other hn hf h5 (by rw [hrc]; exact hc)] at hgo
            have HR := toHid hgo
            clear hw hgo hf hr HHD HCE HST hq hn hc
            go_wp2
            go_region
            go_wp2
            go_ret2
            exact ⟨none, 0, by rw [← HR.out]; rfl, by rw [← HR.out]; exact Nums.nil _ _, (fun g o e => by cases e), HDR.out⟩

set_option maxRecDepth 100000 in
set_option maxHeartbeats 2000000 in
theorem rget_any {sp m cap C : Nat} {xs : Nat → Qh} {s : SV} {a : Option Addr} (l : List Int) (fr n : Int) (w : World) (h : IsRshelf w sp xs s m) (hl : Nums w a l) (hg : s.good (C : Int) l) (h5 : l.length ≤ 100) (hC : C ≤ 40) (hfr : -9223372036854775808 ≤ fr ∧ fr ≤ 9223372036854775807) :
    Calls Tryz.prog 40 #[.pointer (some ⟨sp, 0, none⟩), .slice a l.length cap, .int .i64 fr, .int .i64 n] w fun e w' => e = .returned (.tuple #[.string (s.getS l fr n), .int .i64 (s.chkF l fr n)]) ∧ Below w.heap.size w w' := by
  have HCK := toHid (rwithin_any (cap := cap) l fr n w h hl hg (by omega) hfr)
  by_cases hF : s.chkF l fr n = 0
  · obtain ⟨h0, n0, n1, n2⟩ := SV.chk_ok hg hF
    obtain ⟨f, rfl⟩ : ∃ f : Nat, fr = (f : Int) := ⟨fr.toNat, by omega⟩
    obtain ⟨k, rfl⟩ : ∃ k : Nat, n = (k : Int) := ⟨n.toNat, by omega⟩
    have HR : Hid (s.getS l (f : Int) (k : Int) = s.getTo l f k) := by unfold Hid SV.getS; rw [if_pos hF]; rfl
    rw [hF] at HCK ⊢
    have HGZ : Hid (∀ j, j ≤ k → (s.getTo l f j).size = j * 16) := fun j hj => SV.getTo_size hg h.ok h0 j (by omega)
    have HG0 : Hid (s.getTo l f 0 = bytesOf []) := rfl
    have HGS : Hid (∀ j, s.getTo l f (j + 1) = s.getTo l f j ++ (s.read l (((f + j) / 4 : Nat) : Int)).1.extract ((f + j) % 4 * 16) (((f + j) % 4 + 1) * 16)) := fun j => rfl
    have HRD : Hid (∀ (j : Nat) (W : World), j < k → Below w.heap.size w W → Calls Tryz.prog 43 #[.pointer (some ⟨sp, 0, none⟩), .slice a l.length cap, .int .i64 (((f : Int) + (j : Int)) / 4)] W fun e w' => e = .returned (.tuple #[.string (s.read l (((f + j) / 4 : Nat) : Int)).1, .int .i64 0]) ∧ Below W.heap.size W w') := fun j W hj hb => by
      have := rread_any (cap := cap) l (((f + j) / 4 : Nat) : Int) W (h.below hb) (hl.below hb) hg h5
      rw [(SV.read_yes hg h.ok h0 (c := (((f + j) / 4 : Nat) : Int)) ⟨by omega, by omega⟩).1, show ((((f + j) / 4 : Nat)) : Int) = ((f : Int) + (j : Int)) / 4 by omega] at this; exact this
    have HRZ : Hid (∀ j, j < k → (s.read l (((f + j) / 4 : Nat) : Int)).1.size = 64) := fun j hj => (SV.read_yes hg h.ok h0 (c := (((f + j) / 4 : Nat) : Int)) ⟨by omega, by omega⟩).2
    generalize s.getS l (f : Int) (k : Int) = R at HR ⊢
    generalize s.getTo l f = G at HR HGS HGZ HG0
    generalize hq : l.length = q at HCK HRD ⊢
    clear h hl hg hF hq
    have hk1000 : f + k ≤ 1000 := by omega
    have kk : IntKind.i64.wrap ((f : Int) + (k : Int)) = (f : Int) + (k : Int) := IntWalk.i64_in _ (by omega)
    go_enter Tryz.func40, Tryz.ntmps40
    go_wp2_with fail
    refine HCK.out.mono ?_
    rintro e wA ⟨rfl, hbA⟩
    have HBA := toHid hbA
    clear hbA HCK
    go_wp2
    go_loopw [11, 12] (fun u i wr => ∃ (j : Nat), j ≤ k ∧ u = .string (G j) ∧ i = .int .i64 ((f : Int) + (j : Int)) ∧ Below w.heap.size w wr) (fun _ i _ => (f + k) - (intOf i).toNat)
    case atStart => exact ⟨0, Nat.zero_le _, by rw [HG0.out]; rfl, by simp, HBA.out⟩
    case round =>
      obtain ⟨j, hjk, rfl, rfl, hbel⟩ := hrel
      have HB := toHid hbel
      by_cases hlt : j < k
      · have HRJ := toHid (HRD.out j wr hlt hbel)
        have hz := HRZ.out j hlt
        have HS := toHid (HGS.out j)
        have hGz := HGZ.out j hjk
        have g1 : decide ((f : Int) + (j : Int) < (f : Int) + (k : Int)) = true := decide_eq_true (by omega)
        generalize (s.read l (((f + j) / 4 : Nat) : Int)).1 = old at HRJ hz HS
        have e0 : (0 : Int) ≤ (f : Int) + (j : Int) := by omega
        obtain ⟨md, hmd⟩ : ∃ md : Nat, (f + j) % 4 = md := ⟨_, rfl⟩
        have hmd4 : md < 4 := by omega
        have e1 : ((f : Int) + (j : Int)) % 4 = (md : Int) := by omega
        have e2 : (0 : Int) ≤ 16 * (md : Int) := by omega
        have e3 : 16 * (md : Int) ≤ 16 * (md : Int) + 16 := by omega
        have e4 : 16 * (md : Int) + 16 ≤ (old.size : Int) := by omega
        have e5 : (16 * (md : Int)).toNat = 16 * md := by omega
        have e6 : (16 * (md : Int) + 16).toNat = 16 * md + 16 := by omega
        have e7 : (0 : Int) ≤ 16 * (md : Int) + 16 := by omega
        have e8 : ¬ 9223372036854775807 < (G j).size + (old.extract (16 * md) (16 * md + 16)).size := by rw [ByteArray.size_extract]; omega
        have e8' : ¬ 9223372036854775807 < (G j).size + (min (16 * md + 16) old.size - 16 * md) := by omega
        have HS2 : Hid (G j ++ old.extract (16 * md) (16 * md + 16) = G (j + 1)) := by
          unfold Hid
          rw [HS.out, hmd, show md * 16 = 16 * md by omega, show (md + 1) * 16 = 16 * md + 16 by omega]
        have w1 : IntKind.i64.wrap (16 * (md : Int)) = 16 * (md : Int) := IntWalk.i64_in _ (by omega)
        have w2 : IntKind.i64.wrap (16 * (md : Int) + 16) = 16 * (md : Int) + 16 := IntWalk.i64_in _ (by omega)
        have w3 : IntKind.i64.wrap ((f : Int) + (j : Int) + 1) = (f : Int) + (j : Int) + 1 := IntWalk.i64_in _ (by omega)
        clear hbel HRD HRZ HGS HS hz hGz hmd
        go_wp2_with fail
        refine HRJ.out.mono ?_
        rintro e wB ⟨rfl, hbB⟩
        have HB2 := toHid (HB.out.trans (hbB.mono HB.out.size))
        clear hbB HRJ
        go_wp2
        go_roundw
        case rel =>
          have fin : ∃ (j1 : Nat), j1 ≤ k ∧ Value.string (G j ++ old.extract (16 * md) (16 * md + 16)) = .string (G j1) ∧ Value.int .i64 ((f : Int) + (j : Int) + 1) = .int .i64 ((f : Int) + (j1 : Int)) ∧ Below w.heap.size w wB := ⟨j + 1, by omega, by rw [HS2.out], by go_num, HB2.out⟩
          first | exact fin | ((repeat apply Exists.intro); exact ⟨fin, rfl⟩)
        case measure => simp [intOf]; omega
      · have hje : j = k := by omega
        subst hje
        have g1 : decide ((f : Int) + (j : Int) < (f : Int) + (j : Int)) = false := decide_eq_false (by omega)
        clear hbel HRD HRZ HGS
        go_wp2
        go_ret2
        exact ⟨by rw [HR.out]; rfl, HB.out⟩
  · have HR : Hid (s.getS l fr n = bytesOf []) := by unfold Hid SV.getS; rw [if_neg hF]
    have HP : Hid (0 < s.chkF l fr n) := by
      unfold Hid SV.chkF at *
      split
      · decide
      · split
        · decide
        · next h1 h2 => rw [if_neg h1, if_neg h2] at hF; exact absurd rfl hF
    rw [HR.out]
    generalize s.chkF l fr n = F at HCK HP ⊢
    have g1 : decide (0 < F) = true := decide_eq_true HP.out
    generalize l.length = q at HCK ⊢
    clear h hl hg HR hF
    go_enter Tryz.func40, Tryz.ntmps40
    go_wp2_with fail
    refine HCK.out.mono ?_
    rintro e wA ⟨rfl, hbA⟩
    go_wp2
    go_ret2
    exact ⟨rfl, hbA⟩
end Go.Proofs.YtjegaljdindfaabGreatDoor
