/-
A part of a range, put or wiped in the first file (G3).
The document's shelf: a cluster that is read; a range's fault.
-/
import Derived.Test.YtjegaljdindfaabGreatDoorQChainParts
import Derived.BigRegion
import Derived.Test.YtjegaljdindfaabGreatDoorQLawAsShelf
namespace Go.Proofs.YtjegaljdindfaabGreatDoor
open Go.RowKit Go.Maps
attribute [local go_sem ↓] Go.wp_at_zero Go.wp_at_succ

theorem write_s {sp m : Nat} {xs : Nat → Ih} {s : SV} {n : Int} {v : IV} (c f : Int) (t : ByteArray) (w : World) (h : IsShelf w sp xs s m) (hf : s.file n = some v) (hm : m + 10 < 1000000000) (ht : t.size ≤ 1000) (hr : -9223372036854775808 ≤ f ∧ f ≤ 9223372036854775807) :
    Calls Tryz.prog 105 #[.pointer (some ⟨(xs n.toNat).p, 0, none⟩), .int .i64 c, .int .i64 f, .string t] w (SDid w sp xs s (m + 10) (s.upd n.toNat (v.write c f t), v.writeF c f t)) := by
  obtain ⟨i1, i2⟩ := h.imgF hf
  exact (write_img c f t w i1.but i2 hm (Nat.le_refl _) ht hr).mono fun e w' hd => SDid.of h hf (by omega) (i2.write c f t (by omega)) hd

theorem fill_s {sp m : Nat} {xs : Nat → Ih} {s : SV} {n : Int} {v : IV} (c : Int) (t : ByteArray) (w : World) (h : IsShelf w sp xs s m) (hf : s.file n = some v) (hm : m + 10 < 1000000000) :
    Calls Tryz.prog 31 #[.pointer (some ⟨(xs n.toNat).p, 0, none⟩), .int .i64 c, .string t] w (SDid w sp xs s (m + 10) (s.upd n.toNat (v.fill c t), v.fillF c t)) := by
  obtain ⟨i1, i2⟩ := h.imgF hf
  exact (fill_img c t w i1.but i2 hm (Nat.le_refl _)).mono fun e w' hd => SDid.of h hf (by omega) (i2.fill c t (by omega)) hd

theorem clear_s {sp m : Nat} {xs : Nat → Ih} {s : SV} {n : Int} {v : IV} (c : Int) (w : World) (h : IsShelf w sp xs s m) (hf : s.file n = some v) (hm : m + 10 < 1000000000) :
    Calls Tryz.prog 29 #[.pointer (some ⟨(xs n.toNat).p, 0, none⟩), .int .i64 c] w (SDid w sp xs s (m + 10) (s.upd n.toNat (v.clear c), v.clearF c)) := by
  obtain ⟨i1, i2⟩ := h.imgF hf
  exact (clear_img c w i1.but i2 hm (Nat.le_refl _)).mono fun e w' hd => SDid.of h hf (by omega) (i2.clear c (by omega)) hd

theorem old_parts {o t : ByteArray} {f n : Nat} (ht : t.size = n * 16) (hp : f + n ≤ 4) : secB o 0 f ++ t ++ secB o (f + n) (4 - (f + n)) = o.extract 0 (f * 16) ++ t ++ o.extract (f * 16 + t.size) 64 := by
  unfold secB
  rw [show 0 * 16 = 0 by omega, show 0 + f = f by omega, show (f + n) * 16 = f * 16 + t.size by omega, show (f + n + (4 - (f + n))) * 16 = 64 by omega]

set_option maxRecDepth 100000 in
set_option maxHeartbeats 2000000 in
theorem putPart_any {sp m cap : Nat} {xs : Nat → Ih} {s : SV} {a : Option Addr} {C : Int} (x : Int) (r : List Int) (c f n b : Nat) (t : ByteArray) (w : World) (h : IsShelf w sp xs s m) (hl : Nums w a (x :: r)) (hg : s.good C (x :: r)) (h5 : (x :: r).length ≤ 100) (hm : m + 10 < 1000000000) (hp : f + n ≤ 4) (hc : (c : Int) < C) (ht : t.size = n * 16) :
    Calls Tryz.prog 96 #[.pointer (some ⟨sp, 0, none⟩), .slice a (x :: r).length cap, .agg #[.int .i64 (c : Int), .int .i64 (f : Int), .int .i64 (n : Int), .int .i64 (b : Int)], .string t] w (SDid w sp xs s (m + 10) (s.lay (x :: r) c f t)) := by
  obtain ⟨v, hf, hvc⟩ := hg x List.mem_cons_self
  obtain ⟨x0, x5, _⟩ := SV.file_of hf
  obtain ⟨r1, r2⟩ := SV.read_yes hg h.ok (by simp) (c := (c : Int)) ⟨by omega, hc⟩
  have HLY : Hid (s.lay (x :: r) c f t = if (v.entE c).1 = 2 then (s.upd x.toNat (v.write c f t), v.writeF c f t) else
      (s.upd x.toNat (v.fill c ((s.read (x :: r) c).1.extract 0 (f * 16) ++ t ++ (s.read (x :: r) c).1.extract (f * 16 + t.size) 64)), v.fillF c ((s.read (x :: r) c).1.extract 0 (f * 16) ++ t ++ (s.read (x :: r) c).1.extract (f * 16 + t.size) 64))) := by
    unfold Hid; show (match s.file x with | none => (s, (4 : Int)) | some v => _) = _; rw [hf]
  have HKO : Hid (∀ W : World, Below w.heap.size w W → Calls Tryz.prog 104 #[.pointer (some ⟨(xs x.toNat).p, 0, none⟩), .int .i64 (c : Int)] W fun e w' => e = .returned (.int .i64 (v.entE c).1) ∧ Below W.heap.size W w') := fun W hb => kindOf_img (c : Int) W ((h.below hb).imgF hf).1
  have HWR : Hid (∀ W : World, Below w.heap.size w W → Calls Tryz.prog 105 #[.pointer (some ⟨(xs x.toNat).p, 0, none⟩), .int .i64 (c : Int), .int .i64 (f : Int), .string t] W (SDid w sp xs s (m + 10) (s.upd x.toNat (v.write c f t), v.writeF c f t))) := fun W hb =>
    (write_s (c : Int) (f : Int) t W (h.below hb) hf hm (by omega) (by omega)).mono fun e w' hd => hd.from hb
  have HFL : Hid (∀ (T : ByteArray) (W : World), Below w.heap.size w W → Calls Tryz.prog 31 #[.pointer (some ⟨(xs x.toNat).p, 0, none⟩), .int .i64 (c : Int), .string T] W (SDid W sp xs s (m + 10) (s.upd x.toNat (v.fill c T), v.fillF c T))) := fun T W hb =>
    fill_s (c : Int) T W (h.below hb) hf hm
  have HRD : Hid (∀ W : World, Below w.heap.size w W → Calls Tryz.prog 23 #[.pointer (some ⟨sp, 0, none⟩), .slice a (x :: r).length cap, .int .i64 (c : Int)] W fun e w' => e = .returned (.tuple #[.string (s.read (x :: r) c).1, .nilIface]) ∧ Below W.heap.size W w') := fun W hb => by
    have := cread_any (cap := cap) (x :: r) (c : Int) W (h.below hb) (hl.below hb) hg h5
    rw [r1, erV_0] at this; exact this
  have HKP : Hid (∀ k, w.heap.size ≤ k → ¬ fpS xs s k) := fun k hk hs => by have := h.fpLt hs; omega
  have HCE : Hid (∀ W : World, Below w.heap.size w W → W.cell? ⟨sp, x.toNat, none⟩ = some (.pointer (some ⟨(xs x.toNat).p, 0, none⟩))) := fun W hb => (h.below hb).cellF hf
  obtain ⟨g, o, ha, hcn⟩ := hl 0 (by simp)
  subst ha
  have hcn' : w.cell? ⟨g, o, none⟩ = some (.int .i64 x) := hcn
  have hgl : g < w.heap.size := World.block_lt_of_cell? _ _ hcn
  obtain ⟨k, rfl⟩ : ∃ k : Nat, x = (k : Int) := ⟨x.toNat, by omega⟩
  have hk : ((k : Int)).toNat = k := by omega
  rw [hk] at HKO HWR HFL HCE HLY
  have k3 : (0 : Int) ≤ (k : Int) := by omega
  have k4 : (k : Int) < 5 := by omega
  have hn0 : (0 : Int) < (((k : Int) :: r).length : Int) := by simp
  generalize hlen : ((k : Int) :: r).length = q at hn0 h5 HRD ⊢
  generalize s.lay ((k : Int) :: r) c f t = R at HLY ⊢
  generalize (s.read ((k : Int) :: r) c).1 = old at r2 HRD HLY
  generalize (v.entE c).1 = y at HKO HLY
  generalize (xs k).p = xp at HKO HWR HFL HCE
  obtain ⟨SG, hSG⟩ : ∃ SG : Int → Int → ByteArray, SG = fun x y => secB old x.toNat y.toNat := ⟨_, rfl⟩
  obtain ⟨bh, hbh⟩ : ∃ bh : Int, bh = (f : Int) + (n : Int) := ⟨_, rfl⟩
  obtain ⟨rs, hrs⟩ : ∃ rs : Int, rs = 4 - bh := ⟨_, rfl⟩
  have HSE : Hid (∀ (x y : Int) (W : World), (x = 0 ∧ y = (f : Int)) ∨ (x = bh ∧ y = rs) → Calls Tryz.prog 97 #[.string old, .int .i64 x, .int .i64 y] W fun e w' => e = .returned (.string (SG x y)) ∧ w' = W) := fun x y W hxy => by
    have e1 : ((x.toNat : Nat) : Int) = x := by omega
    have e2 : ((y.toNat : Nat) : Int) = y := by omega
    have := sectors_any old x.toNat y.toNat W (by omega) (by omega)
    rw [e1, e2] at this
    rw [hSG]; exact this
  have hz1 : (secB old 0 f).size = f * 16 := secB_size (by omega)
  have hz2 : (secB old (f + n) (4 - (f + n))).size = (4 - (f + n)) * 16 := secB_size (by omega)
  have hE1 : SG 0 (f : Int) = secB old 0 f := by rw [hSG]; rfl
  have hE2 : SG bh rs = secB old (f + n) (4 - (f + n)) := by rw [hSG]; show secB old bh.toNat rs.toNat = _; congr 1 <;> omega
  have HOL := toHid (old_parts (o := old) ht hp)
  rw [← hE1] at hz1 HOL
  rw [← hE2] at hz2 HOL
  clear hE1 hE2 hSG
  have HB0 : Hid (Below w.heap.size w (w.alloc (.cells #[.int .i64 (c : Int), .int .i64 (f : Int), .int .i64 (n : Int), .int .i64 (b : Int)] 156))) := (Below.refl _ _).alloc (Nat.le_refl _) _
  have HX : Hid ((w.alloc (.cells #[.int .i64 (c : Int), .int .i64 (f : Int), .int .i64 (n : Int), .int .i64 (b : Int)] 156)).heap[w.heap.size]? = some (.cells #[.int .i64 (c : Int), .int .i64 (f : Int), .int .i64 (n : Int), .int .i64 (b : Int)] 156 (0, 0))) := heap_alloc_new _ _
  clear h hl hg hf hcn hvc hlen
  go_enter Tryz.func96, Tryz.ntmps96
  go_wp2
  generalize w.alloc (.cells #[.int .i64 (c : Int), .int .i64 (f : Int), .int .i64 (n : Int), .int .i64 (b : Int)] 156) = w0 at HB0 HX ⊢
  have d1 : w0.cell? ⟨g, o, none⟩ = some (.int .i64 (k : Int)) := (HB0.out.cell (p := ⟨g, o, none⟩) hgl).trans hcn'
  have d2 := HCE.out w0 HB0.out
  have y0 : w0.cell? ⟨w.heap.size, 0, none⟩ = some (.int .i64 (c : Int)) := by rw [cell_of_row _ _ _ _ _ _ HX.out]; rfl
  have y1 : w0.cell? ⟨w.heap.size, 1, none⟩ = some (.int .i64 (f : Int)) := by rw [cell_of_row _ _ _ _ _ _ HX.out]; rfl
  have y2 : w0.cell? ⟨w.heap.size, 2, none⟩ = some (.int .i64 (n : Int)) := by rw [cell_of_row _ _ _ _ _ _ HX.out]; rfl
  have hXl : w.heap.size < w0.heap.size := lt_of_some HX.out
  go_region
  have HBD : Hid (Below w.heap.size w w0.drew) := HB0.out.drew
  have e0 : w0.drew.cell? ⟨w.heap.size, 0, none⟩ = some (.int .i64 (c : Int)) := y0
  have e1 : w0.drew.cell? ⟨w.heap.size, 1, none⟩ = some (.int .i64 (f : Int)) := y1
  have e2 : w0.drew.cell? ⟨w.heap.size, 2, none⟩ = some (.int .i64 (n : Int)) := y2
  have HKW := toHid (HKO.out _ HBD.out)
  clear y0 y1 y2 d1 d2
  go_wp2_with fail
  refine HKW.out.mono ?_
  rintro e w1 ⟨rfl, hb1⟩
  have HB1 := toHid (HBD.out.trans (hb1.mono HBD.out.size))
  have z0 := (hb1.cell (World.block_lt_of_cell? _ _ e0)).trans e0
  have z1 := (hb1.cell (World.block_lt_of_cell? _ _ e1)).trans e1
  have z2 := (hb1.cell (World.block_lt_of_cell? _ _ e2)).trans e2
  clear e0 e1 e2 hb1 HKO HKW
  by_cases hy : y = 2
  · have g1 : (y == 2) = true := by simpa using hy
    have HR : Hid (R = (s.upd k (v.write c f t), v.writeF c f t)) := by unfold Hid; rw [HLY.out, if_pos hy]
    have HW1 := toHid (HWR.out _ HB1.out)
    rw [← HR.out] at HW1
    clear hy HLY HFL HRD HWR
    go_wp2_with fail
    refine HW1.out.mono ?_
    rintro e w2 ⟨xs', rfl, h2, h3⟩
    have HD : Hid (SDid w sp xs s (m + 10) R (.returned (erV R.2)) w2) := ⟨xs', rfl, h2, h3⟩
    clear h2 h3
    go_wp2
    go_ret
    exact HD.out
  · have g1 : (y == 2) = false := by simpa using hy
    have HR : Hid (R = (s.upd k (v.fill c (SG 0 (f : Int) ++ t ++ SG bh rs)), v.fillF c (SG 0 (f : Int) ++ t ++ SG bh rs))) := by unfold Hid; rw [HOL.out, HLY.out, if_neg hy]
    clear hy HLY HWR
    have HRW := toHid (HRD.out _ HB1.out)
    go_wp2_with fail
    refine HRW.out.mono ?_
    rintro e w2 ⟨rfl, hb2⟩
    have HB2 := toHid (HB1.out.trans (hb2.mono HB1.out.size))
    have u0 := (hb2.cell (World.block_lt_of_cell? _ _ z0)).trans z0
    have u1 := (hb2.cell (World.block_lt_of_cell? _ _ z1)).trans z1
    have u2 := (hb2.cell (World.block_lt_of_cell? _ _ z2)).trans z2
    clear z0 z1 z2 hb2 HRW HRD
    have k5 : IntKind.i64.wrap ((f : Int) + (n : Int)) = bh := by rw [hbh]; exact IntWalk.i64_in _ (by omega)
    have k6 : IntKind.i64.wrap (4 - bh) = rs := by rw [hrs]; exact IntWalk.i64_in _ (by omega)
    have v0 : w2.drew.cell? ⟨w.heap.size, 0, none⟩ = some (.int .i64 (c : Int)) := u0
    have v1 : w2.drew.cell? ⟨w.heap.size, 1, none⟩ = some (.int .i64 (f : Int)) := u1
    have HB3 : Hid (Below w.heap.size w w2.drew) := HB2.out.drew
    generalize hA : SG 0 (f : Int) = SA at hz1 HR
    generalize hB : SG bh rs = SB at hz2 HR
    have k7 : ¬ 9223372036854775807 < SA.size + t.size := by omega
    have k8 : ¬ 9223372036854775807 < SA.size + t.size + SB.size := by omega
    have k9 : ¬ 9223372036854775807 < (SA ++ t).size + SB.size := by rw [ByteArray.size_append]; omega
    have HF3 := toHid (HFL.out (SA ++ t ++ SB) _ HB3.out)
    rw [← HR.out] at HF3
    rw [← hA] at HF3 k7 k8 k9
    rw [← hB] at HF3 k8 k9
    clear hA hB HFL HOL ht hz1 hz2 r2 hbh hrs HR
    go_wp2
    go_region_held3 (fun W => W.cell? ⟨w.heap.size, 0, none⟩ = some (.int .i64 (c : Int)) ∧ W.cell? ⟨w.heap.size, 1, none⟩ = some (.int .i64 (f : Int)))
      (first | (exact ⟨v0, v1⟩) | assumption)
      (first
        | (go_at_call 97; refine (HSE.out _ _ _ ?_).mono ?_; (· first | exact .inl ⟨rfl, rfl⟩ | exact .inr ⟨rfl, rfl⟩); rintro e w' ⟨rfl, rfl⟩)
        | (go_at_call 31; refine HF3.out.mono ?_; rintro e w4 ⟨xs', rfl, h2, h3⟩; have hS4 : w4.cell? ⟨w.heap.size, 0, none⟩ = some (.int .i64 (c : Int)) ∧ w4.cell? ⟨w.heap.size, 1, none⟩ = some (.int .i64 (f : Int)) := ⟨(h3.cell (p := ⟨w.heap.size, 0, none⟩) (World.block_lt_of_cell? _ _ v0) (HKP.out _ (Nat.le_refl _))).trans v0, (h3.cell (p := ⟨w.heap.size, 1, none⟩) (World.block_lt_of_cell? _ _ v1) (HKP.out _ (Nat.le_refl _))).trans v1⟩))
    have HD : Hid (SDid w sp xs s (m + 10) R (.returned (erV R.2)) w4) := SDid.from ⟨xs', rfl, h2, h3⟩ HB3.out
    clear h2 h3 hS4
    go_wp2
    go_ret
    exact HD.out

/- A part wiped. -/
set_option maxRecDepth 100000 in
set_option maxHeartbeats 2000000 in
theorem wipePart_any {sp m cap : Nat} {xs : Nat → Ih} {s : SV} {a : Option Addr} {C : Int} (x : Int) (r : List Int) (c f n b : Nat) (w : World) (h : IsShelf w sp xs s m) (hl : Nums w a (x :: r)) (hg : s.good C (x :: r)) (h5 : (x :: r).length ≤ 100) (hm : m + 10 < 1000000000) (hp : f + n ≤ 4) (hc : (c : Int) < C) :
    Calls Tryz.prog 100 #[.pointer (some ⟨sp, 0, none⟩), .slice a (x :: r).length cap, .agg #[.int .i64 (c : Int), .int .i64 (f : Int), .int .i64 (n : Int), .int .i64 (b : Int)]] w (SDid w sp xs s (m + 10) (SV.wipePt (x :: r) s ⟨c, f, n, b⟩)) := by
  obtain ⟨v, hf, hvc⟩ := hg x List.mem_cons_self
  obtain ⟨x0, x5, _⟩ := SV.file_of hf
  have HLY : Hid (SV.wipePt (x :: r) s ⟨c, f, n, b⟩ = if n = 4 then (s.upd x.toNat (v.clear c), v.clearF c) else if (v.entE c).1 = 1 then (s, 0) else s.lay (x :: r) c f (noughtB (n * 16))) := by
    unfold Hid; show (match s.file x with | none => (s, (4 : Int)) | some v => _) = _; rw [hf]
  have HKO : Hid (∀ W : World, Below w.heap.size w W → Calls Tryz.prog 104 #[.pointer (some ⟨(xs x.toNat).p, 0, none⟩), .int .i64 (c : Int)] W fun e w' => e = .returned (.int .i64 (v.entE c).1) ∧ Below W.heap.size W w') := fun W hb => kindOf_img (c : Int) W ((h.below hb).imgF hf).1
  have HCL : Hid (∀ W : World, Below w.heap.size w W → Calls Tryz.prog 29 #[.pointer (some ⟨(xs x.toNat).p, 0, none⟩), .int .i64 (c : Int)] W (SDid w sp xs s (m + 10) (s.upd x.toNat (v.clear c), v.clearF c))) := fun W hb =>
    (clear_s (c : Int) W (h.below hb) hf hm).mono fun e w' hd => hd.from hb
  have HPP : Hid (∀ W : World, Below w.heap.size w W → Calls Tryz.prog 96 #[.pointer (some ⟨sp, 0, none⟩), .slice a (x :: r).length cap, .agg #[.int .i64 (c : Int), .int .i64 (f : Int), .int .i64 (n : Int), .int .i64 (b : Int)], .string (noughtB (n * 16))] W (SDid W sp xs s (m + 10) (s.lay (x :: r) c f (noughtB (n * 16))))) := fun W hb =>
    putPart_any x r c f n b (noughtB (n * 16)) W (h.below hb) (hl.below hb) hg h5 hm hp hc (by show (List.replicate (n * 16) (0 : UInt8)).toArray.size = _; simp)
  have HNO : Hid (∀ W : World, Calls Tryz.prog 67 #[.int .i64 (n : Int)] W fun e w' => e = .returned (.string (noughtB (n * 16))) ∧ Below W.heap.size W w') := fun W => cnoughts_any n W (by omega)
  have HSM : Hid (∀ W : World, Below w.heap.size w W → SDid w sp xs s (m + 10) (s, 0) (.returned .nilIface) W) := fun W hb => by rw [← erV_0]; exact SDid.same (h.more (by omega)) hb
  have HKP : Hid (∀ k, w.heap.size ≤ k → ¬ fpS xs s k) := fun k hk hs => by have := h.fpLt hs; omega
  have HCE : Hid (∀ W : World, Below w.heap.size w W → W.cell? ⟨sp, x.toNat, none⟩ = some (.pointer (some ⟨(xs x.toNat).p, 0, none⟩))) := fun W hb => (h.below hb).cellF hf
  obtain ⟨g, o, ha, hcn⟩ := hl 0 (by simp)
  subst ha
  have hcn' : w.cell? ⟨g, o, none⟩ = some (.int .i64 x) := hcn
  have hgl : g < w.heap.size := World.block_lt_of_cell? _ _ hcn
  obtain ⟨k, rfl⟩ : ∃ k : Nat, x = (k : Int) := ⟨x.toNat, by omega⟩
  have hk : ((k : Int)).toNat = k := by omega
  rw [hk] at HKO HCL HCE HLY
  have k3 : (0 : Int) ≤ (k : Int) := by omega
  have k4 : (k : Int) < 5 := by omega
  have hn0 : (0 : Int) < (((k : Int) :: r).length : Int) := by simp
  generalize hlen : ((k : Int) :: r).length = q at hn0 h5 HPP ⊢
  generalize SV.wipePt ((k : Int) :: r) s ⟨c, f, n, b⟩ = R at HLY ⊢
  generalize s.lay ((k : Int) :: r) c f (noughtB (n * 16)) = RL at HLY HPP
  generalize noughtB (n * 16) = NB at HPP HNO
  generalize (v.entE c).1 = y at HKO HLY
  generalize (xs k).p = xp at HKO HCL HCE
  have HB0 : Hid (Below w.heap.size w (w.alloc (.cells #[.int .i64 (c : Int), .int .i64 (f : Int), .int .i64 (n : Int), .int .i64 (b : Int)] 156))) := (Below.refl _ _).alloc (Nat.le_refl _) _
  have HX : Hid ((w.alloc (.cells #[.int .i64 (c : Int), .int .i64 (f : Int), .int .i64 (n : Int), .int .i64 (b : Int)] 156)).heap[w.heap.size]? = some (.cells #[.int .i64 (c : Int), .int .i64 (f : Int), .int .i64 (n : Int), .int .i64 (b : Int)] 156 (0, 0))) := heap_alloc_new _ _
  clear h hl hg hf hcn hvc hlen
  go_enter Tryz.func100, Tryz.ntmps100
  go_wp2
  generalize w.alloc (.cells #[.int .i64 (c : Int), .int .i64 (f : Int), .int .i64 (n : Int), .int .i64 (b : Int)] 156) = w0 at HB0 HX ⊢
  have d1 : w0.cell? ⟨g, o, none⟩ = some (.int .i64 (k : Int)) := (HB0.out.cell (p := ⟨g, o, none⟩) hgl).trans hcn'
  have d2 := HCE.out w0 HB0.out
  have y0 : w0.cell? ⟨w.heap.size, 0, none⟩ = some (.int .i64 (c : Int)) := by rw [cell_of_row _ _ _ _ _ _ HX.out]; rfl
  have y1 : w0.cell? ⟨w.heap.size, 1, none⟩ = some (.int .i64 (f : Int)) := by rw [cell_of_row _ _ _ _ _ _ HX.out]; rfl
  have y2 : w0.cell? ⟨w.heap.size, 2, none⟩ = some (.int .i64 (n : Int)) := by rw [cell_of_row _ _ _ _ _ _ HX.out]; rfl
  have y3 : w0.cell? ⟨w.heap.size, 3, none⟩ = some (.int .i64 (b : Int)) := by rw [cell_of_row _ _ _ _ _ _ HX.out]; rfl
  have hXl : w.heap.size < w0.heap.size := lt_of_some HX.out
  go_region
  have HBD : Hid (Below w.heap.size w w0.drew) := HB0.out.drew
  have e0 : w0.drew.cell? ⟨w.heap.size, 0, none⟩ = some (.int .i64 (c : Int)) := y0
  have e1 : w0.drew.cell? ⟨w.heap.size, 1, none⟩ = some (.int .i64 (f : Int)) := y1
  have e2 : w0.drew.cell? ⟨w.heap.size, 2, none⟩ = some (.int .i64 (n : Int)) := y2
  have e3 : w0.drew.cell? ⟨w.heap.size, 3, none⟩ = some (.int .i64 (b : Int)) := y3
  clear y0 y1 y2 y3 d1 d2
  by_cases h4 : n = 4
  · have g1 : ((n : Int) == 4) = true := by simp; omega
    have HR : Hid (R = (s.upd k (v.clear c), v.clearF c)) := by unfold Hid; rw [HLY.out, if_pos h4]
    have HC1 := toHid (HCL.out _ HBD.out)
    rw [← HR.out] at HC1
    clear h4 HLY HPP HNO HKO HCL
    go_wp2_with fail
    refine HC1.out.mono ?_
    rintro e w2 ⟨xs', rfl, h2, h3⟩
    have HD : Hid (SDid w sp xs s (m + 10) R (.returned (erV R.2)) w2) := ⟨xs', rfl, h2, h3⟩
    clear h2 h3
    go_wp2
    go_ret
    exact HD.out
  · have g1 : ((n : Int) == 4) = false := by simp; omega
    have HKW := toHid (HKO.out _ HBD.out)
    go_wp2_with fail
    refine HKW.out.mono ?_
    rintro e w1 ⟨rfl, hb1⟩
    have HB1 := toHid (HBD.out.trans (hb1.mono HBD.out.size))
    have z0 := (hb1.cell (World.block_lt_of_cell? _ _ e0)).trans e0
    have z1 := (hb1.cell (World.block_lt_of_cell? _ _ e1)).trans e1
    have z2 := (hb1.cell (World.block_lt_of_cell? _ _ e2)).trans e2
    have z3 := (hb1.cell (World.block_lt_of_cell? _ _ e3)).trans e3
    clear e0 e1 e2 e3 hb1 HKO HKW
    by_cases hy : y = 1
    · have g2 : (y == 1) = true := by simpa using hy
      have HR : Hid (R = (s, 0)) := by unfold Hid; rw [HLY.out, if_neg h4, if_pos hy]
      have HD := toHid (HSM.out _ HB1.out)
      rw [← HR.out] at HD
      clear hy HLY HPP HNO HCL HSM
      go_wp2
      go_ret
      exact HD.out
    · have g2 : (y == 1) = false := by simpa using hy
      have HR : Hid (R = RL) := by unfold Hid; rw [HLY.out, if_neg h4, if_neg hy]
      rw [← HR.out] at HPP
      have u0 : w1.drew.cell? ⟨w.heap.size, 0, none⟩ = some (.int .i64 (c : Int)) := z0
      have u1 : w1.drew.cell? ⟨w.heap.size, 1, none⟩ = some (.int .i64 (f : Int)) := z1
      have u2 : w1.drew.cell? ⟨w.heap.size, 2, none⟩ = some (.int .i64 (n : Int)) := z2
      have u3 : w1.drew.cell? ⟨w.heap.size, 3, none⟩ = some (.int .i64 (b : Int)) := z3
      have HB2 : Hid (Below w.heap.size w w1.drew) := HB1.out.drew
      have hNl : w.heap.size < w1.drew.heap.size := World.block_lt_of_cell? _ _ u0
      clear hy HLY HCL HSM z0 z1 z2 z3
      go_wp2
      go_region_held3 (fun W => W.cell? ⟨w.heap.size, 0, none⟩ = some (.int .i64 (c : Int)) ∧ W.cell? ⟨w.heap.size, 1, none⟩ = some (.int .i64 (f : Int)) ∧ W.cell? ⟨w.heap.size, 2, none⟩ = some (.int .i64 (n : Int)) ∧ W.cell? ⟨w.heap.size, 3, none⟩ = some (.int .i64 (b : Int)))
        (first | (exact ⟨u0, u1, u2, u3⟩) | assumption)
        (first
          | (go_at_call 67; refine (HNO.out _).mono ?_; rintro e w3 ⟨rfl, hb3⟩; have hS3 : w3.cell? ⟨w.heap.size, 0, none⟩ = some (.int .i64 (c : Int)) ∧ w3.cell? ⟨w.heap.size, 1, none⟩ = some (.int .i64 (f : Int)) ∧ w3.cell? ⟨w.heap.size, 2, none⟩ = some (.int .i64 (n : Int)) ∧ w3.cell? ⟨w.heap.size, 3, none⟩ = some (.int .i64 (b : Int)) := ⟨(hb3.cell (p := ⟨w.heap.size, 0, none⟩) hNl).trans u0, (hb3.cell (p := ⟨w.heap.size, 1, none⟩) hNl).trans u1, (hb3.cell (p := ⟨w.heap.size, 2, none⟩) hNl).trans u2, (hb3.cell (p := ⟨w.heap.size, 3, none⟩) hNl).trans u3⟩)
          | (go_at_call 96; refine (HPP.out w3 (HB2.out.trans (hb3.mono HB2.out.size))).mono ?_; rintro e w4 ⟨xs', rfl, h2, h3⟩; have hS4 : w4.cell? ⟨w.heap.size, 0, none⟩ = some (.int .i64 (c : Int)) ∧ w4.cell? ⟨w.heap.size, 1, none⟩ = some (.int .i64 (f : Int)) ∧ w4.cell? ⟨w.heap.size, 2, none⟩ = some (.int .i64 (n : Int)) ∧ w4.cell? ⟨w.heap.size, 3, none⟩ = some (.int .i64 (b : Int)) := ⟨(h3.cell (p := ⟨w.heap.size, 0, none⟩) (Nat.lt_of_lt_of_le hNl hb3.size) (HKP.out _ (Nat.le_refl _))).trans hS3.1, (h3.cell (p := ⟨w.heap.size, 1, none⟩) (Nat.lt_of_lt_of_le hNl hb3.size) (HKP.out _ (Nat.le_refl _))).trans hS3.2.1, (h3.cell (p := ⟨w.heap.size, 2, none⟩) (Nat.lt_of_lt_of_le hNl hb3.size) (HKP.out _ (Nat.le_refl _))).trans hS3.2.2.1, (h3.cell (p := ⟨w.heap.size, 3, none⟩) (Nat.lt_of_lt_of_le hNl hb3.size) (HKP.out _ (Nat.le_refl _))).trans hS3.2.2.2⟩))
      have HD : Hid (SDid w sp xs s (m + 10) R (.returned (erV R.2)) w4) := SDid.from ⟨xs', rfl, h2, h3⟩ (HB2.out.trans (hb3.mono HB2.out.size))
      clear h2 h3 hS3 hS4 hb3
      go_wp2
      go_ret
      exact HD.out
end Go.Proofs.YtjegaljdindfaabGreatDoor

namespace Go.Proofs.YtjegaljdindfaabGreatDoor
open Go.RowKit Go.Maps
attribute [local go_sem ↓] Go.wp_at_zero Go.wp_at_succ

set_option maxRecDepth 100000 in
set_option maxHeartbeats 2000000 in
theorem rread_any {sp m cap : Nat} {xs : Nat → Qh} {s : SV} {a : Option Addr} {C : Int} (l : List Int) (c : Int) (w : World) (h : IsRshelf w sp xs s m) (hl : Nums w a l) (hg : s.good C l) (h5 : l.length ≤ 100) :
    Calls Tryz.prog 43 #[.pointer (some ⟨sp, 0, none⟩), .slice a l.length cap, .int .i64 c] w fun e w' => e = .returned (.tuple #[.string (s.read l c).1, .int .i64 (s.read l c).2]) ∧ Below w.heap.size w w' := by
  by_cases hnil : l = []
  · subst hnil
    have e1 : s.read [] c = (bytesOf [], 4) := rfl
    rw [e1]
    clear h hl hg e1
    go_enter Tryz.func43, Tryz.ntmps43
    go_wp2
    go_ret2
    exact ⟨rfl, Below.refl _ _⟩
  · have hcc : s.clusters l = C := hg.clusters hnil
    have hl0 : 0 < l.length := List.length_pos_iff.2 hnil
    have hn0 : ((l.length : Int) == 0) = false := by simp; omega
    have hn1 : (0 : Int) < (l.length : Int) := by omega
    have hn2 : 0 < l.length := hl0
    obtain ⟨g, o, x, v, rfl, hx, x5, hf, hvc, hc1, hc2, hi, hok⟩ := h.numAt hl hg hl0
    have hth : v.there c = decide (0 ≤ c ∧ c < C) := by
      unfold IV.there
      have := hok.len
      rw [← hvc, ← this]
    have HTH : Hid (∀ W : World, Below w.heap.size w W → Calls Tryz.prog 85 #[.pointer (some ⟨(xs x).p, 0, none⟩), .int .i64 c] W fun e w' => e = .returned (.bool (v.there c)) ∧ w' = W) := fun W hb => there_rim c W (hi.below hb) hok.len
    have hc1' : w.cell? ⟨g, o, none⟩ = some (.int .i64 (x : Int)) := hc1
    have d1 : w.drew.cell? ⟨g, o, none⟩ = some (.int .i64 (x : Int)) := hc1'
    have d2 : w.drew.cell? ⟨sp, x, none⟩ = some (.pointer (some ⟨(xs x).p, 0, none⟩)) := hc2
    have HDR : Hid (Below w.heap.size w w.drew) := (Below.refl _ _).drew
    have k3 : (0 : Int) ≤ (x : Int) := by omega
    have k4 : (x : Int) < 5 := by omega
    by_cases hin : 0 ≤ c ∧ c < C
    · have HRE : Hid (s.read l c = match s.seenAt c l with | none => (bytesOf zeros64, 0) | some v => (bytesOf (v.readS c), v.readF c)) := by unfold Hid SV.read; rw [if_neg hnil, hcc, if_pos hin]; rfl
      have HFD : Hid (∀ W : World, Below w.heap.size w W → Calls Tryz.prog 45 #[.pointer (some ⟨sp, 0, none⟩), .slice (some ⟨g, o, none⟩) l.length cap, .int .i64 c] W fun e w' => e = .returned (.int .i64 (s.found l c)) ∧ Below W.heap.size W w') := fun W hb => rfound_any l c W (h.below hb) (hl.below hb) hg h5
      have HNO : Hid (∀ W : World, Calls Tryz.prog 38 #[.int .i64 64] W fun e w' => e = .returned (.string (bytesOf zeros64)) ∧ Below W.heap.size W w') := fun W => noughtsN_any 64 W (by decide)
      rw [hth, decide_eq_true hin] at HTH
      rcases SV.found_cases s c l 0 with ⟨f1, f2⟩ | ⟨j, n, u, j1, f1, f3, f4, f5, f6, f7⟩
      · have HF1 : Hid (s.found l c = -1) := f1
        rw [f2] at HRE
        rw [HF1.out] at HFD
        rw [HRE.out]
        clear h hl hg hcc HRE HF1 hi hok hf hvc hth hc1 hc1' hl0
        generalize l.length = q at hn0 hn1 hn2 HFD ⊢
        generalize bytesOf zeros64 = z at HNO ⊢
        generalize (xs x).p = xp at HTH d2 hc2
        go_enter Tryz.func43, Tryz.ntmps43
        go_wp2
        go_region_held3 (fun W => Below w.heap.size w W ∧ W.cell? ⟨g, o, none⟩ = some (.int .i64 (x : Int)) ∧ W.cell? ⟨sp, x, none⟩ = some (.pointer (some ⟨xp, 0, none⟩)))
          (first | (exact ⟨HDR.out, d1, d2⟩) | assumption)
          (first
            | (go_at_call 85; refine (HTH.out _ (by assumption : Below w.heap.size w _ ∧ _).1).mono ?_; rintro e w' ⟨rfl, rfl⟩))
        go_wp2_with fail
        refine (HFD.out _ HDR.out).mono ?_
        rintro e w2 ⟨rfl, hb2⟩
        have HB2 := toHid (HDR.out.trans (hb2.mono HDR.out.size))
        clear hb2
        go_wp2_with fail
        refine (HNO.out _).mono ?_
        rintro e w3 ⟨rfl, hb3⟩
        have HB3 := toHid (HB2.out.trans (hb3.mono HB2.out.size))
        clear hb3
        go_wp2
        go_ret2
        exact ⟨rfl, HB3.out⟩
      · have HF1 : Hid (s.found l c = (j : Int)) := by unfold Hid SV.found; rw [f1]; congr 1; omega
        rw [f7] at HRE
        simp only at HRE
        rw [HF1.out] at HFD
        rw [HRE.out]
        have HNJ : Hid (∀ W : World, Below w.heap.size w W → ∃ (y : Nat), y < 5 ∧ W.cell? ⟨g, o + j, none⟩ = some (.int .i64 (y : Int)) ∧ W.cell? ⟨sp, y, none⟩ = some (.pointer (some ⟨(xs y).p, 0, none⟩)) ∧ s.file (y : Int) = some u) := fun W hb => by
          obtain ⟨g', o', y, u', h1, h2, h3, h4, _, h6, h7, _, _⟩ := (h.below hb).numAt (hl.below hb) hg j1
          cases h1
          rw [f3] at h2
          rw [h2] at f5
          rw [f5] at h4
          cases h4
          exact ⟨y, h3, h6, h7, f5⟩
        obtain ⟨y, y5, hy1, hy2, hyf⟩ := HNJ.out w (Below.refl _ _)
        have HIM : Hid (∀ W : World, Below w.heap.size w W → Calls Tryz.prog 107 #[.pointer (some ⟨(xs y).p, 0, none⟩), .int .i64 c] W fun e w' => e = .returned (.tuple #[.string (bytesOf (u.readS c)), .int .i64 (u.readF c)]) ∧ Below W.heap.size W w') := fun W hb => by
          have := (h.below hb).imgF hyf
          exact read_rim c W this.1 this.2
        have hgl : g < w.heap.size := World.block_lt_of_cell? _ _ hy1
        have hsl : sp < w.heap.size := World.block_lt_of_cell? _ _ hy2
        have k0 : (0 : Int) ≤ (j : Int) := by omega
        have k1 : (j : Int) < (l.length : Int) := by omega
        have k2 : ((j : Int)).toNat = j := by omega
        have k5 : decide ((j : Int) < 0) = false := by simp
        have k6 : (0 : Int) ≤ (y : Int) := by omega
        have k7 : (y : Int) < 5 := by omega
        generalize bytesOf (u.readS c) = z at HIM ⊢
        generalize u.readF c = er at HIM ⊢
        clear h hl hg hcc HRE HF1 hi hok hf hvc hth hc1 hc1' hl0 f1 f3 f4 f5 f6 f7 hyf HNJ HNO
        generalize l.length = q at hn0 hn1 hn2 HFD k1 ⊢
        generalize (xs y).p = yp at HIM hy2
        generalize (xs x).p = xp at HTH d2 hc2
        go_enter Tryz.func43, Tryz.ntmps43
        go_wp2
        go_region_held3 (fun W => Below w.heap.size w W ∧ W.cell? ⟨g, o, none⟩ = some (.int .i64 (x : Int)) ∧ W.cell? ⟨sp, x, none⟩ = some (.pointer (some ⟨xp, 0, none⟩)))
          (first | (exact ⟨HDR.out, d1, d2⟩) | assumption)
          (first
            | (go_at_call 85; refine (HTH.out _ (by assumption : Below w.heap.size w _ ∧ _).1).mono ?_; rintro e w' ⟨rfl, rfl⟩))
        go_wp2_with fail
        refine (HFD.out _ HDR.out).mono ?_
        rintro e w2 ⟨rfl, hb2⟩
        have HB2 := toHid (HDR.out.trans (hb2.mono HDR.out.size))
        clear hb2
        have e1 : w2.cell? ⟨g, o + j, none⟩ = some (.int .i64 (y : Int)) := (HB2.out.cell (p := ⟨g, o + j, none⟩) hgl).trans hy1
        have e2 : w2.cell? ⟨sp, y, none⟩ = some (.pointer (some ⟨yp, 0, none⟩)) := (HB2.out.cell (p := ⟨sp, y, none⟩) hsl).trans hy2
        have e3 : w2.drew.cell? ⟨g, o + j, none⟩ = some (.int .i64 (y : Int)) := e1
        have e4 : w2.drew.cell? ⟨sp, y, none⟩ = some (.pointer (some ⟨yp, 0, none⟩)) := e2
        have HBD : Hid (Below w.heap.size w w2.drew) := HB2.out.drew
        go_wp2
        go_region_held3 (fun W => W.cell? ⟨g, o + j, none⟩ = some (.int .i64 (y : Int)) ∧ W.cell? ⟨sp, y, none⟩ = some (.pointer (some ⟨yp, 0, none⟩)))
          (first | (exact ⟨e3, e4⟩) | assumption)
          (first
            | (go_at_call 107; refine (HIM.out _ HBD.out).mono ?_; rintro e w3 ⟨rfl, hb3⟩; have hS3 : w3.cell? ⟨g, o + j, none⟩ = some (.int .i64 (y : Int)) ∧ w3.cell? ⟨sp, y, none⟩ = some (.pointer (some ⟨yp, 0, none⟩)) := ⟨(hb3.cell (World.block_lt_of_cell? _ _ e3)).trans e3, (hb3.cell (World.block_lt_of_cell? _ _ e4)).trans e4⟩))
        have HB3 := toHid (HBD.out.trans (hb3.mono HBD.out.size))
        clear hb3 hS3
        go_wp2
        go_ret2
        exact ⟨rfl, HB3.out⟩
    · have e1 : s.read l c = (bytesOf [], 1) := by unfold SV.read; rw [if_neg hnil, hcc, if_neg hin]
      rw [e1]
      rw [hth, decide_eq_false hin] at HTH
      clear h hl hg hcc e1 hi hok hf hvc hth hc1 hl0
      generalize l.length = q at hn0 hn1 hn2 ⊢
      generalize (xs x).p = xp at HTH d2 hc2
      go_enter Tryz.func43, Tryz.ntmps43
      go_wp2
      go_region_held3 (fun W => Below w.heap.size w W ∧ W.cell? ⟨g, o, none⟩ = some (.int .i64 (x : Int)) ∧ W.cell? ⟨sp, x, none⟩ = some (.pointer (some ⟨xp, 0, none⟩)))
        (first | (exact ⟨HDR.out, d1, d2⟩) | assumption)
        (first
          | (go_at_call 85; refine (HTH.out _ (by assumption : Below w.heap.size w _ ∧ _).1).mono ?_; rintro e w' ⟨rfl, rfl⟩))
      go_wp2
      go_ret2
      exact ⟨rfl, HDR.out⟩

set_option maxRecDepth 100000 in
set_option maxHeartbeats 2000000 in
theorem rwithin_any {sp m cap : Nat} {xs : Nat → Qh} {s : SV} {a : Option Addr} {C : Int} (l : List Int) (fr n : Int) (w : World) (h : IsRshelf w sp xs s m) (hl : Nums w a l) (hg : s.good C l) (hC : 0 ≤ C ∧ C ≤ 1000) (hfr : -9223372036854775808 ≤ fr ∧ fr ≤ 9223372036854775807) :
    Calls Tryz.prog 98 #[.pointer (some ⟨sp, 0, none⟩), .slice a l.length cap, .int .i64 fr, .int .i64 n] w fun e w' => e = .returned (.int .i64 (s.chkF l fr n)) ∧ Below w.heap.size w w' := by
  by_cases hnil : l = []
  · subst hnil
    have e1 : s.chkF [] fr n = 4 := rfl
    rw [e1]
    clear h hl hg e1
    go_enter Tryz.func98, Tryz.ntmps98
    go_wp2
    go_ret
    exact ⟨rfl, Below.refl _ _⟩
  · have hcc : s.clusters l = C := hg.clusters hnil
    have hl0 : 0 < l.length := List.length_pos_iff.2 hnil
    have hn0 : ((l.length : Int) == 0) = false := by simp; omega
    have hn1 : (0 : Int) < (l.length : Int) := by omega
    have hn2 : 0 < l.length := hl0
    obtain ⟨g, o, x, v, rfl, hx, x5, hf, hvc, hc1, hc2, hi, hok⟩ := h.numAt hl hg hl0
    have hc1' : w.cell? ⟨g, o, none⟩ = some (.int .i64 (x : Int)) := hc1
    have c1 := hi.cells.2.1
    rw [hvc] at c1
    have HF : Hid (s.chkF l fr n = if fr < 0 ∨ n < 0 ∨ 4 * C - fr < n then 1 else 0) := by unfold Hid SV.chkF; rw [if_neg hnil, hcc]
    generalize s.chkF l fr n = F at HF ⊢
    have k1 : IntKind.i64.wrap (4 * C) = 4 * C := IntWalk.i64_in _ (by omega)
    have k3 : (0 : Int) ≤ (x : Int) := by omega
    have k4 : (x : Int) < 5 := by omega
    clear h hl hg hcc hi hok hf hvc hc1 hl0
    generalize l.length = q at hn0 hn1 hn2 ⊢
    generalize (xs x).p = xp at c1 hc2
    have HDR : Hid (Below w.heap.size w w.drew) := (Below.refl _ _).drew
    by_cases h0 : fr < 0
    · have g0 : decide (fr < 0) = true := decide_eq_true h0
      have HF1 : Hid (F = 1) := by unfold Hid; rw [HF.out, if_pos (.inl h0)]
      clear HF
      go_enter Tryz.func98, Tryz.ntmps98
      go_wp2
      go_region
      go_wp2
      go_ret
      exact ⟨ret_i HF1.out.symm, HDR.out⟩
    · have g0 : decide (fr < 0) = false := decide_eq_false h0
      by_cases h1 : n < 0
      · have g1 : decide (n < 0) = true := decide_eq_true h1
        have HF1 : Hid (F = 1) := by unfold Hid; rw [HF.out, if_pos (.inr (.inl h1))]
        clear HF
        go_enter Tryz.func98, Tryz.ntmps98
        go_wp2
        go_region
        go_wp2
        go_ret
        exact ⟨ret_i HF1.out.symm, HDR.out⟩
      · have g1 : decide (n < 0) = false := decide_eq_false h1
        have k2 : IntKind.i64.wrap (4 * C - fr) = 4 * C - fr := IntWalk.i64_in _ (by omega)
        by_cases h3 : 4 * C < fr
        · have g3 : decide (4 * C < fr) = true := decide_eq_true h3
          have HF1 : Hid (F = 1) := by unfold Hid; rw [HF.out, if_pos (.inr (.inr (by omega)))]
          clear HF
          go_enter Tryz.func98, Tryz.ntmps98
          go_wp2
          go_region
          go_wp2
          go_ret
          exact ⟨ret_i HF1.out.symm, HDR.out⟩
        · have g3 : decide (4 * C < fr) = false := decide_eq_false h3
          by_cases h2 : 4 * C - fr < n
          · have g2 : decide (4 * C - fr < n) = true := decide_eq_true h2
            have HF1 : Hid (F = 1) := by unfold Hid; rw [HF.out, if_pos (.inr (.inr (by omega)))]
            clear HF
            go_enter Tryz.func98, Tryz.ntmps98
            go_wp2
            go_region
            go_wp2
            go_ret
            exact ⟨ret_i HF1.out.symm, HDR.out⟩
          · have g2 : decide (4 * C - fr < n) = false := decide_eq_false h2
            have HF1 : Hid (F = 0) := by unfold Hid; rw [HF.out, if_neg (by omega)]
            clear HF
            go_enter Tryz.func98, Tryz.ntmps98
            go_wp2
            go_region
            go_wp2
            go_ret
            exact ⟨ret_i HF1.out.symm, HDR.out⟩
end Go.Proofs.YtjegaljdindfaabGreatDoor
