/-
A part of a range, put or wiped in the first file (G3).
-/
import Derived.Test.YtonhoahnieoebabGreatDoorQChainParts
import Derived.BigRegion
namespace Go.Proofs.YtonhoahnieoebabGreatDoor
open Go.RowKit Go.Maps
attribute [local go_sem ↓] Go.wp_at_zero Go.wp_at_succ

theorem write_s {sp m : Nat} {xs : Nat → Ih} {s : SV} {n : Int} {v : IV} (c f : Int) (t : ByteArray) (w : World) (h : IsShelf w sp xs s m) (hf : s.file n = some v) (hm : m + 10 < 1000000000) (ht : t.size ≤ 1000) (hr : -9223372036854775808 ≤ f ∧ f ≤ 9223372036854775807) :
    Calls Tryz.prog 185 #[.pointer (some ⟨(xs n.toNat).p, 0, none⟩), .int .i64 c, .int .i64 f, .string t] w (SDid w sp xs s (m + 10) (s.upd n.toNat (v.write c f t), v.writeF c f t)) := by
  obtain ⟨i1, i2⟩ := h.imgF hf
  exact (write_img c f t w i1.but i2 hm (Nat.le_refl _) ht hr).mono fun e w' hd => SDid.of h hf (by omega) (i2.write c f t (by omega)) hd

theorem fill_s {sp m : Nat} {xs : Nat → Ih} {s : SV} {n : Int} {v : IV} (c : Int) (t : ByteArray) (w : World) (h : IsShelf w sp xs s m) (hf : s.file n = some v) (hm : m + 10 < 1000000000) :
    Calls Tryz.prog 65 #[.pointer (some ⟨(xs n.toNat).p, 0, none⟩), .int .i64 c, .string t] w (SDid w sp xs s (m + 10) (s.upd n.toNat (v.fill c t), v.fillF c t)) := by
  obtain ⟨i1, i2⟩ := h.imgF hf
  exact (fill_img c t w i1.but i2 hm (Nat.le_refl _)).mono fun e w' hd => SDid.of h hf (by omega) (i2.fill c t (by omega)) hd

theorem clear_s {sp m : Nat} {xs : Nat → Ih} {s : SV} {n : Int} {v : IV} (c : Int) (w : World) (h : IsShelf w sp xs s m) (hf : s.file n = some v) (hm : m + 10 < 1000000000) :
    Calls Tryz.prog 63 #[.pointer (some ⟨(xs n.toNat).p, 0, none⟩), .int .i64 c] w (SDid w sp xs s (m + 10) (s.upd n.toNat (v.clear c), v.clearF c)) := by
  obtain ⟨i1, i2⟩ := h.imgF hf
  exact (clear_img c w i1.but i2 hm (Nat.le_refl _)).mono fun e w' hd => SDid.of h hf (by omega) (i2.clear c (by omega)) hd

theorem old_parts {o t : ByteArray} {f n : Nat} (ht : t.size = n * 16) (hp : f + n ≤ 4) : secB o 0 f ++ t ++ secB o (f + n) (4 - (f + n)) = o.extract 0 (f * 16) ++ t ++ o.extract (f * 16 + t.size) 64 := by
  unfold secB
  rw [show 0 * 16 = 0 by omega, show 0 + f = f by omega, show (f + n) * 16 = f * 16 + t.size by omega, show (f + n + (4 - (f + n))) * 16 = 64 by omega]

set_option maxRecDepth 100000 in
set_option maxHeartbeats 2000000 in
theorem putPart_any {sp m cap : Nat} {xs : Nat → Ih} {s : SV} {a : Option Addr} {C : Int} (x : Int) (r : List Int) (c f n b : Nat) (t : ByteArray) (w : World) (h : IsShelf w sp xs s m) (hl : Nums w a (x :: r)) (hg : s.good C (x :: r)) (h5 : (x :: r).length ≤ 100) (hm : m + 10 < 1000000000) (hp : f + n ≤ 4) (hc : (c : Int) < C) (ht : t.size = n * 16) :
    Calls Tryz.prog 176 #[.pointer (some ⟨sp, 6, none⟩), .slice a (x :: r).length cap, .agg #[.int .i64 (c : Int), .int .i64 (f : Int), .int .i64 (n : Int), .int .i64 (b : Int)], .string t] w (SDid w sp xs s (m + 10) (s.lay (x :: r) c f t)) := by
  obtain ⟨v, hf, hvc⟩ := hg x List.mem_cons_self
  obtain ⟨x0, x5, _⟩ := SV.file_of hf
  obtain ⟨r1, r2⟩ := SV.read_yes hg h.ok (by simp) (c := (c : Int)) ⟨by omega, hc⟩
  have HLY : Hid (s.lay (x :: r) c f t = if (v.entE c).1 = 2 then (s.upd x.toNat (v.write c f t), v.writeF c f t) else
      (s.upd x.toNat (v.fill c ((s.read (x :: r) c).1.extract 0 (f * 16) ++ t ++ (s.read (x :: r) c).1.extract (f * 16 + t.size) 64)), v.fillF c ((s.read (x :: r) c).1.extract 0 (f * 16) ++ t ++ (s.read (x :: r) c).1.extract (f * 16 + t.size) 64))) := by
    unfold Hid; show (match s.file x with | none => (s, (4 : Int)) | some v => _) = _; rw [hf]
  have HKO : Hid (∀ W : World, Below w.heap.size w W → Calls Tryz.prog 184 #[.pointer (some ⟨(xs x.toNat).p, 0, none⟩), .int .i64 (c : Int)] W fun e w' => e = .returned (.int .i64 (v.entE c).1) ∧ Below W.heap.size W w') := fun W hb => kindOf_img (c : Int) W ((h.below hb).imgF hf).1
  have HWR : Hid (∀ W : World, Below w.heap.size w W → Calls Tryz.prog 185 #[.pointer (some ⟨(xs x.toNat).p, 0, none⟩), .int .i64 (c : Int), .int .i64 (f : Int), .string t] W (SDid w sp xs s (m + 10) (s.upd x.toNat (v.write c f t), v.writeF c f t))) := fun W hb =>
    (write_s (c : Int) (f : Int) t W (h.below hb) hf hm (by omega) (by omega)).mono fun e w' hd => hd.from hb
  have HFL : Hid (∀ (T : ByteArray) (W : World), Below w.heap.size w W → Calls Tryz.prog 65 #[.pointer (some ⟨(xs x.toNat).p, 0, none⟩), .int .i64 (c : Int), .string T] W (SDid W sp xs s (m + 10) (s.upd x.toNat (v.fill c T), v.fillF c T))) := fun T W hb =>
    fill_s (c : Int) T W (h.below hb) hf hm
  have HRD : Hid (∀ W : World, Below w.heap.size w W → Calls Tryz.prog 57 #[.pointer (some ⟨sp, 6, none⟩), .slice a (x :: r).length cap, .int .i64 (c : Int)] W fun e w' => e = .returned (.tuple #[.string (s.read (x :: r) c).1, .nilIface]) ∧ Below W.heap.size W w') := fun W hb => by
    have := cread_any (cap := cap) (x :: r) (c : Int) W (h.below hb) (hl.below hb) hg h5
    rw [r1, erV_0] at this; exact this
  have HKP : Hid (∀ k, w.heap.size ≤ k → ¬ fpS xs s k) := fun k hk hs => by have := h.fpLt hs; omega
  have HCE : Hid (∀ W : World, Below w.heap.size w W → W.cell? ⟨sp, 6 + x.toNat, none⟩ = some (.pointer (some ⟨(xs x.toNat).p, 0, none⟩))) := fun W hb => (h.below hb).cellF hf
  obtain ⟨g, o, ha, hcn⟩ := hl 0 (by simp)
  subst ha
  have hcn' : w.cell? ⟨g, o, none⟩ = some (.int .i64 x) := hcn
  have hgl : g < w.heap.size := World.block_lt_of_cell? _ _ hcn
  obtain ⟨k, rfl⟩ : ∃ k : Nat, x = (k : Int) := ⟨x.toNat, by omega⟩
  have hk : ((k : Int)).toNat = k := by omega
  rw [hk] at HKO HWR HFL HCE HLY
  have k3 : (0 : Int) ≤ (k : Int) := by omega
  have k4 : (k : Int) < 5 := by omega
  have hn0 : (0 : Int) < (((k : Int) :: r).length : Int) := by simp
  generalize hlen : ((k : Int) :: r).length = q at hn0 h5 HRD ⊢
  generalize s.lay ((k : Int) :: r) c f t = R at HLY ⊢
  generalize (s.read ((k : Int) :: r) c).1 = old at r2 HRD HLY
  generalize (v.entE c).1 = y at HKO HLY
  generalize (xs k).p = xp at HKO HWR HFL HCE
  obtain ⟨SG, hSG⟩ : ∃ SG : Int → Int → ByteArray, SG = fun x y => secB old x.toNat y.toNat := ⟨_, rfl⟩
  obtain ⟨bh, hbh⟩ : ∃ bh : Int, bh = (f : Int) + (n : Int) := ⟨_, rfl⟩
  obtain ⟨rs, hrs⟩ : ∃ rs : Int, rs = 4 - bh := ⟨_, rfl⟩
  have HSE : Hid (∀ (x y : Int) (W : World), (x = 0 ∧ y = (f : Int)) ∨ (x = bh ∧ y = rs) → Calls Tryz.prog 177 #[.string old, .int .i64 x, .int .i64 y] W fun e w' => e = .returned (.string (SG x y)) ∧ w' = W) := fun x y W hxy => by
    have e1 : ((x.toNat : Nat) : Int) = x := by omega
    have e2 : ((y.toNat : Nat) : Int) = y := by omega
    have := sectors_any old x.toNat y.toNat W (by omega) (by omega)
    rw [e1, e2] at this
    rw [hSG]; exact this
  have hz1 : (secB old 0 f).size = f * 16 := secB_size (by omega)
  have hz2 : (secB old (f + n) (4 - (f + n))).size = (4 - (f + n)) * 16 := secB_size (by omega)
  have hE1 : SG 0 (f : Int) = secB old 0 f := by rw [hSG]; rfl
  have hE2 : SG bh rs = secB old (f + n) (4 - (f + n)) := by rw [hSG]; show secB old bh.toNat rs.toNat = _; congr 1 <;> omega
  have HOL := toHid (old_parts (o := old) ht hp)
  rw [← hE1] at hz1 HOL
  rw [← hE2] at hz2 HOL
  clear hE1 hE2 hSG
  have HB0 : Hid (Below w.heap.size w (w.alloc (.cells #[.int .i64 (c : Int), .int .i64 (f : Int), .int .i64 (n : Int), .int .i64 (b : Int)] 224))) := (Below.refl _ _).alloc (Nat.le_refl _) _
  have HX : Hid ((w.alloc (.cells #[.int .i64 (c : Int), .int .i64 (f : Int), .int .i64 (n : Int), .int .i64 (b : Int)] 224)).heap[w.heap.size]? = some (.cells #[.int .i64 (c : Int), .int .i64 (f : Int), .int .i64 (n : Int), .int .i64 (b : Int)] 224 (0, 0))) := heap_alloc_new _ _
  clear h hl hg hf hcn hvc hlen
  go_enter Tryz.func176, Tryz.ntmps176
  go_wp2
  generalize w.alloc (.cells #[.int .i64 (c : Int), .int .i64 (f : Int), .int .i64 (n : Int), .int .i64 (b : Int)] 224) = w0 at HB0 HX ⊢
  have d1 : w0.cell? ⟨g, o, none⟩ = some (.int .i64 (k : Int)) := (HB0.out.cell (p := ⟨g, o, none⟩) hgl).trans hcn'
  have d2 := HCE.out w0 HB0.out
  have y0 : w0.cell? ⟨w.heap.size, 0, none⟩ = some (.int .i64 (c : Int)) := by rw [cell_of_row _ _ _ _ _ _ HX.out]; rfl
  have y1 : w0.cell? ⟨w.heap.size, 1, none⟩ = some (.int .i64 (f : Int)) := by rw [cell_of_row _ _ _ _ _ _ HX.out]; rfl
  have y2 : w0.cell? ⟨w.heap.size, 2, none⟩ = some (.int .i64 (n : Int)) := by rw [cell_of_row _ _ _ _ _ _ HX.out]; rfl
  have hXl : w.heap.size < w0.heap.size := lt_of_some HX.out
  go_region
  have HBD : Hid (Below w.heap.size w w0.drew) := HB0.out.drew
  have e0 : w0.drew.cell? ⟨w.heap.size, 0, none⟩ = some (.int .i64 (c : Int)) := y0
  have e1 : w0.drew.cell? ⟨w.heap.size, 1, none⟩ = some (.int .i64 (f : Int)) := y1
  have e2 : w0.drew.cell? ⟨w.heap.size, 2, none⟩ = some (.int .i64 (n : Int)) := y2
  have HKW := toHid (HKO.out _ HBD.out)
  clear y0 y1 y2 d1 d2
  go_wp2_with fail
  refine HKW.out.mono ?_
  rintro e w1 ⟨rfl, hb1⟩
  have HB1 := toHid (HBD.out.trans (hb1.mono HBD.out.size))
  have z0 := (hb1.cell (World.block_lt_of_cell? _ _ e0)).trans e0
  have z1 := (hb1.cell (World.block_lt_of_cell? _ _ e1)).trans e1
  have z2 := (hb1.cell (World.block_lt_of_cell? _ _ e2)).trans e2
  clear e0 e1 e2 hb1 HKO HKW
  by_cases hy : y = 2
  · have g1 : (y == 2) = true := by simpa using hy
    have HR : Hid (R = (s.upd k (v.write c f t), v.writeF c f t)) := by unfold Hid; rw [HLY.out, if_pos hy]
    have HW1 := toHid (HWR.out _ HB1.out)
    rw [← HR.out] at HW1
    clear hy HLY HFL HRD HWR
    go_wp2_with fail
    refine HW1.out.mono ?_
    rintro e w2 ⟨xs', rfl, h2, h3⟩
    have HD : Hid (SDid w sp xs s (m + 10) R (.returned (erV R.2)) w2) := ⟨xs', rfl, h2, h3⟩
    clear h2 h3
    go_wp2
    go_ret
    exact HD.out
  · have g1 : (y == 2) = false := by simpa using hy
    have HR : Hid (R = (s.upd k (v.fill c (SG 0 (f : Int) ++ t ++ SG bh rs)), v.fillF c (SG 0 (f : Int) ++ t ++ SG bh rs))) := by unfold Hid; rw [HOL.out, HLY.out, if_neg hy]
    clear hy HLY HWR
    have HRW := toHid (HRD.out _ HB1.out)
    go_wp2_with fail
    refine HRW.out.mono ?_
    rintro e w2 ⟨rfl, hb2⟩
    have HB2 := toHid (HB1.out.trans (hb2.mono HB1.out.size))
    have u0 := (hb2.cell (World.block_lt_of_cell? _ _ z0)).trans z0
    have u1 := (hb2.cell (World.block_lt_of_cell? _ _ z1)).trans z1
    have u2 := (hb2.cell (World.block_lt_of_cell? _ _ z2)).trans z2
    clear z0 z1 z2 hb2 HRW HRD
    have k5 : IntKind.i64.wrap ((f : Int) + (n : Int)) = bh := by rw [hbh]; exact IntWalk.i64_in _ (by omega)
    have k6 : IntKind.i64.wrap (4 - bh) = rs := by rw [hrs]; exact IntWalk.i64_in _ (by omega)
    have v0 : w2.drew.cell? ⟨w.heap.size, 0, none⟩ = some (.int .i64 (c : Int)) := u0
    have v1 : w2.drew.cell? ⟨w.heap.size, 1, none⟩ = some (.int .i64 (f : Int)) := u1
    have HB3 : Hid (Below w.heap.size w w2.drew) := HB2.out.drew
    generalize hA : SG 0 (f : Int) = SA at hz1 HR
    generalize hB : SG bh rs = SB at hz2 HR
    have k7 : ¬ 9223372036854775807 < SA.size + t.size := by omega
    have k8 : ¬ 9223372036854775807 < SA.size + t.size + SB.size := by omega
    have k9 : ¬ 9223372036854775807 < (SA ++ t).size + SB.size := by rw [ByteArray.size_append]; omega
    have HF3 := toHid (HFL.out (SA ++ t ++ SB) _ HB3.out)
    rw [← HR.out] at HF3
    rw [← hA] at HF3 k7 k8 k9
    rw [← hB] at HF3 k8 k9
    clear hA hB HFL HOL ht hz1 hz2 r2 hbh hrs HR
    go_wp2
    go_region_held3 (fun W => W.cell? ⟨w.heap.size, 0, none⟩ = some (.int .i64 (c : Int)) ∧ W.cell? ⟨w.heap.size, 1, none⟩ = some (.int .i64 (f : Int)))
      (first | (exact ⟨v0, v1⟩) | assumption)
      (first
        | (go_at_call 177; refine (HSE.out _ _ _ ?_).mono ?_; (· first | exact .inl ⟨rfl, rfl⟩ | exact .inr ⟨rfl, rfl⟩); rintro e w' ⟨rfl, rfl⟩)
        | (go_at_call 65; refine HF3.out.mono ?_; rintro e w4 ⟨xs', rfl, h2, h3⟩; have hS4 : w4.cell? ⟨w.heap.size, 0, none⟩ = some (.int .i64 (c : Int)) ∧ w4.cell? ⟨w.heap.size, 1, none⟩ = some (.int .i64 (f : Int)) := ⟨(h3.cell (p := ⟨w.heap.size, 0, none⟩) (World.block_lt_of_cell? _ _ v0) (HKP.out _ (Nat.le_refl _))).trans v0, (h3.cell (p := ⟨w.heap.size, 1, none⟩) (World.block_lt_of_cell? _ _ v1) (HKP.out _ (Nat.le_refl _))).trans v1⟩))
    have HD : Hid (SDid w sp xs s (m + 10) R (.returned (erV R.2)) w4) := SDid.from ⟨xs', rfl, h2, h3⟩ HB3.out
    clear h2 h3 hS4
    go_wp2
    go_ret
    exact HD.out

/- A part wiped. -/
set_option maxRecDepth 100000 in
set_option maxHeartbeats 2000000 in
theorem wipePart_any {sp m cap : Nat} {xs : Nat → Ih} {s : SV} {a : Option Addr} {C : Int} (x : Int) (r : List Int) (c f n b : Nat) (w : World) (h : IsShelf w sp xs s m) (hl : Nums w a (x :: r)) (hg : s.good C (x :: r)) (h5 : (x :: r).length ≤ 100) (hm : m + 10 < 1000000000) (hp : f + n ≤ 4) (hc : (c : Int) < C) :
    Calls Tryz.prog 180 #[.pointer (some ⟨sp, 6, none⟩), .slice a (x :: r).length cap, .agg #[.int .i64 (c : Int), .int .i64 (f : Int), .int .i64 (n : Int), .int .i64 (b : Int)]] w (SDid w sp xs s (m + 10) (SV.wipePt (x :: r) s ⟨c, f, n, b⟩)) := by
  obtain ⟨v, hf, hvc⟩ := hg x List.mem_cons_self
  obtain ⟨x0, x5, _⟩ := SV.file_of hf
  have HLY : Hid (SV.wipePt (x :: r) s ⟨c, f, n, b⟩ = if n = 4 then (s.upd x.toNat (v.clear c), v.clearF c) else if (v.entE c).1 = 1 then (s, 0) else s.lay (x :: r) c f (noughtB (n * 16))) := by
    unfold Hid; show (match s.file x with | none => (s, (4 : Int)) | some v => _) = _; rw [hf]
  have HKO : Hid (∀ W : World, Below w.heap.size w W → Calls Tryz.prog 184 #[.pointer (some ⟨(xs x.toNat).p, 0, none⟩), .int .i64 (c : Int)] W fun e w' => e = .returned (.int .i64 (v.entE c).1) ∧ Below W.heap.size W w') := fun W hb => kindOf_img (c : Int) W ((h.below hb).imgF hf).1
  have HCL : Hid (∀ W : World, Below w.heap.size w W → Calls Tryz.prog 63 #[.pointer (some ⟨(xs x.toNat).p, 0, none⟩), .int .i64 (c : Int)] W (SDid w sp xs s (m + 10) (s.upd x.toNat (v.clear c), v.clearF c))) := fun W hb =>
    (clear_s (c : Int) W (h.below hb) hf hm).mono fun e w' hd => hd.from hb
  have HPP : Hid (∀ W : World, Below w.heap.size w W → Calls Tryz.prog 176 #[.pointer (some ⟨sp, 6, none⟩), .slice a (x :: r).length cap, .agg #[.int .i64 (c : Int), .int .i64 (f : Int), .int .i64 (n : Int), .int .i64 (b : Int)], .string (noughtB (n * 16))] W (SDid W sp xs s (m + 10) (s.lay (x :: r) c f (noughtB (n * 16))))) := fun W hb =>
    putPart_any x r c f n b (noughtB (n * 16)) W (h.below hb) (hl.below hb) hg h5 hm hp hc (by show (List.replicate (n * 16) (0 : UInt8)).toArray.size = _; simp)
  have HNO : Hid (∀ W : World, Calls Tryz.prog 151 #[.int .i64 (n : Int)] W fun e w' => e = .returned (.string (noughtB (n * 16))) ∧ Below W.heap.size W w') := fun W => cnoughts_any n W (by omega)
  have HSM : Hid (∀ W : World, Below w.heap.size w W → SDid w sp xs s (m + 10) (s, 0) (.returned .nilIface) W) := fun W hb => by rw [← erV_0]; exact SDid.same (h.more (by omega)) hb
  have HKP : Hid (∀ k, w.heap.size ≤ k → ¬ fpS xs s k) := fun k hk hs => by have := h.fpLt hs; omega
  have HCE : Hid (∀ W : World, Below w.heap.size w W → W.cell? ⟨sp, 6 + x.toNat, none⟩ = some (.pointer (some ⟨(xs x.toNat).p, 0, none⟩))) := fun W hb => (h.below hb).cellF hf
  obtain ⟨g, o, ha, hcn⟩ := hl 0 (by simp)
  subst ha
  have hcn' : w.cell? ⟨g, o, none⟩ = some (.int .i64 x) := hcn
  have hgl : g < w.heap.size := World.block_lt_of_cell? _ _ hcn
  obtain ⟨k, rfl⟩ : ∃ k : Nat, x = (k : Int) := ⟨x.toNat, by omega⟩
  have hk : ((k : Int)).toNat = k := by omega
  rw [hk] at HKO HCL HCE HLY
  have k3 : (0 : Int) ≤ (k : Int) := by omega
  have k4 : (k : Int) < 5 := by omega
  have hn0 : (0 : Int) < (((k : Int) :: r).length : Int) := by simp
  generalize hlen : ((k : Int) :: r).length = q at hn0 h5 HPP ⊢
  generalize SV.wipePt ((k : Int) :: r) s ⟨c, f, n, b⟩ = R at HLY ⊢
  generalize s.lay ((k : Int) :: r) c f (noughtB (n * 16)) = RL at HLY HPP
  generalize noughtB (n * 16) = NB at HPP HNO
  generalize (v.entE c).1 = y at HKO HLY
  generalize (xs k).p = xp at HKO HCL HCE
  have HB0 : Hid (Below w.heap.size w (w.alloc (.cells #[.int .i64 (c : Int), .int .i64 (f : Int), .int .i64 (n : Int), .int .i64 (b : Int)] 224))) := (Below.refl _ _).alloc (Nat.le_refl _) _
  have HX : Hid ((w.alloc (.cells #[.int .i64 (c : Int), .int .i64 (f : Int), .int .i64 (n : Int), .int .i64 (b : Int)] 224)).heap[w.heap.size]? = some (.cells #[.int .i64 (c : Int), .int .i64 (f : Int), .int .i64 (n : Int), .int .i64 (b : Int)] 224 (0, 0))) := heap_alloc_new _ _
  clear h hl hg hf hcn hvc hlen
  go_enter Tryz.func180, Tryz.ntmps180
  go_wp2
  generalize w.alloc (.cells #[.int .i64 (c : Int), .int .i64 (f : Int), .int .i64 (n : Int), .int .i64 (b : Int)] 224) = w0 at HB0 HX ⊢
  have d1 : w0.cell? ⟨g, o, none⟩ = some (.int .i64 (k : Int)) := (HB0.out.cell (p := ⟨g, o, none⟩) hgl).trans hcn'
  have d2 := HCE.out w0 HB0.out
  have y0 : w0.cell? ⟨w.heap.size, 0, none⟩ = some (.int .i64 (c : Int)) := by rw [cell_of_row _ _ _ _ _ _ HX.out]; rfl
  have y1 : w0.cell? ⟨w.heap.size, 1, none⟩ = some (.int .i64 (f : Int)) := by rw [cell_of_row _ _ _ _ _ _ HX.out]; rfl
  have y2 : w0.cell? ⟨w.heap.size, 2, none⟩ = some (.int .i64 (n : Int)) := by rw [cell_of_row _ _ _ _ _ _ HX.out]; rfl
  have y3 : w0.cell? ⟨w.heap.size, 3, none⟩ = some (.int .i64 (b : Int)) := by rw [cell_of_row _ _ _ _ _ _ HX.out]; rfl
  have hXl : w.heap.size < w0.heap.size := lt_of_some HX.out
  go_region
  have HBD : Hid (Below w.heap.size w w0.drew) := HB0.out.drew
  have e0 : w0.drew.cell? ⟨w.heap.size, 0, none⟩ = some (.int .i64 (c : Int)) := y0
  have e1 : w0.drew.cell? ⟨w.heap.size, 1, none⟩ = some (.int .i64 (f : Int)) := y1
  have e2 : w0.drew.cell? ⟨w.heap.size, 2, none⟩ = some (.int .i64 (n : Int)) := y2
  have e3 : w0.drew.cell? ⟨w.heap.size, 3, none⟩ = some (.int .i64 (b : Int)) := y3
  clear y0 y1 y2 y3 d1 d2
  by_cases h4 : n = 4
  · have g1 : ((n : Int) == 4) = true := by simp; omega
    have HR : Hid (R = (s.upd k (v.clear c), v.clearF c)) := by unfold Hid; rw [HLY.out, if_pos h4]
    have HC1 := toHid (HCL.out _ HBD.out)
    rw [← HR.out] at HC1
    clear h4 HLY HPP HNO HKO HCL
    go_wp2_with fail
    refine HC1.out.mono ?_
    rintro e w2 ⟨xs', rfl, h2, h3⟩
    have HD : Hid (SDid w sp xs s (m + 10) R (.returned (erV R.2)) w2) := ⟨xs', rfl, h2, h3⟩
    clear h2 h3
    go_wp2
    go_ret
    exact HD.out
  · have g1 : ((n : Int) == 4) = false := by simp; omega
    have HKW := toHid (HKO.out _ HBD.out)
    go_wp2_with fail
    refine HKW.out.mono ?_
    rintro e w1 ⟨rfl, hb1⟩
    have HB1 := toHid (HBD.out.trans (hb1.mono HBD.out.size))
    have z0 := (hb1.cell (World.block_lt_of_cell? _ _ e0)).trans e0
    have z1 := (hb1.cell (World.block_lt_of_cell? _ _ e1)).trans e1
    have z2 := (hb1.cell (World.block_lt_of_cell? _ _ e2)).trans e2
    have z3 := (hb1.cell (World.block_lt_of_cell? _ _ e3)).trans e3
    clear e0 e1 e2 e3 hb1 HKO HKW
    by_cases hy : y = 1
    · have g2 : (y == 1) = true := by simpa using hy
      have HR : Hid (R = (s, 0)) := by unfold Hid; rw [HLY.out, if_neg h4, if_pos hy]
      have HD := toHid (HSM.out _ HB1.out)
      rw [← HR.out] at HD
      clear hy HLY HPP HNO HCL HSM
      go_wp2
      go_ret
      exact HD.out
    · have g2 : (y == 1) = false := by simpa using hy
      have HR : Hid (R = RL) := by unfold Hid; rw [HLY.out, if_neg h4, if_neg hy]
      rw [← HR.out] at HPP
      have u0 : w1.drew.cell? ⟨w.heap.size, 0, none⟩ = some (.int .i64 (c : Int)) := z0
      have u1 : w1.drew.cell? ⟨w.heap.size, 1, none⟩ = some (.int .i64 (f : Int)) := z1
      have u2 : w1.drew.cell? ⟨w.heap.size, 2, none⟩ = some (.int .i64 (n : Int)) := z2
      have u3 : w1.drew.cell? ⟨w.heap.size, 3, none⟩ = some (.int .i64 (b : Int)) := z3
      have HB2 : Hid (Below w.heap.size w w1.drew) := HB1.out.drew
      have hNl : w.heap.size < w1.drew.heap.size := World.block_lt_of_cell? _ _ u0
      clear hy HLY HCL HSM z0 z1 z2 z3
      go_wp2
      go_region_held3 (fun W => W.cell? ⟨w.heap.size, 0, none⟩ = some (.int .i64 (c : Int)) ∧ W.cell? ⟨w.heap.size, 1, none⟩ = some (.int .i64 (f : Int)) ∧ W.cell? ⟨w.heap.size, 2, none⟩ = some (.int .i64 (n : Int)) ∧ W.cell? ⟨w.heap.size, 3, none⟩ = some (.int .i64 (b : Int)))
        (first | (exact ⟨u0, u1, u2, u3⟩) | assumption)
        (first
          | (go_at_call 151; refine (HNO.out _).mono ?_; rintro e w3 ⟨rfl, hb3⟩; have hS3 : w3.cell? ⟨w.heap.size, 0, none⟩ = some (.int .i64 (c : Int)) ∧ w3.cell? ⟨w.heap.size, 1, none⟩ = some (.int .i64 (f : Int)) ∧ w3.cell? ⟨w.heap.size, 2, none⟩ = some (.int .i64 (n : Int)) ∧ w3.cell? ⟨w.heap.size, 3, none⟩ = some (.int .i64 (b : Int)) := ⟨(hb3.cell (p := ⟨w.heap.size, 0, none⟩) hNl).trans u0, (hb3.cell (p := ⟨w.heap.size, 1, none⟩) hNl).trans u1, (hb3.cell (p := ⟨w.heap.size, 2, none⟩) hNl).trans u2, (hb3.cell (p := ⟨w.heap.size, 3, none⟩) hNl).trans u3⟩)
          | (go_at_call 176; refine (HPP.out w3 (HB2.out.trans (hb3.mono HB2.out.size))).mono ?_; rintro e w4 ⟨xs', rfl, h2, h3⟩; have hS4 : w4.cell? ⟨w.heap.size, 0, none⟩ = some (.int .i64 (c : Int)) ∧ w4.cell? ⟨w.heap.size, 1, none⟩ = some (.int .i64 (f : Int)) ∧ w4.cell? ⟨w.heap.size, 2, none⟩ = some (.int .i64 (n : Int)) ∧ w4.cell? ⟨w.heap.size, 3, none⟩ = some (.int .i64 (b : Int)) := ⟨(h3.cell (p := ⟨w.heap.size, 0, none⟩) (Nat.lt_of_lt_of_le hNl hb3.size) (HKP.out _ (Nat.le_refl _))).trans hS3.1, (h3.cell (p := ⟨w.heap.size, 1, none⟩) (Nat.lt_of_lt_of_le hNl hb3.size) (HKP.out _ (Nat.le_refl _))).trans hS3.2.1, (h3.cell (p := ⟨w.heap.size, 2, none⟩) (Nat.lt_of_lt_of_le hNl hb3.size) (HKP.out _ (Nat.le_refl _))).trans hS3.2.2.1, (h3.cell (p := ⟨w.heap.size, 3, none⟩) (Nat.lt_of_lt_of_le hNl hb3.size) (HKP.out _ (Nat.le_refl _))).trans hS3.2.2.2⟩))
      have HD : Hid (SDid w sp xs s (m + 10) R (.returned (erV R.2)) w4) := SDid.from ⟨xs', rfl, h2, h3⟩ (HB2.out.trans (hb3.mono HB2.out.size))
      clear h2 h3 hS3 hS4 hb3
      go_wp2
      go_ret
      exact HD.out
end Go.Proofs.YtonhoahnieoebabGreatDoor
