/-
The document's own image: its flush, sectors that are written one after the other, an entry that is set.
-/
import Derived.Test.YtncjnjlakhohgaaGreatQRimGets
import Derived.Test.YtncjnjlakhohgaaGreatQImgCreate
import Derived.Test.YtncjnjlakhohgaaGreatQImgActs
namespace Go.Proofs.YtncjnjlakhohgaaGreat
open Go.RowKit Go.Maps
attribute [local go_sem ↓] Go.wp_at_zero Go.wp_at_succ

/- What an act leaves. -/
structure Led (B : Nat) (w : World) (q q' : Qh) (V : IV) (w' : World) : Prop where
  p : q'.p = q.p
  dp : q'.d.p = q.d.p
  vt : ∀ k, q'.vt.ownBlock = some k → q.vt.ownBlock = some k ∨ w.heap.size ≤ k
  rim : IsRim B w' q' V
  kept : KeptR B w w'

def DidR (B : Nat) (w : World) (q : Qh) (V : IV) (f : Int) (e : Ending) (w' : World) : Prop := ∃ q' : Qh, e = .returned (.int .i64 f) ∧ Led B w q q' V w'

theorem Led.refl {B : Nat} {w : World} {q : Qh} {v : IV} (h : IsRim B w q v) : Led B w q q v w := ⟨rfl, rfl, fun _ hk => .inl hk, h, KeptR.refl _ _⟩

theorem Led.trans {B : Nat} {w w1 w2 : World} {q q1 q2 : Qh} {V1 V2 : IV} (a : Led B w q q1 V1 w1) (b : Led B w1 q1 q2 V2 w2) : Led B w q q2 V2 w2 :=
  ⟨b.p.trans a.p, b.dp.trans a.dp, fun k hk => by
    rcases b.vt k hk with h | h
    · exact a.vt k h
    · exact .inr (Nat.le_trans a.kept.size h), b.rim, KeptR.trans a.kept b.kept⟩

theorem Led.below {B : Nat} {w w1 : World} {q : Qh} {v : IV} (h : IsRim B w q v) (hb : Below w.heap.size w w1) : Led B w q q v w1 := ⟨rfl, rfl, fun _ hk => .inl hk, h.below hb, KeptR.of_below hb⟩

theorem Led.dev {B : Nat} {w w' : World} {q : Qh} {v : IV} (h : IsRim B w q v) {q' : Rh} {d' : DV} (hd : IsRef B w' q' d') (hp : q'.p = q.d.p) (hk : Kept q.d.fp w w') (hv : ∀ r, q'.v1.ownBlock = some r → q.d.v1.ownBlock = some r ∨ w.heap.size ≤ r) :
    Led B w q { q with d := q' } { v with d := d' } w' := by
  obtain ⟨h1, h2⟩ := h.devd hd hp hk hv
  exact ⟨rfl, hp, fun _ hk => .inl hk, h1, h2⟩

set_option maxRecDepth 100000 in
set_option maxHeartbeats 1000000 in
theorem flush_rim {B n m : Nat} {q : Qh} {v : IV} (w : World) (h : IsRim B w q v) (hd : v.d.fine n m) :
    Calls Tryz.prog 57 #[.pointer (some ⟨q.p, 0, none⟩)] w fun e w' => ∃ q' : Qh, e = .returned (.tuple #[]) ∧ Led B w q q' v.flush w' := by
  obtain ⟨c0, c1, c2, c3, c4, c5, fz⟩ := h.cells
  have HI := toHid h
  have HF := toHid (refFlush_any w h.dev hd.ok hd.sn)
  clear c1 c2 c3 c4 c5 fz h hd
  go_enter Tryz.func57, Tryz.ntmps57
  go_wp2_with fail
  refine HF.out.mono ?_
  rintro e w1 ⟨rfl, hd1, hk1⟩
  have hl := Led.dev HI.out hd1 rfl hk1 (fun r e => by cases e)
  obtain ⟨h2, k2⟩ := hl.rim.setP 5 (.slice none 0 0) (q2 := { q with d := { q.d with v1 := .slice none 0 0, v2 := .slice none 0 0 }, vh := .slice none 0 0 }) (v2 := v.flush) rfl rfl rfl rfl hl.rim.own (World.ownsRow_nil _ _ _ _) (fun k e => by cases e)
  have HL : Hid (Led B w q { q with d := { q.d with v1 := .slice none 0 0, v2 := .slice none 0 0 }, vh := .slice none 0 0 } v.flush (w1.setCell ⟨q.p, 5, none⟩ (.slice none 0 0))) := ⟨rfl, rfl, fun _ hk => .inl hk, h2, KeptR.trans hl.kept k2⟩
  have c5 := hl.rim.cells.2.2.2.2.2.1
  have f5 := hl.rim.cells.2.2.2.2.2.2 5
  clear hl h2 k2 hd1 hk1 HF HI c0
  go_wp2
  go_end0
  exact ⟨_, rfl, HL.out⟩

structure RimAt (B : Nat) (w : World) (q : Qh) (v : IV) (d : DV) (q' : Qh) (W : World) : Prop where
  led : Led B w q q' { v with d := d } W

theorem RimAt.drew {B : Nat} {w W : World} {q q' : Qh} {v : IV} {d : DV} (h : RimAt B w q v d q' W) : RimAt B w q v d q' W.drew := ⟨h.led.trans (Led.below h.led.rim (Below.refl _ _).drew)⟩

theorem extract_chunk2 (s : ByteArray) (k : Nat) : (s.extract (16 * k) (16 * k + 16)).data.toList = chunk s k := by
  have := extract_chunk s k
  rw [show k * 16 = 16 * k by omega, show (k + 1) * 16 = 16 * k + 16 by omega] at this
  exact this

set_option maxRecDepth 100000 in
set_option maxHeartbeats 1000000 in
theorem sectors_rim {B m : Nat} {q : Qh} {v : IV} (a c : Nat) (s : ByteArray) (w : World) (h : IsRim B w q v) (hd : v.d.fine v.d.fl.length m) (hm : m + 4 < 1000000000) (hB : B ≤ w.heap.size) (hs : s.size = c * 16) (hf : c ≤ 4) (ha : a + c ≤ v.d.fl.length) :
    Calls Tryz.prog 80 #[.pointer (some ⟨q.p, 0, none⟩), .int .i64 (a : Int), .string s] w (DidR B w q { v with d := (v.d.puts a s c).1 } (v.d.puts a s c).2) := by
  have hn2 := hd.ok.n2
  have HFI : Hid (∀ k, k ≤ c → (v.d.puts a s k).1.fine v.d.fl.length (m + k)) := fun k hk => hd.puts hs (by omega) (by omega) k hk
  have HST : Hid (∀ k, (v.d.puts a s k).2 = 0 → v.d.puts a s (k + 1) = ((v.d.puts a s k).1.put (a + k) (chunk s k), (v.d.puts a s k).1.putF)) := fun k hk => DV.puts_yes hk
  have HEN : Hid (∀ k, (v.d.puts a s k).2 ≠ 0 → k ≤ c → v.d.puts a s c = v.d.puts a s k) := fun k hk hkc => DV.puts_no hk c hkc
  have HFF : Hid (∀ k, (v.d.puts a s k).2 = 0 ∨ (v.d.puts a s k).2 = 7) := fun k => DV.puts_F _ _ _ _
  have H00 : Hid (v.d.puts a s 0 = (v.d, 0)) := rfl
  generalize v.d.puts a s = D at HFI HST HEN H00 HFF ⊢
  have HI := toHid h
  have hbc : a + c ≤ 200 := by omega
  clear h hd
  go_enter Tryz.func80, Tryz.ntmps80
  go_wp2
  go_loopw [7] (fun i wr => ∃ (k : Nat) (y : Qh), k ≤ c ∧ i = .int .i64 k ∧ (D k).2 = 0 ∧ RimAt B w q v (D k).1 y wr) (fun i _ => c - (intOf i).toNat)
  case atStart => exact ⟨0, q, Nat.zero_le _, rfl, by rw [H00.out], ⟨by rw [H00.out]; exact Led.refl HI.out⟩⟩
  case round =>
    obtain ⟨k, y, hkc, rfl, hf0, hat⟩ := hrel
    have k7 : IntKind.i64.wrap (16 * (k : Int)) = 16 * (k : Int) := IntWalk.i64_in _ (by omega)
    by_cases hlt : k < c
    · have hstep := HST.out k hf0
      have hfk := HFI.out k (by omega)
      have hBk : B ≤ wr.heap.size := Nat.le_trans hB hat.led.kept.size
      have HW : Hid (∀ W : World, RimAt B w q v (D k).1 y W → wr.heap.size ≤ W.heap.size → Calls Tryz.prog 36 #[.pointer (some ⟨y.d.p, 0, none⟩), .int .i64 ((a : Int) + (k : Int)), .string (s.extract (16 * k) (16 * k + 16))] W fun e w' =>
          ∃ y2 : Qh, e = .returned (.int .i64 (D (k + 1)).2) ∧ RimAt B w q v (D (k + 1)).1 y2 w' ∧ w'.cell? ⟨q.p, 0, none⟩ = some (.pointer (some ⟨y.d.p, 0, none⟩))) := fun W hi hsz => by
        have h1 := rWrite_any (a + k) (s.extract (16 * k) (16 * k + 16)) W hi.led.rim.dev hfk (by omega) (Nat.le_trans hBk hsz) (by rw [ByteArray.size_extract]; omega) (by omega)
        rw [show (((a + k : Nat) : Int)) = (a : Int) + (k : Int) by omega] at h1
        refine h1.mono ?_
        rintro e w' ⟨q2, rfl, hp2, hd2, hk2, hv2⟩
        have hl := Led.dev hi.led.rim hd2 hp2 hk2 hv2
        refine ⟨{ y with d := q2 }, by rw [hstep], ⟨?_⟩, ?_⟩
        · rw [hstep, ← extract_chunk2]
          exact hi.led.trans hl
        · have := hl.rim.cells.1
          rw [show ({ y with d := q2 } : Qh).p = q.p from hi.led.p, show ({ y with d := q2 } : Qh).d.p = y.d.p from hp2] at this
          exact this
      have c0 : wr.cell? ⟨q.p, 0, none⟩ = some (.pointer (some ⟨y.d.p, 0, none⟩)) := by have := hat.led.rim.cells.1; rw [hat.led.p] at this; exact this
      have HA := toHid hat
      have k0 : (0 : Int) ≤ (k : Int) := by omega
      have k2 : 16 * (k : Int) + 16 ≤ (s.size : Int) := by omega
      have k3 : (0 : Int) ≤ 16 * (k : Int) := by omega
      have k4 : (0 : Int) ≤ 16 * (k : Int) + 16 := by omega
      have k5 : (16 * (k : Int)).toNat = 16 * k := by omega
      have k6 : (16 * (k : Int) + 16).toNat = 16 * k + 16 := by omega
      have k9 : IntKind.i64.wrap (16 * (k : Int) + 16) = 16 * (k : Int) + 16 := IntWalk.i64_in _ (by omega)
      have k10 : IntKind.i64.wrap ((a : Int) + (k : Int)) = (a : Int) + (k : Int) := IntWalk.i64_in _ (by omega)
      have k11 : 16 * (k : Int) ≤ 16 * (k : Int) + 16 := by omega
      have k12 : 16 * (k : Int) < (s.size : Int) := by omega
      clear hs hstep hfk hf0 hat HFI HST
      have hdr : wr.drew.cell? ⟨q.p, 0, none⟩ = some (.pointer (some ⟨y.d.p, 0, none⟩)) := c0
      have HAD : Hid (RimAt B w q v (D k).1 y wr.drew ∧ wr.heap.size ≤ wr.drew.heap.size) := ⟨HA.out.drew, Nat.le_refl _⟩
      go_wp2
      go_region_held3 (fun W => W.cell? ⟨q.p, 0, none⟩ = some (.pointer (some ⟨y.d.p, 0, none⟩)))
        (first | (exact hdr) | assumption)
        (first
          | (go_at_call 36; refine (HW.out _ HAD.out.1 HAD.out.2).mono ?_; rintro e w3 ⟨y2, rfl, hat2, hcl2⟩))
      have HA2 := toHid hat2
      clear hat2 hcl2 HA HAD HW hdr c0
      by_cases hz : (D (k + 1)).2 = 0
      · have HZ := toHid hz
        rw [hz]
        clear hz
        go_wp2
        go_roundw
        case rel =>
          have fin : ∃ (k1 : Nat) (y1 : Qh), k1 ≤ c ∧ Value.int .i64 ((k : Int) + 1) = .int .i64 k1 ∧ (D k1).2 = 0 ∧ RimAt B w q v (D k1).1 y1 w3 := ⟨k + 1, y2, by omega, by go_num, HZ.out, HA2.out⟩
          first | exact fin | ((repeat apply Exists.intro); exact ⟨fin, rfl⟩)
        case measure => simp [intOf]; omega
      · have HE := HEN.out (k + 1) hz (by omega)
        have HEE := toHid HE
        have h7 : (D (k + 1)).2 = 7 := by rcases HFF.out (k + 1) with h | h; exact absurd h hz; exact h
        have H7 := toHid h7
        rw [h7]
        clear hz HE h7
        go_wp2
        go_ret
        refine ⟨y2, ?_, ?_⟩
        · rw [HEE.out, H7.out]; rfl
        · rw [HEE.out]; exact HA2.out.led
    · have hkc2 : k = c := by omega
      subst hkc2
      have HA := toHid hat
      have HF0 := toHid hf0
      have k12 : decide (16 * (k : Int) < (s.size : Int)) = false := by simp; omega
      clear hat hf0 HFI HST HEN hs
      go_wp2
      go_ret
      exact ⟨y, by rw [HF0.out]; rfl, HA.out.led⟩
end Go.Proofs.YtncjnjlakhohgaaGreat
