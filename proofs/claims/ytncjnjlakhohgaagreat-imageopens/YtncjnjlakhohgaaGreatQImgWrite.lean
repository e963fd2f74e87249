/-
An image's flush: the device's, and no place is held any more; a row that is written; a head between two flushes.
Sectors that are written to a place, one after the other, up to the first that fails.
-/
import Derived.Test.YtncjnjlakhohgaaGreatQImgGets
import Derived.Deep.RegionHeld3
namespace Go.Proofs.YtncjnjlakhohgaaGreat
open Go.RowKit Go.Maps Go.ChangeMaps Go.MapKept
attribute [local go_sem ↓] Go.wp_at_zero Go.wp_at_succ

theorem run_clear_own {P : Program} {k t e : TypeId} {R : Value → Option (DataW Unit × List MemPlace)} {w : World} {b n : Nat} {D : DataW Unit} (h : w.ownsMap P k R b n D) (ht : P.underlying t = some (.map k e)) :
    ∃ w', (∀ ty, (Builtin.clear_ #[t] ty #[.map (some b)]).run P w = .ok (.tuple #[]) w') ∧ w'.ownsMap P k R b 0 (.map []) ∧ w.mapTurned w' b := by
  obtain ⟨es, clock, hb, F, hs, rfl⟩ := h
  refine ⟨setBlock w b (.map #[] clock), fun ty => ?_, ⟨#[], clock, heap_setBlock_same hb _, ⟨by simp, stamped_empty clock, by simp⟩, Nat.le_refl _, rfl⟩, ⟨es, clock, #[], clock, hb, rfl⟩⟩
  simp [Builtin.clear_, run_underlying ht, MapKept.run_getObj_map hb, MapKept.run_setObj_map _ hb, Result.andThen, setBlock]

theorem heldD_snoc (l : List Nat) (q : Nat) : heldD (l ++ [q]) = (heldD l).put (.int .i64 (q : Int)) (.agg []) := by
  unfold heldD
  rw [List.map_append]
  exact setOf_snoc _ _ _

/- The map has turned. -/
theorem IsImg.mapd {B : Nat} {w w' : World} {x : Ih} {v : IV} (h : IsImg B w x v) (held : List Nat) (ht : w.mapTurned w' x.m) (hm : w'.ownsMap Tryz.prog 3 (unitElem (H := Unit)) x.m held.length (heldD held)) :
    IsImg B w' x { v with held := held } ∧ KeptP B x.tb w w' := by
  have hg := ht.grown
  obtain ⟨es, c, e2⟩ := ownsMap_is h.map
  have n1 : some x.p ≠ some x.m := fun e => by have := h.blk; rw [Option.some.inj e, e2] at this; cases this
  have n3 : some x.tb ≠ some x.m := fun e => by obtain ⟨_, cur, hh⟩ := h.tb; rw [Option.some.inj e, e2] at hh; cases hh
  have n2 : ∀ k, x.h.fp k → some k ≠ some x.m := fun k hk e => by
    obtain ⟨cur2, t, e1, p⟩ := h.dev.kinds _ hk
    rw [Option.some.inj e, e2] at e1; cases e1
  obtain ⟨l1, l2, l3⟩ := h.lts
  refine ⟨⟨?_, h.pB, h.mB, h.dev.keep fun k hk => hg.block _ (h.dev.lt k hk).2 (n2 k hk), ownsRow_keep h.own (fun k e => by
    have : x.tb = k := by simpa [Value.ownBlock] using e
    subst this; exact hg.block _ l3 n3), hm⟩, ?_⟩
  · rw [hg.block _ l1 n1]; exact h.blk
  · exact (Kept.refl _ _).grown hg fun k e => by
      have : x.m = k := by simpa using e
      subst this; exact .inl ⟨h.mB, .inl (.inr ⟨es, c, e2⟩)⟩

set_option maxRecDepth 100000 in
set_option maxHeartbeats 400000 in
theorem flush_img {B : Nat} {x : Ih} {v : IV} (w : World) (h : IsImg B w x v) :
    Calls Tryz.prog 56 #[.pointer (some ⟨x.p, 0, none⟩)] w fun e w' =>
      ∃ h' : Hd, e = .returned (.tuple #[]) ∧ h'.p = x.h.p ∧ IsImg B w' { x with h := h' } v.flush ∧ KeptP B x.tb w w' := by
  obtain ⟨c0, c1, c2, c3, c4, c5, fz⟩ := h.cells
  have HI := toHid h
  have HF := toHid (flush_any w h.dev)
  clear c1 c2 c3 c4 fz h
  go_enter Tryz.func56, Tryz.ntmps56
  go_wp2_with fail
  refine HF.out.mono ?_
  rintro e w1 ⟨rfl, hd1, hk1⟩
  have hk2 : Kept x.h.fp w w1 := hk1.mono fun k _ hs => by rcases hs with hs | hs; exact .inl hs; exact .inr (.inl hs)
  obtain ⟨hi1, hp1⟩ := HI.out.devd hd1 rfl hk2
  obtain ⟨w2, hr, hm, htu⟩ := run_clear_own hi1.map Tryz.underlying113
  obtain ⟨hi2, hp2⟩ := hi1.mapd [] htu hm
  have c5' := hi1.cells.2.2.2.2.2.1
  have HI2 := toHid hi2
  have HP2 := toHid (KeptP.trans hp1 hp2)
  clear hd1 hk1 hk2 hi1 hp1 hm htu hi2 hp2 HI HF c5 c0
  go_wp2
  go_end0
  exact ⟨{ x.h with v2 := .slice none 0 0 }, rfl, rfl, HI2.out, HP2.out⟩

theorem ents_img {B : Nat} {w : World} {x : Ih} {v : IV} (h : IsImg B w x v) : Ents w (some ⟨x.tb, 0, none⟩) v.t.length v.t :=
  ents_of_owns h.own _ (by rw [List.take_of_length_le (by rw [entV_len]; exact Nat.le_refl _)]) (Nat.le_refl _) rfl

theorem img_cap {B : Nat} {w : World} {x : Ih} {v : IV} (h : IsImg B w x v) : v.t.length ≤ x.tc := by
  obtain ⟨_, cur, hh, hc1, _⟩ := ownsRow_block h.own
  exact hc1

/- A row of the table as it is, written; the table may be (r: a row that there is). -/
set_option maxRecDepth 100000 in
set_option maxHeartbeats 400000 in
theorem writeRow_img {B m : Nat} {x : Ih} {v : IV} (r : Nat) (w : World) (h : IsImg B w x v) (hd : v.d.fine v.d.fl.length m) (hm : m < 1000000000) (hB : B ≤ w.heap.size) (hl : v.t.length ≤ 32) (hr : r + 1 < v.d.fl.length) (hf : rowF v.t (r : Int) = 0) (hs : (rowS v.t (r : Int)).size = 16) :
    Calls Tryz.prog 31 #[.pointer (some ⟨x.p, 0, none⟩), .int .i64 (r : Int)] w fun e w' =>
      ∃ h' : Hd, e = .returned (erV v.d.putF) ∧ h'.p = x.h.p ∧ IsImg B w' { x with h := h' } { v with d := v.d.put (1 + r) (rowS v.t (r : Int)).data.toList } ∧ KeptP B x.tb w w' := by
  obtain ⟨c0, c1, c2, c3, c4, c5, fz⟩ := h.cells
  have HI := toHid h
  have HR : Hid (∀ W : World, Below w.heap.size w W → Calls Tryz.prog 71 #[.slice (some ⟨x.tb, 0, none⟩) v.t.length x.tc, .int .i64 (r : Int)] W fun e w' => e = .returned (.tuple #[.string (rowS v.t (r : Int)), .nilIface]) ∧ Below W.heap.size W w') := fun W hb => by
    have := row_any (some ⟨x.tb, 0, none⟩) v.t.length x.tc v.t (r : Int) W ((ents_img h).below hb) (by omega) (img_cap h)
    rw [hf, erV_0] at this; exact this
  have HW : Hid (∀ (W : World), IsImg B W x v → B ≤ W.heap.size → Calls Tryz.prog 72 #[.pointer (some ⟨x.h.p, 0, none⟩), .int .i64 (1 + (r : Int)), .string (rowS v.t (r : Int))] W fun e w' =>
      ∃ v2, e = .returned (erV v.d.putF) ∧ IsDev B w' { x.h with v2 := v2 } (v.d.put (1 + r) (rowS v.t (r : Int)).data.toList) ∧ Kept x.h.fp W w') := fun W hi hb => by
    have := dWrite_any (1 + r) (rowS v.t (r : Int)) W hi.dev hd hm hb hs (by omega)
    rw [show (((1 + r : Nat) : Int)) = 1 + (r : Int) by omega] at this; exact this
  have hn2 := hd.ok.n2
  clear c1 c2 c3 c5 fz h hf hs hd
  have hwp : 1 + (r : Int) ≤ 1000 := by omega
  generalize rowS v.t (r : Int) = rs at HR HW ⊢
  generalize v.t.length = n at c4 HR
  generalize v.d.putF = pf at HW ⊢
  go_enter Tryz.func31, Tryz.ntmps31
  go_wp2_with fail
  refine (HR.out w (Below.refl _ _)).mono ?_
  rintro e w1 ⟨rfl, hb1⟩
  have hi1 := HI.out.below hb1
  have c0' := hi1.cells.1
  have HI1 := toHid hi1
  have hB1 : B ≤ w1.heap.size := Nat.le_trans hB hb1.size
  have HK1 : Hid (KeptP B x.tb w w1) := KeptP.of_below hb1
  clear hi1 hb1 c0 c4 HR HI
  go_wp2_with fail
  refine (HW.out w1 HI1.out hB1).mono ?_
  rintro e w2 ⟨v2, rfl, hd2, hk2⟩
  obtain ⟨hi2, hp2⟩ := HI1.out.devd hd2 rfl hk2
  have HI2 := toHid hi2
  have HP2 := toHid (KeptP.trans HK1.out hp2)
  clear hd2 hk2 hi2 hp2 c0' HW HI1 HK1
  go_wp2
  go_ret
  exact ⟨{ x.h with v2 := v2 }, rfl, rfl, HI2.out, HP2.out⟩

theorem IV.flush_dev (v : IV) : v.flush = { v with d := v.d.flushed, held := [] } := rfl

/- A whole head in the image's own block. -/
theorem IsImg.headed {B : Nat} {w : World} {x : Ih} {v : IV} (h : IsImg B w x v) (g : HV) :
    IsImg B (((w.setCell ⟨x.p, 1, none⟩ (.int .i64 g.c)).setCell ⟨x.p, 2, none⟩ (.int .i64 g.p)).setCell ⟨x.p, 3, none⟩ (.int .i64 g.b)) x { v with h := g } ∧
    KeptP B x.tb w (((w.setCell ⟨x.p, 1, none⟩ (.int .i64 g.c)).setCell ⟨x.p, 2, none⟩ (.int .i64 g.p)).setCell ⟨x.p, 3, none⟩ (.int .i64 g.b)) := by
  have hb := h.blk
  obtain ⟨es, c, e2⟩ := ownsMap_is h.map
  obtain ⟨_, cur, hh⟩ := h.tb
  have n2 : x.m ≠ x.p := fun e => by rw [← e, e2] at hb; cases hb
  have n3 : x.tb ≠ x.p := fun e => by rw [← e, hh] at hb; cases hb
  have n1 : ∀ k, x.h.fp k → k ≠ x.p := fun k hk e => by
    obtain ⟨cur2, t, e1, p⟩ := h.dev.kinds _ hk
    rw [e, hb] at e1
    cases e1
    rcases p with p | p | p <;> cases p
  have ho : ∀ k, k ≠ x.p → (((w.setCell ⟨x.p, 1, none⟩ (.int .i64 g.c)).setCell ⟨x.p, 2, none⟩ (.int .i64 g.p)).setCell ⟨x.p, 3, none⟩ (.int .i64 g.b)).heap[k]? = w.heap[k]? := fun k hk => by
    rw [heap_setCell_other _ _ _ _ hk, heap_setCell_other _ _ _ _ hk, heap_setCell_other _ _ _ _ hk]
  refine ⟨⟨?_, h.pB, h.mB, h.dev.keep fun k hk => ho k (n1 k hk), ownsRow_keep h.own (fun k e => by
    have : x.tb = k := by simpa [Value.ownBlock] using e
    subst this; exact ho _ n3), ownsMap_block h.map (ho _ n2)⟩, ?_⟩
  · rw [heap_setCell_same _ _ _ _ _ _ (heap_setCell_same _ _ _ _ _ _ (heap_setCell_same w x.p _ _ _ _ hb))]; rfl
  · have hs : SP B x.tb w x.p := ⟨h.pB, .inl (.inl ⟨_, _, hb, .inr (.inr (.inr rfl))⟩)⟩
    exact (((Kept.refl (SP B x.tb w) w).setCell (p := ⟨x.p, 1, none⟩) (.inl hs) _).setCell (p := ⟨x.p, 2, none⟩) (.inl hs) _).setCell (p := ⟨x.p, 3, none⟩) (.inl hs) _
end Go.Proofs.YtncjnjlakhohgaaGreat

namespace Go.Proofs.YtncjnjlakhohgaaGreat
open Go.RowKit Go.Maps
attribute [local go_sem ↓] Go.wp_at_zero Go.wp_at_succ

theorem extract_chunk (s : ByteArray) (k : Nat) : (s.extract (k * 16) ((k + 1) * 16)).data.toList = chunk s k := by
  unfold chunk
  rw [ByteArray.data_extract, Array.toList_extract, List.extract_eq_take_drop]
  rw [show (k + 1) * 16 - k * 16 = 16 by omega]

structure ImgAt (B tb : Nat) (w : World) (x : Ih) (v : IV) (d : DV) (y : Hd) (W : World) : Prop where
  img : IsImg B W { x with h := y } { v with d := d }
  kept : KeptP B tb w W

theorem ImgAt.drew {B tb : Nat} {w W : World} {x : Ih} {v : IV} {d : DV} {y : Hd} (h : ImgAt B tb w x v d y W) : ImgAt B tb w x v d y W.drew := ⟨h.img.drew, KeptP.trans h.kept (KeptP.of_below (Below.refl _ _).drew)⟩

set_option maxRecDepth 100000 in
set_option maxHeartbeats 1000000 in
theorem writePlace_img {B m : Nat} {x : Ih} {v : IV} (q fr c : Nat) (s : ByteArray) (w : World) (h : IsImg B w x v) (hd : v.d.fine v.d.fl.length m) (hm : m + 4 < 1000000000) (hB : B ≤ w.heap.size) (hk : v.h.ok = true) (hq : q ≤ 40) (hs : s.size = c * 16) (hf : fr + c ≤ 4) (ha : beginN v.h q + fr + c ≤ v.d.fl.length) :
    Calls Tryz.prog 66 #[.pointer (some ⟨x.p, 0, none⟩), .int .i64 (q : Int), .int .i64 (fr : Int), .string s] w fun e w' =>
      ∃ y : Hd, e = .returned (erV (v.d.puts (beginN v.h q + fr) s c).2) ∧ y.p = x.h.p ∧ IsImg B w' { x with h := y } { v with d := (v.d.puts (beginN v.h q + fr) s c).1 } ∧ KeptP B x.tb w w' := by
  obtain ⟨c0, c1, c2, c3, c4, c5, fz⟩ := h.cells
  have hn2 := hd.ok.n2
  have HBG : Hid (∀ W : World, Calls Tryz.prog 39 #[.agg #[.int .i64 v.h.c, .int .i64 v.h.p, .int .i64 v.h.b], .int .i64 (q : Int)] W fun e w' => e = .returned (.int .i64 (beginN v.h q : Int)) ∧ Below W.heap.size W w') := fun W => begin_any v.h.c v.h.p v.h.b q W hk hq
  have HFI : Hid (∀ k, k ≤ c → (v.d.puts (beginN v.h q + fr) s k).1.fine v.d.fl.length (m + k)) := fun k hk => hd.puts hs (by omega) (by omega) k hk
  generalize hbn : beginN v.h q = bn at HBG HFI ha ⊢
  have HST : Hid (∀ k, (v.d.puts (bn + fr) s k).2 = 0 → v.d.puts (bn + fr) s (k + 1) = ((v.d.puts (bn + fr) s k).1.put (bn + fr + k) (chunk s k), (v.d.puts (bn + fr) s k).1.putF)) := fun k hk => DV.puts_yes hk
  have HEN : Hid (∀ k, (v.d.puts (bn + fr) s k).2 ≠ 0 → k ≤ c → v.d.puts (bn + fr) s c = v.d.puts (bn + fr) s k) := fun k hk hkc => DV.puts_no hk c hkc
  have H00 : Hid (v.d.puts (bn + fr) s 0 = (v.d, 0)) := rfl
  generalize v.d.puts (bn + fr) s = D at HFI HST HEN H00 ⊢
  have HI := toHid h
  have hq16 : (s.size : Int) / 16 = (c : Int) := by omega
  have hbc : bn + fr + c ≤ 200 := by omega
  clear h hd fz hbn hq
  go_enter Tryz.func66, Tryz.ntmps66
  go_wp2_with fail
  refine (HBG.out _).mono ?_
  rintro e w1 ⟨rfl, hb1⟩
  have HI1 := toHid (HI.out.below hb1)
  have HK1 : Hid (KeptP B x.tb w w1) := KeptP.of_below hb1
  have hB1 : B ≤ w1.heap.size := Nat.le_trans hB hb1.size
  clear hb1 HBG HI c0 c1 c2 c3 c4 c5
  go_wp2
  go_loopw [23] (fun i wr => ∃ (k : Nat) (y : Hd), k ≤ c ∧ i = .int .i64 k ∧ (D k).2 = 0 ∧ y.p = x.h.p ∧ ImgAt B x.tb w x v (D k).1 y wr) (fun i _ => c - (intOf i).toNat)
  case atStart => exact ⟨0, x.h, Nat.zero_le _, rfl, by rw [H00.out], rfl, ⟨by rw [H00.out]; exact HI1.out, HK1.out⟩⟩
  case round =>
    obtain ⟨k, y, hkc, rfl, hf0, hyp, hat⟩ := hrel
    by_cases hlt : k < c
    · have hstep := HST.out k hf0
      have hfk := HFI.out k (by omega)
      have hBk : B ≤ wr.heap.size := Nat.le_trans hB hat.kept.size
      have HW : Hid (∀ W : World, ImgAt B x.tb w x v (D k).1 y W → wr.heap.size ≤ W.heap.size → Calls Tryz.prog 72 #[.pointer (some ⟨y.p, 0, none⟩), .int .i64 ((bn : Int) + (fr : Int) + (k : Int)), .string (s.extract (k * 16) ((k + 1) * 16))] W fun e w' =>
          ∃ y2 : Hd, e = .returned (erV (D (k + 1)).2) ∧ y2.p = y.p ∧ ImgAt B x.tb w x v (D (k + 1)).1 y2 w' ∧ w'.cell? ⟨x.p, 0, none⟩ = some (.pointer (some ⟨y.p, 0, none⟩))) := fun W hi hsz => by
        have h1 := dWrite_any (bn + fr + k) (s.extract (k * 16) ((k + 1) * 16)) W hi.img.dev hfk (by omega) (Nat.le_trans hBk hsz) (by rw [ByteArray.size_extract]; omega) (by omega)
        rw [show (((bn + fr + k : Nat) : Int)) = (bn : Int) + (fr : Int) + (k : Int) by omega] at h1
        refine h1.mono ?_
        rintro e w' ⟨v2, rfl, hd2, hk2⟩
        obtain ⟨hi3, hp3⟩ := hi.img.devd hd2 rfl hk2
        refine ⟨{ y with v2 := v2 }, by rw [hstep], rfl, ⟨?_, KeptP.trans hi.kept hp3⟩, hi3.cells.1⟩
        rw [hstep, ← extract_chunk]
        exact hi3
      have c0 := hat.img.cells.1
      have HA := toHid hat
      have HYP := toHid hyp
      clear hstep hfk hf0 hat hyp HFI HST
      have k0 : (0 : Int) ≤ (k : Int) := by omega
      have k1 : (k : Int) * 16 ≤ ((k : Int) + 1) * 16 := by omega
      have k2 : ((k : Int) + 1) * 16 ≤ (s.size : Int) := by omega
      have k3 : (0 : Int) ≤ (k : Int) * 16 := by omega
      have k4 : (0 : Int) ≤ ((k : Int) + 1) * 16 := by omega
      have k5 : ((k : Int) * 16).toNat = k * 16 := by omega
      have k6 : (((k : Int) + 1) * 16).toNat = (k + 1) * 16 := by omega
      have k7 : IntKind.i64.wrap ((k : Int) * 16) = (k : Int) * 16 := IntWalk.i64_in _ (by omega)
      have k8 : IntKind.i64.wrap ((k : Int) + 1) = (k : Int) + 1 := IntWalk.i64_in _ (by omega)
      have k9 : IntKind.i64.wrap (((k : Int) + 1) * 16) = ((k : Int) + 1) * 16 := IntWalk.i64_in _ (by omega)
      have k10 : IntKind.i64.wrap ((bn : Int) + (fr : Int) + (k : Int)) = (bn : Int) + (fr : Int) + (k : Int) := IntWalk.i64_in _ (by omega)
      have k11 : (k : Int) ≤ (k : Int) + 1 := by omega
      clear hs hq16
      have hdr : wr.drew.cell? ⟨x.p, 0, none⟩ = some (.pointer (some ⟨y.p, 0, none⟩)) := c0
      have HAD : Hid (ImgAt B x.tb w x v (D k).1 y wr.drew ∧ wr.heap.size ≤ wr.drew.heap.size) := ⟨HA.out.drew, Nat.le_refl _⟩
      go_wp2
      go_region_held3 (fun W => W.cell? ⟨x.p, 0, none⟩ = some (.pointer (some ⟨y.p, 0, none⟩)))
        (first | (exact hdr) | assumption)
        (first
          | (go_at_call 72; refine (HW.out _ HAD.out.1 HAD.out.2).mono ?_; rintro e w3 ⟨y2, rfl, hyp2, hat2, hcl2⟩))
      have HA2 := toHid hat2
      have HYP2 : Hid (y2.p = x.h.p) := by unfold Hid; rw [hyp2]; exact HYP.out
      clear hat2 hyp2 hcl2 HA HAD HW hdr c0 HYP
      by_cases hz : (D (k + 1)).2 = 0
      · have HZ := toHid hz
        have e0 : erV (D (k + 1)).2 = .nilIface := by rw [hz, erV_0]
        rw [e0]
        clear hz e0
        go_wp2
        go_roundw
        case rel =>
          have fin : ∃ (k1 : Nat) (y1 : Hd), k1 ≤ c ∧ Value.int .i64 ((k : Int) + 1) = .int .i64 k1 ∧ (D k1).2 = 0 ∧ y1.p = x.h.p ∧ ImgAt B x.tb w x v (D k1).1 y1 w3 := ⟨k + 1, y2, by omega, by go_num, HZ.out, HYP2.out, HA2.out⟩
          first | exact fin | ((repeat apply Exists.intro); exact ⟨fin, rfl⟩)
        case measure => simp [intOf]; omega
      · have HE := HEN.out (k + 1) hz (by omega)
        have HEE := toHid HE
        have h7 : erV (D (k + 1)).2 = .iface 63 (.int .i64 (D (k + 1)).2) := by unfold erV; rw [if_neg hz]
        have H7 := toHid h7
        rw [h7]
        clear hz HE h7
        go_wp2
        go_ret
        refine ⟨y2, ?_, HYP2.out, ?_, HA2.out.kept⟩
        · rw [HEE.out, H7.out]; rfl
        · rw [HEE.out]; exact HA2.out.img
    · have hkc2 : k = c := by omega
      subst hkc2
      have HA := toHid hat
      have HYP := toHid hyp
      have HE0 : Hid (erV (D k).2 = .nilIface) := by unfold Hid; rw [hf0, erV_0]
      clear hat hyp hf0 HFI HST HEN
      go_wp2
      go_ret
      exact ⟨y, ret_v HE0.out.symm, HYP.out, HA.out.img, HA.out.kept⟩
end Go.Proofs.YtncjnjlakhohgaaGreat
