/-
An image's flush: the device's, and no place is held any more; a row that is written; a head between two flushes.
A head is written between two flushes.
-/
import Derived.Test.YtncjnjlakhohgaaQImgGets
namespace Go.Proofs.Ytncjnjlakhohgaa
open Go.RowKit Go.Maps Go.ChangeMaps Go.MapKept
attribute [local go_sem ↓] Go.wp_at_zero Go.wp_at_succ

theorem run_clear_own {P : Program} {k t e : TypeId} {R : Value → Option (DataW Unit × List MemPlace)} {w : World} {b n : Nat} {D : DataW Unit} (h : w.ownsMap P k R b n D) (ht : P.underlying t = some (.map k e)) :
    ∃ w', (∀ ty, (Builtin.clear_ #[t] ty #[.map (some b)]).run P w = .ok (.tuple #[]) w') ∧ w'.ownsMap P k R b 0 (.map []) ∧ w.mapTurned w' b := by
  obtain ⟨es, clock, hb, F, hs, rfl⟩ := h
  refine ⟨setBlock w b (.map #[] clock), fun ty => ?_, ⟨#[], clock, heap_setBlock_same hb _, ⟨by simp, stamped_empty clock, by simp⟩, Nat.le_refl _, rfl⟩, ⟨es, clock, #[], clock, hb, rfl⟩⟩
  simp [Builtin.clear_, run_underlying ht, MapKept.run_getObj_map hb, MapKept.run_setObj_map _ hb, Result.andThen, setBlock]

theorem heldD_snoc (l : List Nat) (q : Nat) : heldD (l ++ [q]) = (heldD l).put (.int .i64 (q : Int)) (.agg []) := by
  unfold heldD
  rw [List.map_append]
  exact setOf_snoc _ _ _

/- The map has turned. -/
theorem IsImg.mapd {B : Nat} {w w' : World} {x : Ih} {v : IV} (h : IsImg B w x v) (held : List Nat) (ht : w.mapTurned w' x.m) (hm : w'.ownsMap Try.prog 3 (unitElem (H := Unit)) x.m held.length (heldD held)) :
    IsImg B w' x { v with held := held } ∧ KeptP B x.tb w w' := by
  have hg := ht.grown
  obtain ⟨es, c, e2⟩ := ownsMap_is h.map
  have n1 : some x.p ≠ some x.m := fun e => by have := h.blk; rw [Option.some.inj e, e2] at this; cases this
  have n3 : some x.tb ≠ some x.m := fun e => by obtain ⟨_, cur, hh⟩ := h.tb; rw [Option.some.inj e, e2] at hh; cases hh
  have n2 : ∀ k, x.h.fp k → some k ≠ some x.m := fun k hk e => by
    obtain ⟨cur2, t, e1, p⟩ := h.dev.kinds _ hk
    rw [Option.some.inj e, e2] at e1; cases e1
  obtain ⟨l1, l2, l3⟩ := h.lts
  refine ⟨⟨?_, h.pB, h.mB, h.dev.keep fun k hk => hg.block _ (h.dev.lt k hk).2 (n2 k hk), ownsRow_keep h.own (fun k e => by
    have : x.tb = k := by simpa [Value.ownBlock] using e
    subst this; exact hg.block _ l3 n3), hm⟩, ?_⟩
  · rw [hg.block _ l1 n1]; exact h.blk
  · exact (Kept.refl _ _).grown hg fun k e => by
      have : x.m = k := by simpa using e
      subst this; exact .inl ⟨h.mB, .inl (.inr ⟨es, c, e2⟩)⟩

set_option maxRecDepth 100000 in
set_option maxHeartbeats 400000 in
theorem flush_img {B : Nat} {x : Ih} {v : IV} (w : World) (h : IsImg B w x v) :
    Calls Try.prog 61 #[.pointer (some ⟨x.p, 0, none⟩)] w fun e w' =>
      ∃ h' : Hd, e = .returned (.tuple #[]) ∧ h'.p = x.h.p ∧ IsImg B w' { x with h := h' } v.flush ∧ KeptP B x.tb w w' := by
  obtain ⟨c0, c1, c2, c3, c4, c5, fz⟩ := h.cells
  have HI := toHid h
  have HF := toHid (flush_any w h.dev)
  clear c1 c2 c3 c4 fz h
  go_enter Try.func61, Try.ntmps61
  go_wp2_with fail
  refine HF.out.mono ?_
  rintro e w1 ⟨rfl, hd1, hk1⟩
  have hk2 : Kept x.h.fp w w1 := hk1.mono fun k _ hs => by rcases hs with hs | hs; exact .inl hs; exact .inr (.inl hs)
  obtain ⟨hi1, hp1⟩ := HI.out.devd hd1 rfl hk2
  obtain ⟨w2, hr, hm, htu⟩ := run_clear_own hi1.map Try.underlying142
  obtain ⟨hi2, hp2⟩ := hi1.mapd [] htu hm
  have c5' := hi1.cells.2.2.2.2.2.1
  have HI2 := toHid hi2
  have HP2 := toHid (KeptP.trans hp1 hp2)
  clear hd1 hk1 hk2 hi1 hp1 hm htu hi2 hp2 HI HF c5 c0
  go_wp2
  go_end0
  exact ⟨{ x.h with v2 := .slice none 0 0 }, rfl, rfl, HI2.out, HP2.out⟩

theorem ents_img {B : Nat} {w : World} {x : Ih} {v : IV} (h : IsImg B w x v) : Ents w (some ⟨x.tb, 0, none⟩) v.t.length v.t :=
  ents_of_owns h.own _ (by rw [List.take_of_length_le (by rw [entV_len]; exact Nat.le_refl _)]) (Nat.le_refl _) rfl

theorem img_cap {B : Nat} {w : World} {x : Ih} {v : IV} (h : IsImg B w x v) : v.t.length ≤ x.tc := by
  obtain ⟨_, cur, hh, hc1, _⟩ := ownsRow_block h.own
  exact hc1

/- A row of the table as it is, written; the table may be (r: a row that there is). -/
set_option maxRecDepth 100000 in
set_option maxHeartbeats 400000 in
theorem writeRow_img {B m : Nat} {x : Ih} {v : IV} (r : Nat) (w : World) (h : IsImg B w x v) (hd : v.d.fine v.d.fl.length m) (hm : m < 1000000000) (hB : B ≤ w.heap.size) (hl : v.t.length ≤ 32) (hr : r + 1 < v.d.fl.length) (hf : rowF v.t (r : Int) = 0) (hs : (rowS v.t (r : Int)).size = 16) :
    Calls Try.prog 85 #[.pointer (some ⟨x.p, 0, none⟩), .int .i64 (r : Int)] w fun e w' =>
      ∃ h' : Hd, e = .returned (erV v.d.putF) ∧ h'.p = x.h.p ∧ IsImg B w' { x with h := h' } { v with d := v.d.put (1 + r) (rowS v.t (r : Int)).data.toList } ∧ KeptP B x.tb w w' := by
  obtain ⟨c0, c1, c2, c3, c4, c5, fz⟩ := h.cells
  have HI := toHid h
  have HR : Hid (∀ W : World, Below w.heap.size w W → Calls Try.prog 43 #[.slice (some ⟨x.tb, 0, none⟩) v.t.length x.tc, .int .i64 (r : Int)] W fun e w' => e = .returned (.tuple #[.string (rowS v.t (r : Int)), .nilIface]) ∧ Below W.heap.size W w') := fun W hb => by
    have := row_any (some ⟨x.tb, 0, none⟩) v.t.length x.tc v.t (r : Int) W ((ents_img h).below hb) (by omega) (img_cap h)
    rw [hf, erV_0] at this; exact this
  have HW : Hid (∀ (W : World), IsImg B W x v → B ≤ W.heap.size → Calls Try.prog 25 #[.pointer (some ⟨x.h.p, 0, none⟩), .int .i64 (1 + (r : Int)), .string (rowS v.t (r : Int))] W fun e w' =>
      ∃ v2, e = .returned (erV v.d.putF) ∧ IsDev B w' { x.h with v2 := v2 } (v.d.put (1 + r) (rowS v.t (r : Int)).data.toList) ∧ Kept x.h.fp W w') := fun W hi hb => by
    have := dWrite_any (1 + r) (rowS v.t (r : Int)) W hi.dev hd hm hb hs (by omega)
    rw [show (((1 + r : Nat) : Int)) = 1 + (r : Int) by omega] at this; exact this
  have hn2 := hd.ok.n2
  clear c1 c2 c3 c5 fz h hf hs hd
  have hwp : 1 + (r : Int) ≤ 1000 := by omega
  generalize rowS v.t (r : Int) = rs at HR HW ⊢
  generalize v.t.length = n at c4 HR
  generalize v.d.putF = pf at HW ⊢
  go_enter Try.func85, Try.ntmps85
  go_wp2_with fail
  refine (HR.out w (Below.refl _ _)).mono ?_
  rintro e w1 ⟨rfl, hb1⟩
  have hi1 := HI.out.below hb1
  have c0' := hi1.cells.1
  have HI1 := toHid hi1
  have hB1 : B ≤ w1.heap.size := Nat.le_trans hB hb1.size
  have HK1 : Hid (KeptP B x.tb w w1) := KeptP.of_below hb1
  clear hi1 hb1 c0 c4 HR HI
  go_wp2_with fail
  refine (HW.out w1 HI1.out hB1).mono ?_
  rintro e w2 ⟨v2, rfl, hd2, hk2⟩
  obtain ⟨hi2, hp2⟩ := HI1.out.devd hd2 rfl hk2
  have HI2 := toHid hi2
  have HP2 := toHid (KeptP.trans HK1.out hp2)
  clear hd2 hk2 hi2 hp2 c0' HW HI1 HK1
  go_wp2
  go_ret
  exact ⟨{ x.h with v2 := v2 }, rfl, rfl, HI2.out, HP2.out⟩

theorem IV.flush_dev (v : IV) : v.flush = { v with d := v.d.flushed, held := [] } := rfl

/- A whole head in the image's own block. -/
theorem IsImg.headed {B : Nat} {w : World} {x : Ih} {v : IV} (h : IsImg B w x v) (g : HV) :
    IsImg B (((w.setCell ⟨x.p, 1, none⟩ (.int .i64 g.c)).setCell ⟨x.p, 2, none⟩ (.int .i64 g.p)).setCell ⟨x.p, 3, none⟩ (.int .i64 g.b)) x { v with h := g } ∧
    KeptP B x.tb w (((w.setCell ⟨x.p, 1, none⟩ (.int .i64 g.c)).setCell ⟨x.p, 2, none⟩ (.int .i64 g.p)).setCell ⟨x.p, 3, none⟩ (.int .i64 g.b)) := by
  have hb := h.blk
  obtain ⟨es, c, e2⟩ := ownsMap_is h.map
  obtain ⟨_, cur, hh⟩ := h.tb
  have n2 : x.m ≠ x.p := fun e => by rw [← e, e2] at hb; cases hb
  have n3 : x.tb ≠ x.p := fun e => by rw [← e, hh] at hb; cases hb
  have n1 : ∀ k, x.h.fp k → k ≠ x.p := fun k hk e => by
    obtain ⟨cur2, t, e1, p⟩ := h.dev.kinds _ hk
    rw [e, hb] at e1
    cases e1
    rcases p with p | p | p <;> cases p
  have ho : ∀ k, k ≠ x.p → (((w.setCell ⟨x.p, 1, none⟩ (.int .i64 g.c)).setCell ⟨x.p, 2, none⟩ (.int .i64 g.p)).setCell ⟨x.p, 3, none⟩ (.int .i64 g.b)).heap[k]? = w.heap[k]? := fun k hk => by
    rw [heap_setCell_other _ _ _ _ hk, heap_setCell_other _ _ _ _ hk, heap_setCell_other _ _ _ _ hk]
  refine ⟨⟨?_, h.pB, h.mB, h.dev.keep fun k hk => ho k (n1 k hk), ownsRow_keep h.own (fun k e => by
    have : x.tb = k := by simpa [Value.ownBlock] using e
    subst this; exact ho _ n3), ownsMap_block h.map (ho _ n2)⟩, ?_⟩
  · rw [heap_setCell_same _ _ _ _ _ _ (heap_setCell_same _ _ _ _ _ _ (heap_setCell_same w x.p _ _ _ _ hb))]; rfl
  · have hs : SP B x.tb w x.p := ⟨h.pB, .inl (.inl ⟨_, _, hb, .inr (.inr (.inr rfl))⟩)⟩
    exact (((Kept.refl (SP B x.tb w) w).setCell (p := ⟨x.p, 1, none⟩) (.inl hs) _).setCell (p := ⟨x.p, 2, none⟩) (.inl hs) _).setCell (p := ⟨x.p, 3, none⟩) (.inl hs) _
end Go.Proofs.Ytncjnjlakhohgaa

namespace Go.Proofs.Ytncjnjlakhohgaa
open Go.RowKit Go.Maps
attribute [local go_sem ↓] Go.wp_at_zero Go.wp_at_succ

def IV.headF (v : IV) : Int := v.flush.d.putF

set_option maxRecDepth 100000 in
set_option maxHeartbeats 1000000 in
theorem setHead_img {B m : Nat} {x : Ih} {v : IV} (c p b : Int) (w : World) (h : IsImg B w x v) (hd : v.d.fine v.d.fl.length m) (hm : m < 1000000000) (hB : B ≤ w.heap.size) (hk : HV.ok ⟨c, p, b⟩ = true) :
    Calls Try.prog 86 #[.pointer (some ⟨x.p, 0, none⟩), .agg #[.int .i64 c, .int .i64 p, .int .i64 b]] w fun e w' =>
      ∃ h' : Hd, e = .returned (erV v.flush.d.putF) ∧ h'.p = x.h.p ∧ IsImg B w' { x with h := h' } (v.headV ⟨c, p, b⟩) ∧ KeptP B x.tb w w' := by
  obtain ⟨X, hX⟩ : ∃ X : ByteArray, X = sealS [83, 89, c, p, b + 1] := ⟨_, rfl⟩
  have hX16 : X.size = 16 := by rw [hX]; exact HV.bytes_size ⟨c, p, b⟩
  have HH : Hid (∀ W : World, Calls Try.prog 39 #[.agg #[.int .i64 c, .int .i64 p, .int .i64 b]] W fun e w' => e = .returned (.tuple #[.string X, .nilIface]) ∧ Below W.heap.size W w') := fun W => by rw [hX]; exact head_yes c p b W hk
  have HHV : Hid (v.headV ⟨c, p, b⟩ = if v.flush.d.putF = 0 then { (({ v.flush with d := v.flush.d.put 0 X.data.toList } : IV).flush) with h := ⟨c, p, b⟩ } else { v.flush with d := v.flush.d.put 0 X.data.toList }) := by rw [hX]; rfl
  have hfl := hd.flushed
  have h0 : 0 < v.d.fl.length := hd.ok.n1
  have HW : Hid (∀ (W : World) (y : Hd), IsDev B W y v.flush.d → B ≤ W.heap.size → Calls Try.prog 25 #[.pointer (some ⟨y.p, 0, none⟩), .int .i64 0, .string X] W fun e w' =>
      ∃ v2, e = .returned (erV v.flush.d.putF) ∧ IsDev B w' { y with v2 := v2 } (v.flush.d.put 0 X.data.toList) ∧ Kept y.fp W w') := fun W y hi hb => dWrite_any 0 X W hi hfl hm hb hX16 h0
  have HI := toHid h
  clear hX hX16 hfl hd hk h
  generalize v.headV ⟨c, p, b⟩ = V at HHV ⊢
  have HPF : Hid (v.flush.d.putF = 0 ∨ v.flush.d.putF = 7) := by
    rcases DV.putF_cases v.flush.d with h7 | h7
    · exact .inl h7.1
    · exact .inr h7.1
  generalize v.flush.d.putF = pf at HHV HW HPF ⊢
  go_enter Try.func86, Try.ntmps86
  go_wp2_with fail
  refine (HH.out _).mono ?_
  rintro e w1 ⟨rfl, hb1⟩
  have hb01 : Below w.heap.size w w1 := ((Below.refl _ _).alloc (Nat.le_refl _) _).trans (hb1.mono (by simp))
  have x0 := new_cell hb1 0 _ rfl
  have x1 := new_cell hb1 1 _ rfl
  have x2 := new_cell hb1 2 _ rfl
  have hbx : w1.heap[w.heap.size]? = some (.cells #[.int .i64 c, .int .i64 p, .int .i64 b] 67 (0, 0)) := by rw [hb1.block _ (by simp), heap_alloc_new]
  have htb : w.heap.size ≠ x.tb := fun e => by have := HI.out.lts.2.2; omega
  have hi1 := HI.out.below hb01
  have HI1 := toHid hi1
  have hB1 : B ≤ w1.heap.size := Nat.le_trans hB hb01.size
  have HK1 : Hid (KeptP B x.tb w w1) := KeptP.of_below hb01
  have HBX := toHid hbx
  clear hb1 hb01 hi1 HI HH x0 x1 x2 hbx
  go_wp2_with fail
  refine (flush_img w1 HI1.out).mono ?_
  rintro e w2 ⟨h2, rfl, hp2, hi2, hk2⟩
  have HP2 : Hid (h2.p = x.h.p) := hp2
  clear hp2
  have hsz2 : w1.heap.size ≤ w2.heap.size := hk2.size
  have hB2 : B ≤ w2.heap.size := Nat.le_trans hB1 hsz2
  have HBX2 : Hid (w2.heap[w.heap.size]? = some (.cells #[.int .i64 c, .int .i64 p, .int .i64 b] 67 (0, 0))) := hk2.box HBX.out (by decide) htb
  have HK2 : Hid (KeptP B x.tb w w2) := KeptP.trans HK1.out hk2
  have c0 := hi2.cells.1
  have HI2 := toHid hi2
  have HW2 := toHid (HW.out w2 h2 hi2.dev hB2)
  clear hk2 hi2 HI1 HK1 HBX HW hsz2
  go_wp2_with fail
  refine HW2.out.mono ?_
  rintro e w3 ⟨v2, rfl, hd3, hk3⟩
  obtain ⟨hi3, hp3⟩ := HI2.out.devd hd3 rfl hk3
  have HBX3 : Hid (w3.heap[w.heap.size]? = some (.cells #[.int .i64 c, .int .i64 p, .int .i64 b] 67 (0, 0))) := hp3.box HBX2.out (by decide) htb
  have HK3 : Hid (KeptP B x.tb w w3) := KeptP.trans HK2.out hp3
  have HI3 := toHid hi3
  clear hd3 hk3 hi3 hp3 HI2 HK2 HBX2 HW2 c0
  by_cases hpf : pf = 0
  · have HV : Hid (V = { (({ v.flush with d := v.flush.d.put 0 X.data.toList } : IV).flush) with h := ⟨c, p, b⟩ }) := by unfold Hid; rw [HHV.out, if_pos hpf]
    have HE0 : Hid (erV pf = .nilIface) := by unfold Hid; rw [hpf, erV_0]
    rw [hpf, erV_0]
    clear HHV
    go_wp2_with fail
    refine (flush_img w3 HI3.out).mono ?_
    rintro e w4 ⟨h4, rfl, hp4, hi4, hk4⟩
    have hbx := hk4.box HBX3.out (by decide) htb
    have y0 : w4.cell? ⟨w.heap.size, 0, none⟩ = some (.int .i64 c) := by rw [cell_of_row _ _ _ _ _ _ hbx]; rfl
    have y1 : w4.cell? ⟨w.heap.size, 1, none⟩ = some (.int .i64 p) := by rw [cell_of_row _ _ _ _ _ _ hbx]; rfl
    have y2 : w4.cell? ⟨w.heap.size, 2, none⟩ = some (.int .i64 b) := by rw [cell_of_row _ _ _ _ _ _ hbx]; rfl
    obtain ⟨c0, c1, c2, c3, c4, c5, fz⟩ := hi4.cells
    have f1 := fz 1
    have f2 := fz 2
    have f3 := fz 3
    obtain ⟨hi5, hk5⟩ := hi4.headed ⟨c, p, b⟩
    have HI5 := toHid hi5
    have HK5 := toHid (KeptP.trans (KeptP.trans HK3.out hk4) hk5)
    have HP4 : Hid (h4.p = x.h.p) := by unfold Hid; rw [hp4]; exact HP2.out
    clear hp4
    clear hi4 hk4 hi5 hk5 hbx HBX3 HK3 HI3 c0 c4 c5 fz hpf
    go_wp2
    go_ret
    exact ⟨h4, ret_v HE0.out.symm, HP4.out, by rw [HV.out]; exact HI5.out, HK5.out⟩
  · have HV : Hid (V = { v.flush with d := v.flush.d.put 0 X.data.toList }) := by unfold Hid; rw [HHV.out, if_neg hpf]
    have e7 : erV pf = .iface 112 (.int .i64 7) := by
      rcases HPF.out with h7 | h7
      · exact absurd h7 hpf
      · rw [h7]; simp [erV]
    have HE7 := toHid e7
    rw [e7]
    clear HHV e7 hpf HBX3
    go_wp2
    go_ret
    exact ⟨{ h2 with v2 := v2 }, ret_v HE7.out.symm, HP2.out, by rw [HV.out]; exact HI3.out, HK3.out⟩
end Go.Proofs.Ytncjnjlakhohgaa
