/-
A head is written between two flushes.
Kind, Free, Dev, Head and Link of an image.
-/
import Derived.Test.YtncjnjlakhohgaaGreatQImgWrite
import Derived.Test.YtncjnjlakhohgaaGreatQImgRead
import Derived.Test.YtncjnjlakhohgaaGreatQImgFill
namespace Go.Proofs.YtncjnjlakhohgaaGreat
open Go.RowKit Go.Maps
attribute [local go_sem ↓] Go.wp_at_zero Go.wp_at_succ

def IV.headF (v : IV) : Int := v.flush.d.putF

set_option maxRecDepth 100000 in
set_option maxHeartbeats 1000000 in
theorem setHead_img {B m : Nat} {x : Ih} {v : IV} (c p b : Int) (w : World) (h : IsImg B w x v) (hd : v.d.fine v.d.fl.length m) (hm : m < 1000000000) (hB : B ≤ w.heap.size) (hk : HV.ok ⟨c, p, b⟩ = true) :
    Calls Tryz.prog 32 #[.pointer (some ⟨x.p, 0, none⟩), .agg #[.int .i64 c, .int .i64 p, .int .i64 b]] w fun e w' =>
      ∃ h' : Hd, e = .returned (erV v.flush.d.putF) ∧ h'.p = x.h.p ∧ IsImg B w' { x with h := h' } (v.headV ⟨c, p, b⟩) ∧ KeptP B x.tb w w' := by
  obtain ⟨X, hX⟩ : ∃ X : ByteArray, X = sealS [83, 89, c, p, b + 1] := ⟨_, rfl⟩
  have hX16 : X.size = 16 := by rw [hX]; exact HV.bytes_size ⟨c, p, b⟩
  have HH : Hid (∀ W : World, Calls Tryz.prog 73 #[.agg #[.int .i64 c, .int .i64 p, .int .i64 b]] W fun e w' => e = .returned (.tuple #[.string X, .nilIface]) ∧ Below W.heap.size W w') := fun W => by rw [hX]; exact head_yes c p b W hk
  have HHV : Hid (v.headV ⟨c, p, b⟩ = if v.flush.d.putF = 0 then { (({ v.flush with d := v.flush.d.put 0 X.data.toList } : IV).flush) with h := ⟨c, p, b⟩ } else { v.flush with d := v.flush.d.put 0 X.data.toList }) := by rw [hX]; rfl
  have hfl := hd.flushed
  have h0 : 0 < v.d.fl.length := hd.ok.n1
  have HW : Hid (∀ (W : World) (y : Hd), IsDev B W y v.flush.d → B ≤ W.heap.size → Calls Tryz.prog 72 #[.pointer (some ⟨y.p, 0, none⟩), .int .i64 0, .string X] W fun e w' =>
      ∃ v2, e = .returned (erV v.flush.d.putF) ∧ IsDev B w' { y with v2 := v2 } (v.flush.d.put 0 X.data.toList) ∧ Kept y.fp W w') := fun W y hi hb => dWrite_any 0 X W hi hfl hm hb hX16 h0
  have HI := toHid h
  clear hX hX16 hfl hd hk h
  generalize v.headV ⟨c, p, b⟩ = V at HHV ⊢
  have HPF : Hid (v.flush.d.putF = 0 ∨ v.flush.d.putF = 7) := by
    rcases DV.putF_cases v.flush.d with h7 | h7
    · exact .inl h7.1
    · exact .inr h7.1
  generalize v.flush.d.putF = pf at HHV HW HPF ⊢
  go_enter Tryz.func32, Tryz.ntmps32
  go_wp2_with fail
  refine (HH.out _).mono ?_
  rintro e w1 ⟨rfl, hb1⟩
  have hb01 : Below w.heap.size w w1 := ((Below.refl _ _).alloc (Nat.le_refl _) _).trans (hb1.mono (by simp))
  have x0 := new_cell hb1 0 _ rfl
  have x1 := new_cell hb1 1 _ rfl
  have x2 := new_cell hb1 2 _ rfl
  have hbx : w1.heap[w.heap.size]? = some (.cells #[.int .i64 c, .int .i64 p, .int .i64 b] 23 (0, 0)) := by rw [hb1.block _ (by simp), heap_alloc_new]
  have htb : w.heap.size ≠ x.tb := fun e => by have := HI.out.lts.2.2; omega
  have hi1 := HI.out.below hb01
  have HI1 := toHid hi1
  have hB1 : B ≤ w1.heap.size := Nat.le_trans hB hb01.size
  have HK1 : Hid (KeptP B x.tb w w1) := KeptP.of_below hb01
  have HBX := toHid hbx
  clear hb1 hb01 hi1 HI HH x0 x1 x2 hbx
  go_wp2_with fail
  refine (flush_img w1 HI1.out).mono ?_
  rintro e w2 ⟨h2, rfl, hp2, hi2, hk2⟩
  have HP2 : Hid (h2.p = x.h.p) := hp2
  clear hp2
  have hsz2 : w1.heap.size ≤ w2.heap.size := hk2.size
  have hB2 : B ≤ w2.heap.size := Nat.le_trans hB1 hsz2
  have HBX2 : Hid (w2.heap[w.heap.size]? = some (.cells #[.int .i64 c, .int .i64 p, .int .i64 b] 23 (0, 0))) := hk2.box HBX.out (by decide) htb
  have HK2 : Hid (KeptP B x.tb w w2) := KeptP.trans HK1.out hk2
  have c0 := hi2.cells.1
  have HI2 := toHid hi2
  have HW2 := toHid (HW.out w2 h2 hi2.dev hB2)
  clear hk2 hi2 HI1 HK1 HBX HW hsz2
  go_wp2_with fail
  refine HW2.out.mono ?_
  rintro e w3 ⟨v2, rfl, hd3, hk3⟩
  obtain ⟨hi3, hp3⟩ := HI2.out.devd hd3 rfl hk3
  have HBX3 : Hid (w3.heap[w.heap.size]? = some (.cells #[.int .i64 c, .int .i64 p, .int .i64 b] 23 (0, 0))) := hp3.box HBX2.out (by decide) htb
  have HK3 : Hid (KeptP B x.tb w w3) := KeptP.trans HK2.out hp3
  have HI3 := toHid hi3
  clear hd3 hk3 hi3 hp3 HI2 HK2 HBX2 HW2 c0
  by_cases hpf : pf = 0
  · have HV : Hid (V = { (({ v.flush with d := v.flush.d.put 0 X.data.toList } : IV).flush) with h := ⟨c, p, b⟩ }) := by unfold Hid; rw [HHV.out, if_pos hpf]
    have HE0 : Hid (erV pf = .nilIface) := by unfold Hid; rw [hpf, erV_0]
    rw [hpf, erV_0]
    clear HHV
    go_wp2_with fail
    refine (flush_img w3 HI3.out).mono ?_
    rintro e w4 ⟨h4, rfl, hp4, hi4, hk4⟩
    have hbx := hk4.box HBX3.out (by decide) htb
    have y0 : w4.cell? ⟨w.heap.size, 0, none⟩ = some (.int .i64 c) := by rw [cell_of_row _ _ _ _ _ _ hbx]; rfl
    have y1 : w4.cell? ⟨w.heap.size, 1, none⟩ = some (.int .i64 p) := by rw [cell_of_row _ _ _ _ _ _ hbx]; rfl
    have y2 : w4.cell? ⟨w.heap.size, 2, none⟩ = some (.int .i64 b) := by rw [cell_of_row _ _ _ _ _ _ hbx]; rfl
    obtain ⟨c0, c1, c2, c3, c4, c5, fz⟩ := hi4.cells
    have f1 := fz 1
    have f2 := fz 2
    have f3 := fz 3
    obtain ⟨hi5, hk5⟩ := hi4.headed ⟨c, p, b⟩
    have HI5 := toHid hi5
    have HK5 := toHid (KeptP.trans (KeptP.trans HK3.out hk4) hk5)
    have HP4 : Hid (h4.p = x.h.p) := by unfold Hid; rw [hp4]; exact HP2.out
    clear hp4
    clear hi4 hk4 hi5 hk5 hbx HBX3 HK3 HI3 c0 c4 c5 fz hpf
    go_wp2
    go_ret
    exact ⟨h4, ret_v HE0.out.symm, HP4.out, by rw [HV.out]; exact HI5.out, HK5.out⟩
  · have HV : Hid (V = { v.flush with d := v.flush.d.put 0 X.data.toList }) := by unfold Hid; rw [HHV.out, if_neg hpf]
    have e7 : erV pf = .iface 63 (.int .i64 7) := by
      rcases HPF.out with h7 | h7
      · exact absurd h7 hpf
      · rw [h7]; simp [erV]
    have HE7 := toHid e7
    rw [e7]
    clear HHV e7 hpf HBX3
    go_wp2
    go_ret
    exact ⟨{ h2 with v2 := v2 }, ret_v HE7.out.symm, HP2.out, by rw [HV.out]; exact HI3.out, HK3.out⟩
end Go.Proofs.YtncjnjlakhohgaaGreat

namespace Go.Proofs.YtncjnjlakhohgaaGreat
open Go.RowKit Go.Maps
attribute [local go_sem ↓] Go.wp_at_zero Go.wp_at_succ

set_option maxRecDepth 100000 in
set_option maxHeartbeats 1000000 in
theorem kind_img {B : Nat} {x : Ih} {v : IV} (c : Int) (w : World) (h : IsImg B w x v) :
    Calls Tryz.prog 61 #[.pointer (some ⟨x.p, 0, none⟩), .int .i64 c] w fun e w' =>
      e = .returned (.tuple #[.int .i64 (v.entE c).1, erV (v.entF c)]) ∧ Below w.heap.size w w' := by
  have HE := toHid (entry_img c w h)
  clear h
  generalize (v.entE c).1 = y0 at HE ⊢
  generalize (v.entE c).2 = y1 at HE
  generalize erV (v.entF c) = er at HE ⊢
  go_enter Tryz.func61, Tryz.ntmps61
  go_wp2_with fail
  refine HE.out.mono ?_
  rintro e w1 ⟨rfl, hb1⟩
  go_wp2
  go_ret2
  exact ⟨rfl, hb1.alloc hb1.size _⟩

set_option maxRecDepth 100000 in
set_option maxHeartbeats 1000000 in
theorem Free_img {B m : Nat} {x : Ih} {v : IV} (w : World) (h : IsImg B w x v) (hok : v.ok m) :
    Calls Tryz.prog 26 #[.pointer (some ⟨x.p, 0, none⟩)] w fun e w' => e = .returned (.int .i64 (v.freeL.length : Int)) ∧ Below w.heap.size w w' := by
  have HF := toHid (free_img w h hok)
  clear h hok
  generalize v.freeL.length = n at HF ⊢
  go_enter Tryz.func26, Tryz.ntmps26
  go_wp2_with fail
  refine HF.out.mono ?_
  rintro e w1 ⟨a, cap, rfl, _, hb1⟩
  go_wp2
  go_ret
  exact ⟨rfl, hb1⟩
set_option maxRecDepth 100000 in
set_option maxHeartbeats 1000000 in
theorem dev_img {B : Nat} {x : Ih} {v : IV} (w : World) (h : IsImg B w x v) :
    Calls Tryz.prog 54 #[.pointer (some ⟨x.p, 0, none⟩)] w fun e w' => e = .returned (.pointer (some ⟨x.h.p, 0, none⟩)) ∧ w' = w := by
  obtain ⟨c0, c1, c2, c3, c4, c5, fz⟩ := h.cells
  clear h c1 c2 c3 c4 c5 fz
  go_enter Tryz.func54, Tryz.ntmps54
  go_wp2
  go_ret
  exact ⟨rfl, rfl⟩

set_option maxRecDepth 100000 in
set_option maxHeartbeats 1000000 in
theorem head_img {B : Nat} {x : Ih} {v : IV} (w : World) (h : IsImg B w x v) :
    Calls Tryz.prog 58 #[.pointer (some ⟨x.p, 0, none⟩)] w fun e w' => e = .returned (.agg #[.int .i64 v.h.c, .int .i64 v.h.p, .int .i64 v.h.b]) ∧ Below w.heap.size w w' := by
  obtain ⟨c0, c1, c2, c3, c4, c5, fz⟩ := h.cells
  have lp := h.lts.1
  clear h c0 c4 c5 fz
  generalize v.h.c = c at c1 ⊢
  generalize v.h.p = p at c2 ⊢
  generalize v.h.b = b at c3 ⊢
  go_enter Tryz.func58, Tryz.ntmps58
  go_wp2
  exact bodyPost_ret (v := .agg #[.int .i64 c, .int .i64 p, .int .i64 b]) (by simp [results, Tryz.results58, go_sem]) rfl ⟨rfl, (by first | exact (Below.refl _ _).alloc (Nat.le_refl _) _ | exact (((((Below.refl _ _).alloc (Nat.le_refl _) _).setCell (Nat.le_refl _) _).setCell (Nat.le_refl _) _).setCell (Nat.le_refl _) _))⟩

/- Link. -/
set_option maxRecDepth 100000 in
set_option maxHeartbeats 1000000 in
theorem setHead_no {x : Ih} (c p b : Int) (w : World) (hk : HV.ok ⟨c, p, b⟩ = false) :
    Calls Tryz.prog 32 #[.pointer (some ⟨x.p, 0, none⟩), .agg #[.int .i64 c, .int .i64 p, .int .i64 b]] w fun e w' => e = .returned (.iface 63 (.int .i64 1)) ∧ Below w.heap.size w w' := by
  have HH := toHid (fun W => head_no c p b W hk)
  clear hk
  go_enter Tryz.func32, Tryz.ntmps32
  go_wp2_with fail
  refine (HH.out _).mono ?_
  rintro e w1 ⟨rfl, hb1⟩
  go_wp2
  go_ret
  exact ⟨rfl, ((Below.refl _ _).alloc (Nat.le_refl _) _).trans (hb1.mono (by simp))⟩

set_option maxRecDepth 100000 in
set_option maxHeartbeats 1000000 in
theorem link_img {B m : Nat} {x : Ih} {v : IV} (back : Int) (w : World) (h : IsImg B w x v) (hok : v.ok m) (hm : m + 10 < 1000000000) (hB : B ≤ w.heap.size) :
    Calls Tryz.prog 52 #[.pointer (some ⟨x.p, 0, none⟩), .int .i64 back] w (Did B w x (v.link back) (v.linkF back)) := by
  obtain ⟨c0, c1, c2, c3, c4, c5, fz⟩ := h.cells
  have lp := h.lts.1
  have HI := toHid h
  have HSH : Hid (∀ W : World, IsImg B W x v → B ≤ W.heap.size → Calls Tryz.prog 32 #[.pointer (some ⟨x.p, 0, none⟩), .agg #[.int .i64 v.h.c, .int .i64 v.h.p, .int .i64 back]] W (Did B W x (v.link back) (v.linkF back))) := fun W hi hb => by
    cases hk : (v.linkH back).ok with
    | true =>
      have e1 : v.link back = v.headV (v.linkH back) := by unfold IV.link; rw [if_pos hk]
      have e2 : v.linkF back = v.flush.d.putF := by unfold IV.linkF; rw [if_pos hk]
      rw [e1, e2]
      exact setHead_img v.h.c v.h.p back W hi hok.d (by omega) hb hk
    | false =>
      have e1 : v.link back = v := by unfold IV.link; rw [if_neg (by rw [hk]; decide)]
      have e2 : v.linkF back = 1 := by unfold IV.linkF; rw [if_neg (by rw [hk]; decide)]
      rw [e1, e2]
      refine (setHead_no v.h.c v.h.p back W hk).mono ?_
      rintro e w' ⟨rfl, hb2⟩
      rw [← erV_1]
      exact did_same hi hb2
  generalize v.link back = V at HSH ⊢
  generalize v.linkF back = f at HSH ⊢
  clear h hok c0 c4 c5 fz
  generalize hcc : v.h.c = c at c1 HSH
  generalize hpp : v.h.p = p at c2 HSH
  generalize hbb : v.h.b = b at c3
  clear hcc hpp hbb
  go_enter Tryz.func52, Tryz.ntmps52
  go_wp2_with fail
  have hbx : Below w.heap.size w ((w.alloc (.cells #[.int .i64 c, .int .i64 p, .int .i64 b] 23)).setCell ⟨w.heap.size, 2, none⟩ (.int .i64 back)) := ((Below.refl _ _).alloc (Nat.le_refl _) _).setCell (Nat.le_refl _) _
  have hby : Below w.heap.size w (w.alloc (.cells #[.int .i64 c, .int .i64 p, .int .i64 back] 23)) := (Below.refl _ _).alloc (Nat.le_refl _) _
  first
    | (refine (HSH.out _ (HI.out.below hbx) (Nat.le_trans hB hbx.size)).mono ?_
       rintro e w2 ⟨y, rfl, h2y, h3y, h4y⟩
       have HD : Hid (Did B w x V f (.returned (erV f)) w2) := Did.from ⟨y, rfl, h2y, h3y, h4y⟩ hbx
       clear h2y h3y h4y
       go_wp2
       go_ret
       exact HD.out)
    | (refine (HSH.out _ (HI.out.below hby) (Nat.le_trans hB hby.size)).mono ?_
       rintro e w2 ⟨y, rfl, h2y, h3y, h4y⟩
       have HD : Hid (Did B w x V f (.returned (erV f)) w2) := Did.from ⟨y, rfl, h2y, h3y, h4y⟩ hby
       clear h2y h3y h4y
       go_wp2
       go_ret
       exact HD.out)
end Go.Proofs.YtncjnjlakhohgaaGreat
