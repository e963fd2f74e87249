/-
A head is written between two flushes.
Kind, Free, Dev, Head and Link of an image.
Shelves as plain data (G1 to G4): files by their numbers, a list that is walked, what is seen of a cluster, a range of sectors and its parts, what is got, put, wiped and moved.
-/
import Derived.Test.YtjegaljdindfaabGreatDoorQImgWrite
import Derived.Test.YtjegaljdindfaabGreatDoorQImgFill
namespace Go.Proofs.YtjegaljdindfaabGreatDoor
open Go.RowKit Go.Maps
attribute [local go_sem ↓] Go.wp_at_zero Go.wp_at_succ

def IV.headF (v : IV) : Int := v.flush.d.putF

set_option maxRecDepth 100000 in
set_option maxHeartbeats 1000000 in
theorem setHead_img {B : Gd} {m : Nat} {x : Ih} {v : IV} (c p b : Int) (w : World) (h : IsImg B w x v) (hd : v.d.fine v.d.fl.length m) (hm : m < 1000000000) (hB : B.top ≤ w.heap.size) (hk : HV.ok ⟨c, p, b⟩ = true) :
    Calls Tryz.prog 75 #[.pointer (some ⟨x.p, 0, none⟩), .agg #[.int .i64 c, .int .i64 p, .int .i64 b]] w fun e w' =>
      ∃ h' : Hd, e = .returned (erV v.flush.d.putF) ∧ h'.p = x.h.p ∧ IsImg B w' { x with h := h' } (v.headV ⟨c, p, b⟩) ∧ KeptP B x.tb w w' := by
  obtain ⟨X, hX⟩ : ∃ X : ByteArray, X = sealS [83, 89, c, p, b + 1] := ⟨_, rfl⟩
  have hX16 : X.size = 16 := by rw [hX]; exact HV.bytes_size ⟨c, p, b⟩
  have HH : Hid (∀ W : World, Calls Tryz.prog 138 #[.agg #[.int .i64 c, .int .i64 p, .int .i64 b]] W fun e w' => e = .returned (.tuple #[.string X, .nilIface]) ∧ Below W.heap.size W w') := fun W => by rw [hX]; exact head_yes c p b W hk
  have HHV : Hid (v.headV ⟨c, p, b⟩ = if v.flush.d.putF = 0 then { (({ v.flush with d := v.flush.d.put 0 X.data.toList } : IV).flush) with h := ⟨c, p, b⟩ } else { v.flush with d := v.flush.d.put 0 X.data.toList }) := by rw [hX]; rfl
  have hfl := hd.flushed
  have h0 : 0 < v.d.fl.length := hd.ok.n1
  have HW : Hid (∀ (W : World) (y : Hd), IsDevG B W y v.flush.d → B.top ≤ W.heap.size → Calls Tryz.prog 137 #[.pointer (some ⟨y.p, 0, none⟩), .int .i64 0, .string X] W fun e w' =>
      ∃ v2, e = .returned (erV v.flush.d.putF) ∧ IsDevG B w' { y with v2 := v2 } (v.flush.d.put 0 X.data.toList) ∧ Kept y.fp W w') := fun W y hi hb => dWrite_any 0 X W hi hfl hm hb hX16 h0
  have HI := toHid h
  clear hX hX16 hfl hd hk h
  generalize v.headV ⟨c, p, b⟩ = V at HHV ⊢
  have HPF : Hid (v.flush.d.putF = 0 ∨ v.flush.d.putF = 7) := by
    rcases DV.putF_cases v.flush.d with h7 | h7
    · exact .inl h7.1
    · exact .inr h7.1
  generalize v.flush.d.putF = pf at HHV HW HPF ⊢
  go_enter Tryz.func75, Tryz.ntmps75
  go_wp2_with fail
  refine (HH.out _).mono ?_
  rintro e w1 ⟨rfl, hb1⟩
  have hb01 : Below w.heap.size w w1 := ((Below.refl _ _).alloc (Nat.le_refl _) _).trans (hb1.mono (by simp))
  have x0 := new_cell hb1 0 _ rfl
  have x1 := new_cell hb1 1 _ rfl
  have x2 := new_cell hb1 2 _ rfl
  have hbx : w1.heap[w.heap.size]? = some (.cells #[.int .i64 c, .int .i64 p, .int .i64 b] 60 (0, 0)) := by rw [hb1.block _ (by simp), heap_alloc_new]
  have htb : w.heap.size ≠ x.tb := fun e => by have := HI.out.lts.2.2; omega
  have hi1 := HI.out.below hb01
  have HI1 := toHid hi1
  have hB1 : B.top ≤ w1.heap.size := Nat.le_trans hB hb01.size
  have HK1 : Hid (KeptP B x.tb w w1) := KeptP.of_below hb01
  have HBX := toHid hbx
  clear hb1 hb01 hi1 HI HH x0 x1 x2 hbx
  go_wp2_with fail
  refine (flush_img w1 HI1.out).mono ?_
  rintro e w2 ⟨h2, rfl, hp2, hi2, hk2⟩
  have HP2 : Hid (h2.p = x.h.p) := hp2
  clear hp2
  have hsz2 : w1.heap.size ≤ w2.heap.size := hk2.size
  have hB2 : B.top ≤ w2.heap.size := Nat.le_trans hB1 hsz2
  have HBX2 : Hid (w2.heap[w.heap.size]? = some (.cells #[.int .i64 c, .int .i64 p, .int .i64 b] 60 (0, 0))) := hk2.box HBX.out (by decide) htb
  have HK2 : Hid (KeptP B x.tb w w2) := KeptP.trans HK1.out hk2
  have c0 := hi2.cells.1
  have HI2 := toHid hi2
  have HW2 := toHid (HW.out w2 h2 hi2.dev hB2)
  clear hk2 hi2 HI1 HK1 HBX HW hsz2
  go_wp2_with fail
  refine HW2.out.mono ?_
  rintro e w3 ⟨v2, rfl, hd3, hk3⟩
  obtain ⟨hi3, hp3⟩ := HI2.out.devd hd3 rfl hk3
  have HBX3 : Hid (w3.heap[w.heap.size]? = some (.cells #[.int .i64 c, .int .i64 p, .int .i64 b] 60 (0, 0))) := hp3.box HBX2.out (by decide) htb
  have HK3 : Hid (KeptP B x.tb w w3) := KeptP.trans HK2.out hp3
  have HI3 := toHid hi3
  clear hd3 hk3 hi3 hp3 HI2 HK2 HBX2 HW2 c0
  by_cases hpf : pf = 0
  · have HV : Hid (V = { (({ v.flush with d := v.flush.d.put 0 X.data.toList } : IV).flush) with h := ⟨c, p, b⟩ }) := by unfold Hid; rw [HHV.out, if_pos hpf]
    have HE0 : Hid (erV pf = .nilIface) := by unfold Hid; rw [hpf, erV_0]
    rw [hpf, erV_0]
    clear HHV
    go_wp2_with fail
    refine (flush_img w3 HI3.out).mono ?_
    rintro e w4 ⟨h4, rfl, hp4, hi4, hk4⟩
    have hbx := hk4.box HBX3.out (by decide) htb
    have y0 : w4.cell? ⟨w.heap.size, 0, none⟩ = some (.int .i64 c) := by rw [cell_of_row _ _ _ _ _ _ hbx]; rfl
    have y1 : w4.cell? ⟨w.heap.size, 1, none⟩ = some (.int .i64 p) := by rw [cell_of_row _ _ _ _ _ _ hbx]; rfl
    have y2 : w4.cell? ⟨w.heap.size, 2, none⟩ = some (.int .i64 b) := by rw [cell_of_row _ _ _ _ _ _ hbx]; rfl
    obtain ⟨c0, c1, c2, c3, c4, c5, fz⟩ := hi4.cells
    have f1 := fz 1
    have f2 := fz 2
    have f3 := fz 3
    obtain ⟨hi5, hk5⟩ := hi4.headed ⟨c, p, b⟩
    have HI5 := toHid hi5
    have HK5 := toHid (KeptP.trans (KeptP.trans HK3.out hk4) hk5)
    have HP4 : Hid (h4.p = x.h.p) := by unfold Hid; rw [hp4]; exact HP2.out
    clear hp4
    clear hi4 hk4 hi5 hk5 hbx HBX3 HK3 HI3 c0 c4 c5 fz hpf
    go_wp2
    go_ret
    exact ⟨h4, ret_v HE0.out.symm, HP4.out, by rw [HV.out]; exact HI5.out, HK5.out⟩
  · have HV : Hid (V = { v.flush with d := v.flush.d.put 0 X.data.toList }) := by unfold Hid; rw [HHV.out, if_neg hpf]
    have e7 : erV pf = .iface 87 (.int .i64 7) := by
      rcases HPF.out with h7 | h7
      · exact absurd h7 hpf
      · rw [h7]; simp [erV]
    have HE7 := toHid e7
    rw [e7]
    clear HHV e7 hpf HBX3
    go_wp2
    go_ret
    exact ⟨{ h2 with v2 := v2 }, ret_v HE7.out.symm, HP2.out, by rw [HV.out]; exact HI3.out, HK3.out⟩
end Go.Proofs.YtjegaljdindfaabGreatDoor

namespace Go.Proofs.YtjegaljdindfaabGreatDoor
open Go.RowKit Go.Maps
attribute [local go_sem ↓] Go.wp_at_zero Go.wp_at_succ

set_option maxRecDepth 100000 in
set_option maxHeartbeats 1000000 in
theorem kind_img {B : Gd} {x : Ih} {v : IV} (c : Int) (w : World) (h : IsImg B w x v) :
    Calls Tryz.prog 112 #[.pointer (some ⟨x.p, 0, none⟩), .int .i64 c] w fun e w' =>
      e = .returned (.tuple #[.int .i64 (v.entE c).1, erV (v.entF c)]) ∧ Below w.heap.size w w' := by
  have HE := toHid (entry_img c w h)
  clear h
  generalize (v.entE c).1 = y0 at HE ⊢
  generalize (v.entE c).2 = y1 at HE
  generalize erV (v.entF c) = er at HE ⊢
  go_enter Tryz.func112, Tryz.ntmps112
  go_wp2_with fail
  refine HE.out.mono ?_
  rintro e w1 ⟨rfl, hb1⟩
  go_wp2
  go_ret2
  exact ⟨rfl, hb1.alloc hb1.size _⟩

set_option maxRecDepth 100000 in
set_option maxHeartbeats 1000000 in
theorem Free_img {B : Gd} {m : Nat} {x : Ih} {v : IV} (w : World) (h : IsImg B w x v) (hok : v.ok m) :
    Calls Tryz.prog 108 #[.pointer (some ⟨x.p, 0, none⟩)] w fun e w' => e = .returned (.int .i64 (v.freeL.length : Int)) ∧ Below w.heap.size w w' := by
  have HF := toHid (free_img w h hok)
  clear h hok
  generalize v.freeL.length = n at HF ⊢
  go_enter Tryz.func108, Tryz.ntmps108
  go_wp2_with fail
  refine HF.out.mono ?_
  rintro e w1 ⟨a, cap, rfl, _, hb1⟩
  go_wp2
  go_ret
  exact ⟨rfl, hb1⟩
set_option maxRecDepth 100000 in
set_option maxHeartbeats 1000000 in
theorem dev_img {B : Gd} {x : Ih} {v : IV} (w : World) (h : IsImg B w x v) :
    Calls Tryz.prog 111 #[.pointer (some ⟨x.p, 0, none⟩)] w fun e w' => e = .returned (.pointer (some ⟨x.h.p, 0, none⟩)) ∧ w' = w := by
  obtain ⟨c0, c1, c2, c3, c4, c5, fz⟩ := h.cells
  clear h c1 c2 c3 c4 c5 fz
  go_enter Tryz.func111, Tryz.ntmps111
  go_wp2
  go_ret
  exact ⟨rfl, rfl⟩

set_option maxRecDepth 100000 in
set_option maxHeartbeats 1000000 in
theorem head_img {B : Gd} {x : Ih} {v : IV} (w : World) (h : IsImg B w x v) :
    Calls Tryz.prog 33 #[.pointer (some ⟨x.p, 0, none⟩)] w fun e w' => e = .returned (.agg #[.int .i64 v.h.c, .int .i64 v.h.p, .int .i64 v.h.b]) ∧ Below w.heap.size w w' := by
  obtain ⟨c0, c1, c2, c3, c4, c5, fz⟩ := h.cells
  have lp := h.lts.1
  clear h c0 c4 c5 fz
  generalize v.h.c = c at c1 ⊢
  generalize v.h.p = p at c2 ⊢
  generalize v.h.b = b at c3 ⊢
  go_enter Tryz.func33, Tryz.ntmps33
  go_wp2
  exact bodyPost_ret (v := .agg #[.int .i64 c, .int .i64 p, .int .i64 b]) (by simp [results, Tryz.results33, go_sem]) rfl ⟨rfl, (by first | exact (Below.refl _ _).alloc (Nat.le_refl _) _ | exact (((((Below.refl _ _).alloc (Nat.le_refl _) _).setCell (Nat.le_refl _) _).setCell (Nat.le_refl _) _).setCell (Nat.le_refl _) _))⟩

/- Link. -/
set_option maxRecDepth 100000 in
set_option maxHeartbeats 1000000 in
theorem setHead_no {x : Ih} (c p b : Int) (w : World) (hk : HV.ok ⟨c, p, b⟩ = false) :
    Calls Tryz.prog 75 #[.pointer (some ⟨x.p, 0, none⟩), .agg #[.int .i64 c, .int .i64 p, .int .i64 b]] w fun e w' => e = .returned (.iface 87 (.int .i64 1)) ∧ Below w.heap.size w w' := by
  have HH := toHid (fun W => head_no c p b W hk)
  clear hk
  go_enter Tryz.func75, Tryz.ntmps75
  go_wp2_with fail
  refine (HH.out _).mono ?_
  rintro e w1 ⟨rfl, hb1⟩
  go_wp2
  go_ret
  exact ⟨rfl, ((Below.refl _ _).alloc (Nat.le_refl _) _).trans (hb1.mono (by simp))⟩

set_option maxRecDepth 100000 in
set_option maxHeartbeats 1000000 in
theorem link_img {B : Gd} {m : Nat} {x : Ih} {v : IV} (back : Int) (w : World) (h : IsImg B w x v) (hok : v.ok m) (hm : m + 10 < 1000000000) (hB : B.top ≤ w.heap.size) :
    Calls Tryz.prog 162 #[.pointer (some ⟨x.p, 0, none⟩), .int .i64 back] w (Did B w x (v.link back) (v.linkF back)) := by
  obtain ⟨c0, c1, c2, c3, c4, c5, fz⟩ := h.cells
  have lp := h.lts.1
  have HI := toHid h
  have HSH : Hid (∀ W : World, IsImg B W x v → B.top ≤ W.heap.size → Calls Tryz.prog 75 #[.pointer (some ⟨x.p, 0, none⟩), .agg #[.int .i64 v.h.c, .int .i64 v.h.p, .int .i64 back]] W (Did B W x (v.link back) (v.linkF back))) := fun W hi hb => by
    cases hk : (v.linkH back).ok with
    | true =>
      have e1 : v.link back = v.headV (v.linkH back) := by unfold IV.link; rw [if_pos hk]
      have e2 : v.linkF back = v.flush.d.putF := by unfold IV.linkF; rw [if_pos hk]
      rw [e1, e2]
      exact setHead_img v.h.c v.h.p back W hi hok.d (by omega) hb hk
    | false =>
      have e1 : v.link back = v := by unfold IV.link; rw [if_neg (by rw [hk]; decide)]
      have e2 : v.linkF back = 1 := by unfold IV.linkF; rw [if_neg (by rw [hk]; decide)]
      rw [e1, e2]
      refine (setHead_no v.h.c v.h.p back W hk).mono ?_
      rintro e w' ⟨rfl, hb2⟩
      rw [← erV_1]
      exact did_same hi hb2
  generalize v.link back = V at HSH ⊢
  generalize v.linkF back = f at HSH ⊢
  clear h hok c0 c4 c5 fz
  generalize hcc : v.h.c = c at c1 HSH
  generalize hpp : v.h.p = p at c2 HSH
  generalize hbb : v.h.b = b at c3
  clear hcc hpp hbb
  go_enter Tryz.func162, Tryz.ntmps162
  go_wp2_with fail
  have hbx : Below w.heap.size w ((w.alloc (.cells #[.int .i64 c, .int .i64 p, .int .i64 b] 60)).setCell ⟨w.heap.size, 2, none⟩ (.int .i64 back)) := ((Below.refl _ _).alloc (Nat.le_refl _) _).setCell (Nat.le_refl _) _
  have hby : Below w.heap.size w (w.alloc (.cells #[.int .i64 c, .int .i64 p, .int .i64 back] 60)) := (Below.refl _ _).alloc (Nat.le_refl _) _
  first
    | (refine (HSH.out _ (HI.out.below hbx) (Nat.le_trans hB hbx.size)).mono ?_
       rintro e w2 ⟨y, rfl, h2y, h3y, h4y⟩
       have HD : Hid (Did B w x V f (.returned (erV f)) w2) := Did.from ⟨y, rfl, h2y, h3y, h4y⟩ hbx
       clear h2y h3y h4y
       go_wp2
       go_ret
       exact HD.out)
    | (refine (HSH.out _ (HI.out.below hby) (Nat.le_trans hB hby.size)).mono ?_
       rintro e w2 ⟨y, rfl, h2y, h3y, h4y⟩
       have HD : Hid (Did B w x V f (.returned (erV f)) w2) := Did.from ⟨y, rfl, h2y, h3y, h4y⟩ hby
       clear h2y h3y h4y
       go_wp2
       go_ret
       exact HD.out)
end Go.Proofs.YtjegaljdindfaabGreatDoor

namespace Go.Proofs.YtjegaljdindfaabGreatDoor
open Go.RowKit

abbrev SV := Nat → Option IV
def SV.file (s : SV) (n : Int) : Option IV := if 0 ≤ n ∧ n < 5 then s n.toNat else none
def SV.upd (s : SV) (i : Nat) (v : IV) : SV := fun j => if j = i then some v else s j
def SV.ok (s : SV) (m : Nat) : Prop := ∀ i v, s i = some v → v.ok m

theorem SV.file_of {s : SV} {n : Int} {v : IV} (h : s.file n = some v) : 0 ≤ n ∧ n < 5 ∧ s n.toNat = some v := by
  unfold SV.file at h
  split at h
  · next hn => exact ⟨hn.1, hn.2, h⟩
  · cases h

theorem SV.file_at {s : SV} {i : Nat} (h : i < 5) : s.file (i : Int) = s i := by
  unfold SV.file
  rw [if_pos ⟨by omega, by omega⟩]; rfl

theorem SV.ok.more {s : SV} {m m' : Nat} (h : s.ok m) (hm : m ≤ m') : s.ok m' := fun i v e => (h i v e).more hm

theorem SV.ok.upd {s : SV} {m m' : Nat} (h : s.ok m) (hm : m ≤ m') {i : Nat} {v : IV} (hv : v.ok m') : (s.upd i v).ok m' := by
  intro j u e
  unfold SV.upd at e
  split at e
  · cases e; exact hv
  · exact (h j u e).more hm

theorem SV.file_upd {s : SV} {n : Int} {v u : IV} (h : s.file n = some v) (k : Int) : (s.upd n.toNat u).file k = if k = n then some u else s.file k := by
  obtain ⟨h0, h1, _⟩ := SV.file_of h
  unfold SV.file SV.upd
  by_cases hk : 0 ≤ k ∧ k < 5
  · rw [if_pos hk]
    by_cases e : k = n
    · rw [if_pos e, if_pos (by rw [e])]
    · rw [if_neg e, if_neg (by omega), if_pos hk]
  · rw [if_neg hk]
    have e : k ≠ n := by omega
    rw [if_neg e, if_neg hk]

/- What an act leaves of an image's head. -/
theorem IV.write_h (v : IV) (c f : Int) (s : ByteArray) : (v.write c f s).h = v.h := by unfold IV.write; split <;> rfl
theorem IV.set_h (v : IV) (c : Nat) (e : Int × Int) : (v.set c e).h = v.h := by unfold IV.set; split <;> rfl
theorem IV.clear_h (v : IV) (c : Int) : (v.clear c).h = v.h := by
  unfold IV.clear
  split
  · exact IV.set_h _ _ _
  · rfl
theorem IV.fill_h (v : IV) (c : Int) (s : ByteArray) : (v.fill c s).h = v.h := by
  unfold IV.fill
  split
  · split
    · rfl
    · split
      · rfl
      · split
        · rw [IV.set_h]; rfl
        · rfl
  · rfl

/- G1. -/
def SV.rootC (s : SV) (root : Int) : Int := match s.file root with
  | none => 0
  | some v => v.h.c
def SV.walkGo (s : SV) (rc : Int) : Nat → List Int → Int → List Int × Int
  | 0, _, _ => ([], 10)
  | k + 1, l, n => if n = -1 then (l, 0) else match s.file n with
    | none => ([], 4)
    | some v => if l.length = 5 then ([], 10) else if v.h.c = rc then s.walkGo rc k (l ++ [n]) v.h.b else ([], 2)
def SV.walk (s : SV) (root : Int) : List Int × Int := s.walkGo (s.rootC root) 6 [] root

theorem SV.walk_end {s : SV} {rc : Int} {k : Nat} {l : List Int} : s.walkGo rc (k + 1) l (-1) = (l, 0) := by
  unfold SV.walkGo; rw [if_pos rfl]
theorem SV.walk_none {s : SV} {rc : Int} {k : Nat} {l : List Int} {n : Int} (hn : n ≠ -1) (h : s.file n = none) : s.walkGo rc (k + 1) l n = ([], 4) := by
  unfold SV.walkGo; rw [if_neg hn, h]
theorem SV.walk_long {s : SV} {rc : Int} {k : Nat} {l : List Int} {n : Int} {v : IV} (hn : n ≠ -1) (h : s.file n = some v) (hl : l.length = 5) : s.walkGo rc (k + 1) l n = ([], 10) := by
  unfold SV.walkGo; rw [if_neg hn, h]; simp only; rw [if_pos hl]
theorem SV.walk_other {s : SV} {rc : Int} {k : Nat} {l : List Int} {n : Int} {v : IV} (hn : n ≠ -1) (h : s.file n = some v) (hl : l.length ≠ 5) (hc : v.h.c ≠ rc) : s.walkGo rc (k + 1) l n = ([], 2) := by
  unfold SV.walkGo; rw [if_neg hn, h]; simp only; rw [if_neg hl, if_neg hc]
theorem SV.walk_on {s : SV} {rc : Int} {k : Nat} {l : List Int} {n : Int} {v : IV} (hn : n ≠ -1) (h : s.file n = some v) (hl : l.length ≠ 5) (hc : v.h.c = rc) : s.walkGo rc (k + 1) l n = s.walkGo rc k (l ++ [n]) v.h.b := by
  rw [SV.walkGo, if_neg hn, h]; simp only; rw [if_neg hl, if_pos hc]

/- A list of files that are there, with as many clusters. -/
def SV.good (s : SV) (C : Int) (l : List Int) : Prop := ∀ n ∈ l, ∃ v, s.file n = some v ∧ v.h.c = C

theorem SV.walkGo_good {s : SV} {rc : Int} : ∀ (k : Nat) (l : List Int) (n : Int), s.good rc l → l.length ≤ 5 → s.good rc (s.walkGo rc k l n).1 ∧ (s.walkGo rc k l n).1.length ≤ 5 ∧ 0 ≤ (s.walkGo rc k l n).2 ∧ (s.walkGo rc k l n).2 ≤ 10 := by
  intro k
  induction k with
  | zero => intro l n _ _; exact ⟨(fun _ h => by cases h), Nat.zero_le _, (by simp [SV.walkGo]), (by simp [SV.walkGo])⟩
  | succ k ih =>
    intro l n hg hl
    by_cases hn : n = -1
    · subst hn; rw [SV.walk_end]; exact ⟨hg, hl, (by simp), (by simp)⟩
    · cases hf : s.file n with
      | none => rw [SV.walk_none hn hf]; exact ⟨(fun _ h => by cases h), Nat.zero_le _, (by simp), (by simp)⟩
      | some v =>
        by_cases h5 : l.length = 5
        · rw [SV.walk_long hn hf h5]; exact ⟨(fun _ h => by cases h), Nat.zero_le _, (by simp), (by simp)⟩
        · by_cases hc : v.h.c = rc
          · rw [SV.walk_on hn hf h5 hc]
            refine ih _ _ (fun x hx => ?_) (by rw [List.length_append]; simp; omega)
            rcases List.mem_append.1 hx with hx | hx
            · exact hg x hx
            · simp only [List.mem_singleton] at hx
              exact ⟨v, by rw [hx]; exact hf, hc⟩
          · rw [SV.walk_other hn hf h5 hc]; exact ⟨(fun _ h => by cases h), Nat.zero_le _, (by simp), (by simp)⟩

theorem SV.walk_good (s : SV) (root : Int) : s.good (s.rootC root) (s.walk root).1 ∧ (s.walk root).1.length ≤ 5 ∧ 0 ≤ (s.walk root).2 ∧ (s.walk root).2 ≤ 10 :=
  SV.walkGo_good 6 [] root (fun _ h => by cases h) (Nat.zero_le _)

/- G2. -/
def kindO (o : Option IV) (c : Int) : Int := match o with
  | none => 0
  | some v => (v.entE c).1
def SV.foundGo (s : SV) (c : Int) : List Int → Nat → Int
  | [], _ => -1
  | n :: r, k => if kindO (s.file n) c = 0 then s.foundGo c r (k + 1) else (k : Int)
def SV.found (s : SV) (l : List Int) (c : Int) : Int := s.foundGo c l 0
def SV.seenAt (s : SV) (c : Int) : List Int → Option IV
  | [] => none
  | n :: r => if kindO (s.file n) c = 0 then s.seenAt c r else s.file n

theorem SV.found_cases (s : SV) (c : Int) : ∀ (l : List Int) (k : Nat), (s.foundGo c l k = -1 ∧ s.seenAt c l = none) ∨
    ∃ (j : Nat) (n : Int) (v : IV), j < l.length ∧ s.foundGo c l k = ((k + j : Nat) : Int) ∧ l.getD j 0 = n ∧ n ∈ l ∧ s.file n = some v ∧ (v.entE c).1 ≠ 0 ∧ s.seenAt c l = some v := by
  intro l
  induction l with
  | nil => intro k; exact .inl ⟨rfl, rfl⟩
  | cons n r ih =>
    intro k
    unfold SV.foundGo SV.seenAt
    by_cases h : kindO (s.file n) c = 0
    · rw [if_pos h, if_pos h]
      rcases ih (k + 1) with ⟨h1, h2⟩ | ⟨j, x, v, h1, h2, h3, h4, h5, h6, h7⟩
      · exact .inl ⟨h1, h2⟩
      · exact .inr ⟨j + 1, x, v, by simp; omega, by rw [h2]; congr 1; omega, by simpa using h3, List.mem_cons_of_mem _ h4, h5, h6, h7⟩
    · rw [if_neg h, if_neg h]
      cases hf : s.file n with
      | none => rw [hf] at h; exact absurd rfl h
      | some v => exact .inr ⟨0, n, v, by simp, rfl, rfl, List.mem_cons_self, hf, by rw [hf] at h; exact h, rfl⟩

theorem SV.found_lt (s : SV) (c : Int) (l : List Int) : -1 ≤ s.found l c ∧ s.found l c < l.length ∨ s.found l c = -1 := by
  rcases SV.found_cases s c l 0 with ⟨h1, _⟩ | ⟨j, _, _, h1, h2, _⟩
  · exact .inr h1
  · unfold SV.found; rw [h2]; left; omega

def SV.clusters (s : SV) : List Int → Int
  | [] => 0
  | n :: _ => s.rootC n
def SV.read (s : SV) (l : List Int) (c : Int) : ByteArray × Int :=
  if l = [] then (bytesOf [], 4) else if 0 ≤ c ∧ c < s.clusters l then (match s.seenAt c l with
    | none => (bytesOf zeros64, 0)
    | some v => (bytesOf (v.readS c), v.readF c)) else (bytesOf [], 1)

/- Of a list that is good. -/
theorem SV.good.clusters {s : SV} {C : Int} {l : List Int} (h : s.good C l) (h0 : l ≠ []) : s.clusters l = C := by
  cases l with
  | nil => exact absurd rfl h0
  | cons n r =>
    obtain ⟨v, h1, h2⟩ := h n List.mem_cons_self
    show s.rootC n = C
    unfold SV.rootC
    rw [h1]; exact h2

theorem IV.entE_there {v : IV} {c : Int} (h : (v.entE c).1 ≠ 0) : v.there c = true ∧ (v.ent c).1 ≠ 0 := by
  unfold IV.entE at h
  cases hc : v.there c with
  | true => rw [hc, if_pos rfl] at h; exact ⟨rfl, h⟩
  | false => rw [hc] at h; exact absurd rfl h

theorem placeL_len {d : DV} {a n m : Nat} (hd : d.fine n m) (ha : a + 4 ≤ n) : ∀ k, k ≤ 4 → (placeL d a k).length = 16 * k := by
  intro k
  induction k with
  | zero => intro _; rfl
  | succ k ih =>
    intro hk
    have hs := hd.ok.same
    have hl := hd.len
    have hx : a + k < d.seen.length := by omega
    have : (d.seen.getD (a + k) []).length = 16 := by rw [List.getD_eq_getElem?_getD, List.getElem?_eq_getElem hx]; exact hd.ok.l2 _ (List.getElem_mem hx)
    show (placeL d a k ++ d.seen.getD (a + k) []).length = _
    rw [List.length_append, ih (by omega), this]; omega

theorem IV.read_some {v : IV} {m : Nat} {c : Int} (hok : v.ok m) (h : (v.entE c).1 ≠ 0) : v.readF c = 0 ∧ (v.readS c).length = 64 := by
  obtain ⟨h1, h2⟩ := IV.entE_there h
  unfold IV.readF IV.readS
  rw [if_pos h1, if_pos h1, if_neg h2]
  refine ⟨rfl, ?_⟩
  by_cases h3 : (v.ent c).1 = 2
  · rw [if_pos h3]
    obtain ⟨p0, p1, p2⟩ := hok.place h1 h3
    exact placeL_len hok.d p2 4 (Nat.le_refl _)
  · rw [if_neg h3]
    rcases entB_of (hok.ent h1) with h4 | h4
    · exact absurd h4.1 h3
    · rcases h4.1 with h5 | h5
      · exact absurd h5 h2
      · rw [if_pos h5]; decide

theorem SV.read_yes {s : SV} {C : Int} {l : List Int} {m : Nat} (hg : s.good C l) (hok : s.ok m) (h0 : l ≠ []) {c : Int} (hc : 0 ≤ c ∧ c < C) : (s.read l c).2 = 0 ∧ (s.read l c).1.size = 64 := by
  unfold SV.read
  rw [if_neg h0, hg.clusters h0, if_pos hc]
  rcases SV.found_cases s c l 0 with ⟨_, h2⟩ | ⟨j, n, v, _, _, _, _, h5, h6, h7⟩
  · rw [h2]; exact ⟨rfl, rfl⟩
  · rw [h7]
    obtain ⟨_, _, h8⟩ := SV.file_of h5
    obtain ⟨r1, r2⟩ := IV.read_some (hok _ _ h8) h6
    refine ⟨r1, ?_⟩
    show (v.readS c).toArray.size = 64
    simpa using r2

/- G3: a range and its parts, one a cluster. -/
structure Pt where
  c : Nat
  f : Nat
  n : Nat
  a : Nat

def mkPt (fr n a : Nat) : Pt := ⟨(fr + a) / 4, (fr + a) % 4, min (4 - (fr + a) % 4) (n - a), a⟩

theorem mkPt_n {fr n a : Nat} (h : a < n) : 1 ≤ (mkPt fr n a).n ∧ (mkPt fr n a).f + (mkPt fr n a).n ≤ 4 ∧ a + (mkPt fr n a).n ≤ n := by
  unfold mkPt
  simp only
  omega

def ptsFrom (fr n a : Nat) : List Pt := if _h : a < n then mkPt fr n a :: ptsFrom fr n (a + (mkPt fr n a).n) else []
termination_by n - a
decreasing_by
  have := mkPt_n (fr := fr) _h
  omega

theorem ptsFrom_cons {fr n a : Nat} (h : a < n) : ptsFrom fr n a = mkPt fr n a :: ptsFrom fr n (a + (mkPt fr n a).n) := by
  rw [ptsFrom, dif_pos h]
theorem ptsFrom_nil {fr n a : Nat} (h : ¬ a < n) : ptsFrom fr n a = [] := by
  rw [ptsFrom, dif_neg h]

theorem ptsFrom_len (fr n : Nat) : ∀ (k a : Nat), n - a ≤ k → (ptsFrom fr n a).length ≤ n - a := by
  intro k
  induction k with
  | zero => intro a h; rw [ptsFrom_nil (by omega)]; exact Nat.zero_le _
  | succ k ih =>
    intro a h
    by_cases ha : a < n
    · rw [ptsFrom_cons ha]
      have h1 := mkPt_n (fr := fr) ha
      have := ih (a + (mkPt fr n a).n) (by omega)
      simp only [List.length_cons]
      omega
    · rw [ptsFrom_nil ha]; exact Nat.zero_le _

/- What a part is, of a range that there is. -/
structure Pt.fits (p : Pt) (fr n C : Nat) : Prop where
  n1 : 1 ≤ p.n
  n4 : p.f + p.n ≤ 4
  an : p.a + p.n ≤ n
  c : p.c < C
  at_ : p.c * 4 + p.f = fr + p.a

theorem mkPt_fits {fr n a C : Nat} (h : a < n) (hC : fr + n ≤ 4 * C) : (mkPt fr n a).fits fr n C := by
  have h1 := mkPt_n (fr := fr) h
  refine ⟨h1.1, h1.2.1, h1.2.2, ?_, ?_⟩
  · show (fr + a) / 4 < C
    omega
  · show (fr + a) / 4 * 4 + (fr + a) % 4 = fr + a
    omega

theorem ptsFrom_fits {fr n C : Nat} (hC : fr + n ≤ 4 * C) : ∀ (k a : Nat), n - a ≤ k → ∀ p ∈ ptsFrom fr n a, p.fits fr n C := by
  intro k
  induction k with
  | zero => intro a h p hp; rw [ptsFrom_nil (by omega)] at hp; cases hp
  | succ k ih =>
    intro a h p hp
    by_cases ha : a < n
    · rw [ptsFrom_cons ha] at hp
      have h1 := mkPt_n (fr := fr) ha
      rcases List.mem_cons.1 hp with hp | hp
      · rw [hp]; exact mkPt_fits ha hC
      · exact ih _ (by omega) p hp
    · rw [ptsFrom_nil ha] at hp; cases hp

def secB (t : ByteArray) (f n : Nat) : ByteArray := t.extract (f * 16) ((f + n) * 16)
def noughtB (n : Nat) : ByteArray := bytesOf (List.replicate n 0)

theorem secB_size {t : ByteArray} {f n : Nat} (h : (f + n) * 16 ≤ t.size) : (secB t f n).size = n * 16 := by
  unfold secB; rw [ByteArray.size_extract]; omega

/- A fault of a range. -/
def SV.chkF (s : SV) (l : List Int) (fr n : Int) : Int := if l = [] then 4 else if fr < 0 ∨ n < 0 ∨ 4 * s.clusters l - fr < n then 1 else 0

theorem SV.chk_ok {s : SV} {C : Int} {l : List Int} (hg : s.good C l) {fr n : Int} (h : s.chkF l fr n = 0) : l ≠ [] ∧ 0 ≤ fr ∧ 0 ≤ n ∧ fr + n ≤ 4 * C := by
  unfold SV.chkF at h
  split at h
  · cases h
  · next h0 =>
    split at h
    · cases h
    · next h1 => rw [hg.clusters h0] at h1; exact ⟨h0, by omega, by omega, by omega⟩

/- Sectors of one cluster in the first file. -/
def SV.lay (s : SV) (l : List Int) (c f : Nat) (t : ByteArray) : SV × Int := match l with
  | [] => (s, 4)
  | n :: _ => match s.file n with
    | none => (s, 4)
    | some v => if (v.entE c).1 = 2 then (s.upd n.toNat (v.write c f t), v.writeF c f t) else
      (s.upd n.toNat (v.fill c ((s.read l c).1.extract 0 (f * 16) ++ t ++ (s.read l c).1.extract (f * 16 + t.size) 64)), v.fillF c ((s.read l c).1.extract 0 (f * 16) ++ t ++ (s.read l c).1.extract (f * 16 + t.size) 64))
def SV.putPt (l : List Int) (t : ByteArray) (s : SV) (p : Pt) : SV × Int := s.lay l p.c p.f (secB t p.a p.n)
def SV.wipePt (l : List Int) (s : SV) (p : Pt) : SV × Int := match l with
  | [] => (s, 4)
  | n :: _ => match s.file n with
    | none => (s, 4)
    | some v => if p.n = 4 then (s.upd n.toNat (v.clear p.c), v.clearF p.c) else if (v.entE p.c).1 = 1 then (s, 0) else s.lay l p.c p.f (noughtB (p.n * 16))
def goPts (op : SV → Pt → SV × Int) : SV → List Pt → SV × Int
  | s, [] => (s, 0)
  | s, p :: r => if (op s p).2 = 0 then goPts op (op s p).1 r else op s p

def SV.put (s : SV) (l : List Int) (fr : Int) (t : ByteArray) : SV × Int :=
  if t.size % 16 = 0 then (if s.chkF l fr ((t.size / 16 : Nat) : Int) = 0 then goPts (SV.putPt l t) s (ptsFrom fr.toNat (t.size / 16) 0) else (s, s.chkF l fr ((t.size / 16 : Nat) : Int))) else (s, 1)
def SV.wipe (s : SV) (l : List Int) (fr n : Int) : SV × Int :=
  if s.chkF l fr n = 0 then goPts (SV.wipePt l) s (ptsFrom fr.toNat n.toNat 0) else (s, s.chkF l fr n)

/- G4. -/
def SV.move (s : SV) (n c : Int) (t : ByteArray) : SV × Int := match s.file n with
  | none => (s, 4)
  | some v => if t = noughtB 64 then (s.upd n.toNat (v.clear c), v.clearF c) else if (v.entE c).1 = 2 then (s.upd n.toNat (v.write c 0 t), v.writeF c 0 t) else (s.upd n.toNat (v.fill c t), v.fillF c t)

/- What is got of a range. -/
def SV.getTo (s : SV) (l : List Int) (fr : Nat) : Nat → ByteArray
  | 0 => bytesOf []
  | k + 1 => s.getTo l fr k ++ secB (s.read l (((fr + k) / 4 : Nat) : Int)).1 ((fr + k) % 4) 1
def SV.getS (s : SV) (l : List Int) (fr n : Int) : ByteArray := if s.chkF l fr n = 0 then s.getTo l fr.toNat n.toNat else bytesOf []
end Go.Proofs.YtjegaljdindfaabGreatDoor
