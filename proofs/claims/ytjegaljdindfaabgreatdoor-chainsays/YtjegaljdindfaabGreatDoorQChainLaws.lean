/-
stacks: what is below is seen (a closed fact).
What a part that is put or wiped leaves: the list stays good; a range that is gone over; what is got of it.
-/
import Derived.Test.YtjegaljdindfaabGreatDoorQLawLaid
import Derived.Test.YtjegaljdindfaabGreatDoorQChainRead
import Derived.Test.YtjegaljdindfaabGreatDoorQLawAsShelf
import Derived.Test.YtjegaljdindfaabGreatDoorQChainDefs
namespace Go.Proofs.YtjegaljdindfaabGreatDoor
open Go.RowKit Go.Maps
attribute [local go_sem ↓] Go.wp_at_zero Go.wp_at_succ

def stF (ia : Option Addr) : List FileV := [⟨true, 2, 2, 1, none, 0, 0, []⟩, ⟨true, 2, 2, -1, ia, 1, 1, [5]⟩]
def stS : SV := filesS (stF none)
theorem stS_all (ia : Option Addr) : filesS (stF ia) = stS := by
  funext i
  match i with
  | 0 => rfl
  | 1 => rfl
  | n + 2 =>
    unfold stS filesS
    rw [if_neg (show ¬ (n + 2 < (stF ia).length ∧ n + 2 < 5) from fun h => absurd (show n + 2 < 2 from h.1) (by omega)), if_neg (show ¬ (n + 2 < (stF none).length ∧ n + 2 < 5) from fun h => absurd (show n + 2 < 2 from h.1) (by omega))]
theorem st_walk1 : (stS.walk 0).1 = [0, 1] := by decide +kernel
theorem st_walk2 : (stS.walk 0).2 = 0 := by decide +kernel
theorem st_read1 : (stS.read [0, 1] 0).1.data.toList = (clusterS 5).data.toList := by decide +kernel
theorem st_read2 : (stS.read [0, 1] 0).2 = 0 := by decide +kernel

theorem st_read : (stS.read [0, 1] 0).1 = clusterS 5 := by
  have h := st_read1
  apply ByteArray.ext
  exact Array.toList_inj.1 h
theorem st_good : stS.good 2 [0, 1] := by
  have := (stS.walk_good 0).1
  rw [st_walk1] at this
  have h2 : stS.rootC 0 = 2 := by decide +kernel
  rw [h2] at this
  exact this

theorem st_files (w : World) : Files ((w.alloc (.cells #[.int .i64 5] 3)).alloc (.cells #[.bool true, .int .i64 2, .int .i64 2, .int .i64 1, .slice none 0 0, .bool true, .int .i64 2, .int .i64 2, .int .i64 (-1), .slice (some ⟨w.heap.size, 0, none⟩) 1 1] 62)) (some ⟨w.heap.size + 1, 0, none⟩) 2 (stF (some ⟨w.heap.size, 0, none⟩)) := by
  have hrow := heap_alloc_new (w.alloc (.cells #[.int .i64 5] 3)) (.cells #[.bool true, .int .i64 2, .int .i64 2, .int .i64 1, .slice none 0 0, .bool true, .int .i64 2, .int .i64 2, .int .i64 (-1), .slice (some ⟨w.heap.size, 0, none⟩) 1 1] 62)
  rw [show (w.alloc (.cells #[.int .i64 5] 3)).heap.size = w.heap.size + 1 by simp] at hrow
  have hrow2 : ((w.alloc (.cells #[.int .i64 5] 3)).alloc (.cells #[.bool true, .int .i64 2, .int .i64 2, .int .i64 1, .slice none 0 0, .bool true, .int .i64 2, .int .i64 2, .int .i64 (-1), .slice (some ⟨w.heap.size, 0, none⟩) 1 1] 62)).heap[w.heap.size]? = some (.cells #[.int .i64 5] 3) := by
    rw [Below.heap_alloc _ _ _ (by simp), heap_alloc_new]
  refine ⟨rfl, fun k hk => ⟨_, _, rfl, ?_, ?_⟩⟩
  · intro j v hj
    rw [cell_of_row _ _ _ _ _ _ hrow]
    match k, hk with
    | 0, _ => match j, hj with
      | 0, hj => exact hj
      | 1, hj => exact hj
      | 2, hj => exact hj
      | 3, hj => exact hj
      | 4, hj => exact hj
      | n + 5, hj => cases hj
    | 1, _ => match j, hj with
      | 0, hj => exact hj
      | 1, hj => exact hj
      | 2, hj => exact hj
      | 3, hj => exact hj
      | 4, hj => exact hj
      | n + 5, hj => cases hj
  · match k, hk with
    | 0, _ => exact ⟨fun j hj => absurd hj (Nat.not_lt_zero j), rfl, Nat.zero_le _⟩
    | 1, _ => exact ⟨fun j hj => ⟨_, _, rfl, by
        have hj0 : j = 0 := by have : j < 1 := hj; omega
        rw [hj0, cell_of_row _ _ _ _ _ _ hrow2]; rfl⟩, rfl, (show 1 ≤ maxLen by unfold maxLen; omega)⟩

set_option maxRecDepth 100000 in
set_option maxHeartbeats 2000000 in
theorem stacks_any (w : World) : Calls Tryz.prog 5 #[] w fun e w' => e = .returned (.bool true) ∧ Below w.heap.size w w' := by
  have HW1 : Hid (Files ((w.alloc (.cells #[.int .i64 5] 3)).alloc (.cells #[.bool true, .int .i64 2, .int .i64 2, .int .i64 1, .slice none 0 0, .bool true, .int .i64 2, .int .i64 2, .int .i64 (-1), .slice (some ⟨w.heap.size, 0, none⟩) 1 1] 62)) (some ⟨w.heap.size + 1, 0, none⟩) 2 (stF (some ⟨w.heap.size, 0, none⟩))) := st_files w
  have HWB : Hid (Below w.heap.size w ((w.alloc (.cells #[.int .i64 5] 3)).alloc (.cells #[.bool true, .int .i64 2, .int .i64 2, .int .i64 1, .slice none 0 0, .bool true, .int .i64 2, .int .i64 2, .int .i64 (-1), .slice (some ⟨w.heap.size, 0, none⟩) 1 1] 62))) := ((Below.refl _ w).alloc (Nat.le_refl _) _).alloc (by simp) _
  go_enter Tryz.func5, Tryz.ntmps5
  go_wp2_with fail
  generalize (w.alloc (.cells #[.int .i64 5] 3)).alloc (.cells #[.bool true, .int .i64 2, .int .i64 2, .int .i64 1, .slice none 0 0, .bool true, .int .i64 2, .int .i64 2, .int .i64 (-1), .slice (some ⟨w.heap.size, 0, none⟩) 1 1] 62) = W1 at HW1 HWB ⊢
  have HLD := toHid (laid_any (some ⟨w.heap.size + 1, 0, none⟩) 2 2 (stF (some ⟨w.heap.size, 0, none⟩)) W1 HW1.out (by decide) (fun k hk => by
    match k, hk with
    | 0, _ => exact Nat.zero_le _
    | 1, _ => exact (by omega : 1 ≤ 40)))
  rw [stS_all] at HLD
  clear HW1
  refine HLD.out.mono ?_
  rintro e w2 ⟨sp, mp, xs, qs, rfl, hL⟩
  have HB2 : Hid (Below w.heap.size w w2) := HWB.out.trans (hL.bel.mono HWB.out.size)
  have HSH := toHid hL.prog
  have HWK := toHid (cwalk_any 0 w2 hL.prog)
  rw [st_walk1, st_walk2, erV_0] at HWK
  clear hL HLD HWB
  go_wp2_with fail
  refine HWK.out.mono ?_
  rintro e w3 ⟨a, cap, rfl, hnu, hfr, hb3⟩
  have HB3 : Hid (Below w.heap.size w w3) := HB2.out.trans (hb3.mono HB2.out.size)
  have HRD := toHid (cread_any (cap := cap) [0, 1] 0 w3 (HSH.out.below hb3) hnu (C := 2) st_good (by decide))
  rw [st_read, st_read2, erV_0] at HRD
  have HNU := toHid hnu
  clear hnu hfr hb3 HWK HB2 HSH
  have HCC : Hid (∀ W : World, Calls Tryz.prog 24 #[.int .i64 5] W fun e w' => e = .returned (.string (clusterS 5)) ∧ Below W.heap.size W w') := fun W => cluster_any 5 W
  generalize clusterS 5 = CS at HRD HCC
  go_wp2_with fail
  refine HRD.out.mono ?_
  rintro e w4 ⟨rfl, hb4⟩
  have HB4 : Hid (Below w.heap.size w w4) := HB3.out.trans (hb4.mono HB3.out.size)
  have HNU4 := toHid (HNU.out.below hb4)
  clear hb4 HRD HNU HB3
  have HS0 : Hid (∀ W : World, Calls Tryz.prog 11 #[.nilIface, .int .i64 0] W fun e w' => e = .returned (.bool true) ∧ w' = W) := fun W => errSame_nil 0 W
  go_wp2_with (go_at_call 11; refine (HS0.out _).mono ?_; rintro e w' ⟨rfl, hw⟩; have hw' := hw.symm; subst hw'; clear hw)
  have hnew : Nums (w4.alloc (.cells #[.int .i64 0, .int .i64 1] 3)) (some ⟨w4.heap.size, 0, none⟩) [0, 1] := fun k hk => ⟨_, _, rfl, by
    rw [cell_of_row _ _ _ _ _ _ (heap_alloc_new w4 _)]
    match k, hk with
    | 0, _ => rfl
    | 1, _ => rfl⟩
  have hbA : Below w4.heap.size w4 (w4.alloc (.cells #[.int .i64 0, .int .i64 1] 3)) := (Below.refl _ _).alloc (Nat.le_refl _) _
  refine (sameNums_any (c1 := cap) (c2 := 2) [0, 1] _ (HNU4.out.below hbA) hnew (by decide)).mono ?_
  rintro e w5 ⟨rfl, hb5⟩
  have HB5 : Hid (Below w.heap.size w w5) := HB4.out.trans ((hbA.trans (hb5.mono hbA.size)).mono HB4.out.size)
  clear hb5 hbA hnew HNU4 HB4
  go_wp2_with fail
  refine (HCC.out _).mono ?_
  rintro e w6 ⟨rfl, hb6⟩
  have HB6 : Hid (Below w.heap.size w w6) := HB5.out.trans (hb6.mono HB5.out.size)
  clear hb6
  go_wp2
  go_ret
  exact ⟨by simp, HB6.out⟩
end Go.Proofs.YtjegaljdindfaabGreatDoor

namespace Go.Proofs.YtjegaljdindfaabGreatDoor
open Go.RowKit

theorem SV.good.upd {s : SV} {C : Int} {l : List Int} (hg : s.good C l) {n : Int} {v u : IV} (hf : s.file n = some v) (hu : u.h = v.h) : (s.upd n.toNat u).good C l := fun k hk => by
  obtain ⟨v', h1, h2⟩ := hg k hk
  rw [SV.file_upd hf]
  by_cases e : k = n
  · rw [if_pos e]
    rw [e, hf] at h1
    cases h1
    exact ⟨u, rfl, by rw [hu]; exact h2⟩
  · rw [if_neg e]; exact ⟨v', h1, h2⟩

theorem SV.good.lay {s : SV} {C : Int} {l : List Int} (hg : s.good C l) (l' : List Int) (c f : Nat) (t : ByteArray) : (s.lay l' c f t).1.good C l := by
  unfold SV.lay
  split
  · exact hg
  · split
    · exact hg
    · next v hf =>
      split
      · exact hg.upd hf (IV.write_h _ _ _ _)
      · exact hg.upd hf (IV.fill_h _ _ _)

theorem SV.good.putPt {s : SV} {C : Int} {l : List Int} (hg : s.good C l) (l' : List Int) (t : ByteArray) (p : Pt) : (SV.putPt l' t s p).1.good C l := hg.lay _ _ _ _

theorem SV.good.wipePt {s : SV} {C : Int} {l : List Int} (hg : s.good C l) (l' : List Int) (p : Pt) : (SV.wipePt l' s p).1.good C l := by
  unfold SV.wipePt
  split
  · exact hg
  · split
    · exact hg
    · next v hf =>
      split
      · exact hg.upd hf (IV.clear_h _ _)
      · split
        · exact hg
        · exact hg.lay _ _ _ _

theorem SV.good.goPts {op : SV → Pt → SV × Int} {C : Int} {l : List Int} (hop : ∀ (s : SV) p, s.good C l → (op s p).1.good C l) : ∀ (P : List Pt) (s : SV), s.good C l → (goPts op s P).1.good C l := by
  intro P
  induction P with
  | nil => intro s h; exact h
  | cons p r ih =>
    intro s h
    show (if (op s p).2 = 0 then Go.Proofs.YtjegaljdindfaabGreatDoor.goPts op (op s p).1 r else op s p).1.good C l
    split
    · exact ih _ (hop s p h)
    · exact hop s p h

theorem SV.good.put {s : SV} {C : Int} {l : List Int} (hg : s.good C l) (l' : List Int) (fr : Int) (t : ByteArray) : (s.put l' fr t).1.good C l := by
  unfold SV.put
  split
  · split
    · exact SV.good.goPts (fun s p h => h.putPt l' t p) _ _ hg
    · exact hg
  · exact hg

theorem SV.good.wipe {s : SV} {C : Int} {l : List Int} (hg : s.good C l) (l' : List Int) (fr n : Int) : (s.wipe l' fr n).1.good C l := by
  unfold SV.wipe
  split
  · exact SV.good.goPts (fun s p h => h.wipePt l' p) _ _ hg
  · exact hg

theorem SV.good.move {s : SV} {C : Int} {l : List Int} (hg : s.good C l) (n c : Int) (t : ByteArray) : (s.move n c t).1.good C l := by
  unfold SV.move
  split
  · exact hg
  · next v hf =>
    split
    · exact hg.upd hf (IV.clear_h _ _)
    · split
      · exact hg.upd hf (IV.write_h _ _ _ _)
      · exact hg.upd hf (IV.fill_h _ _ _)

theorem goPts_cons {op : SV → Pt → SV × Int} {s : SV} {p : Pt} {r : List Pt} : goPts op s (p :: r) = if (op s p).2 = 0 then goPts op (op s p).1 r else op s p := rfl

theorem drop_pt {P : List Pt} {i : Nat} (h : i < P.length) : P.drop i = P[i] :: P.drop (i + 1) := List.drop_eq_getElem_cons h

/- A range of one part after the other is the range. -/
theorem extract_join (t : ByteArray) (a b c : Nat) (h1 : a ≤ b) (h2 : b ≤ c) : t.extract a b ++ t.extract b c = t.extract a c := by
  apply ByteArray.ext
  rw [ByteArray.data_append, ByteArray.data_extract, ByteArray.data_extract, ByteArray.data_extract]
  apply Array.ext'
  rw [Array.toList_append, Array.toList_extract, Array.toList_extract, Array.toList_extract, List.extract_eq_take_drop, List.extract_eq_take_drop, List.extract_eq_take_drop]
  rw [show c - a = (b - a) + (c - b) by omega, List.take_add, List.drop_drop, show a + (b - a) = b by omega]

theorem secB_snoc (t : ByteArray) (f n : Nat) : secB t f n ++ secB t (f + n) 1 = secB t f (n + 1) := by
  unfold secB
  rw [extract_join t _ _ _ (by omega) (by omega)]; rfl

theorem secB_none (t : ByteArray) (f : Nat) : secB t f 0 = bytesOf [] := by
  unfold secB
  apply ByteArray.ext
  rw [ByteArray.data_extract]
  apply Array.ext'
  rw [Array.toList_extract, List.extract_eq_take_drop, show (f + 0) * 16 - f * 16 = 0 by omega]
  rfl

theorem append_none (t : ByteArray) : t ++ bytesOf [] = t := by
  apply ByteArray.ext
  rw [ByteArray.data_append]
  apply Array.ext'
  simp [bytesOf]

theorem append_same (a b c : ByteArray) : a ++ b ++ c = a ++ (b ++ c) := by
  apply ByteArray.ext
  rw [ByteArray.data_append, ByteArray.data_append, ByteArray.data_append, ByteArray.data_append]
  exact Array.append_assoc

/- A part more is got. -/
theorem SV.getTo_part {s : SV} {C : Nat} {l : List Int} {fr n : Nat} {p : Pt} (hp : p.fits fr n C) : ∀ j, j ≤ p.n → s.getTo l fr (p.a + j) = s.getTo l fr p.a ++ secB (s.read l (p.c : Int)).1 p.f j := by
  intro j
  have hat := hp.at_
  have h4 := hp.n4
  induction j with
  | zero => intro _; rw [secB_none, append_none]; rfl
  | succ j ih =>
    intro hj
    show s.getTo l fr (p.a + j) ++ secB (s.read l (((fr + (p.a + j)) / 4 : Nat) : Int)).1 ((fr + (p.a + j)) % 4) 1 = _
    have e1 : (fr + (p.a + j)) / 4 = p.c := by omega
    have e2 : (fr + (p.a + j)) % 4 = p.f + j := by omega
    rw [ih (by omega), e1, e2, append_same, secB_snoc]

theorem SV.getTo_size {s : SV} {C : Nat} {l : List Int} {m fr : Nat} (hg : s.good (C : Int) l) (hok : s.ok m) (h0 : l ≠ []) : ∀ k, fr + k ≤ 4 * C → (s.getTo l fr k).size = k * 16 := by
  intro k
  induction k with
  | zero => intro _; rfl
  | succ k ih =>
    intro hk
    show (s.getTo l fr k ++ secB _ _ 1).size = _
    obtain ⟨_, r2⟩ := SV.read_yes hg hok h0 (c := (((fr + k) / 4 : Nat) : Int)) ⟨by omega, by omega⟩
    rw [ByteArray.size_append, ih (by omega), secB_size (by omega)]; omega

/- How a list of parts goes on. -/
theorem ptsFrom_at (fr n : Nat) : ∀ (k a : Nat), n - a ≤ k → ∀ i (h : i < (ptsFrom fr n a).length), a ≤ (ptsFrom fr n a)[i].a ∧ (∀ j (hj : j < (ptsFrom fr n a).length), j = i + 1 → (ptsFrom fr n a)[j].a = (ptsFrom fr n a)[i].a + (ptsFrom fr n a)[i].n) ∧ (i + 1 = (ptsFrom fr n a).length → (ptsFrom fr n a)[i].a + (ptsFrom fr n a)[i].n = n) ∧ (i = 0 → (ptsFrom fr n a)[i].a = a) := by
  intro k
  induction k with
  | zero => intro a h i hi; have := ptsFrom_len fr n 0 a h; omega
  | succ k ih =>
    intro a h i hi
    by_cases ha : a < n
    · have h1 := mkPt_n (fr := fr) ha
      have hc := ptsFrom_cons (fr := fr) ha
      have ih2 := ih (a + (mkPt fr n a).n) (by omega)
      generalize ptsFrom fr n a = P at hi hc ⊢
      subst hc
      cases i with
      | zero =>
        refine ⟨Nat.le_refl _, fun j hj e => ?_, fun e => ?_, fun _ => rfl⟩
        · subst e
          have hj' : 0 < (ptsFrom fr n (a + (mkPt fr n a).n)).length := by simpa using hj
          exact (ih2 0 hj').2.2.2 rfl
        · show a + (mkPt fr n a).n = n
          simp only [List.length_cons] at e
          by_cases hx : a + (mkPt fr n a).n < n
          · rw [ptsFrom_cons hx] at e; simp at e
          · omega
      | succ i =>
        have hi' : i < (ptsFrom fr n (a + (mkPt fr n a).n)).length := by simpa using hi
        obtain ⟨q1, q2, q3, q4⟩ := ih2 i hi'
        refine ⟨by show a ≤ (ptsFrom fr n (a + (mkPt fr n a).n))[i].a; omega, fun j hj e => ?_, fun e => ?_, fun e => by cases e⟩
        · subst e
          have hj' : i + 1 < (ptsFrom fr n (a + (mkPt fr n a).n)).length := by simpa using hj
          exact q2 (i + 1) hj' rfl
        · exact q3 (by simpa using e)
    · have := ptsFrom_nil (fr := fr) ha
      rw [this] at hi; cases hi
end Go.Proofs.YtjegaljdindfaabGreatDoor
