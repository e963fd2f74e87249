/-
Walk: the files that are one above the other (G1).
The document's shelf: the place that has something, a cluster that is read, a range's fault.
asShelf: two shelves, held against each other; SameNumbers of two lists.
-/
import Derived.Test.YtjegaljdindfaabGreatDoorQChainRead
import Derived.Test.YtjegaljdindfaabGreatDoorQRchShelf
import Derived.Test.YtjegaljdindfaabGreatDoorQAsImage
import Derived.BigRegion
import Derived.BigQuiet
import Derived.Test.YtjegaljdindfaabGreatDoorQLawLaid0
namespace Go.Proofs.YtjegaljdindfaabGreatDoor
open Go.RowKit Go.Maps
attribute [local go_sem ↓] Go.wp_at_zero Go.wp_at_succ

def numV (l : List Int) : List Value := l.map fun n => .int .i64 n
def sliceLen : Value → Nat
  | .slice _ n _ => n
  | _ => 0

theorem nums_owns {w : World} {B n cap : Nat} {a : Option Addr} {l : List Int} (ho : w.ownsRow B 3 1 (.slice a n cap) n (numV l)) (hl : l.length = n) : Nums w a l := fun k hk => by
  obtain ⟨g, cap2, hv, hc, _, _⟩ := ownsRow_cell ho k (by omega)
  injection hv with hv1 hv2 hv3
  refine ⟨g, 0, hv1, ?_⟩
  rw [Nat.zero_add, hc]
  simp [numV, List.getElem?_eq_getElem hk, List.getD]

theorem owns_cap {w : World} {B n cap : Nat} {a : Option Addr} {xs : List Value} (ho : w.ownsRow B 3 1 (.slice a n cap) n xs) : n ≤ cap := by
  rcases ho.2 with ⟨h, h0⟩ | ⟨g, c, cur, hv, _, _, hc, _⟩
  · omega
  · injection hv with h1 h2 h3
    omega

structure Walks (w : World) (s : SV) (root : Int) (R : List Int × Int) (l : List Int) (n : Int) (a : Option Addr) (cap : Nat) (wr : World) : Prop where
  own : wr.ownsRow w.heap.size 3 1 (.slice a l.length cap) l.length (numV l)
  go : s.walkGo (s.rootC root) (6 - l.length) l n = R
  len : l.length ≤ 5
  root : n = root ∨ ∃ v, s.file root = some v
  bel : Below w.heap.size w wr

set_option maxRecDepth 100000 in
set_option maxHeartbeats 2000000 in
theorem cwalk_any {sp m : Nat} {xs : Nat → Ih} {s : SV} (root : Int) (w : World) (h : IsShelf w sp xs s m) :
    Calls Tryz.prog 9 #[.pointer (some ⟨sp, 0, none⟩), .int .i64 root] w fun e w' =>
      ∃ (a : Option Addr) (cap : Nat), e = .returned (.tuple #[.slice a (s.walk root).1.length cap, erV (s.walk root).2]) ∧ Nums w' a (s.walk root).1 ∧ (∀ g o, a = some ⟨g, o, none⟩ → w.heap.size ≤ g ∧ g < w'.heap.size ∧ (s.walk root).1.length ≤ cap) ∧ Below w.heap.size w w' := by
  obtain ⟨i1, hi1, hx0, hx1, hx2⟩ := info_parts info_int
  have HFI : Hid (∀ (n : Int) (W : World), Below w.heap.size w W → Calls Tryz.prog 34 #[.pointer (some ⟨sp, 0, none⟩), .int .i64 n] W fun e w' => e = .returned (ptrO (xs n.toNat) (s.file n)) ∧ w' = W) := fun n W hb => file_any n W (h.below hb)
  have HHD : Hid (∀ (n : Int) (v : IV) (W : World), s.file n = some v → Below w.heap.size w W → Calls Tryz.prog 33 #[.pointer (some ⟨(xs n.toNat).p, 0, none⟩)] W fun e w' => e = .returned (.agg #[.int .i64 v.h.c, .int .i64 v.h.p, .int .i64 v.h.b]) ∧ Below W.heap.size W w') := fun n v W hf hb => head_img W ((h.below hb).imgF hf).1
  have HCE : Hid (∀ (n : Int) (v : IV) (W : World), s.file n = some v → Below w.heap.size w W → W.cell? ⟨sp, n.toNat, none⟩ = some (.pointer (some ⟨(xs n.toNat).p, 0, none⟩)) ∧ 0 ≤ n ∧ n < 5) := fun n v W hf hb => ⟨(h.below hb).cellF hf, (SV.file_of hf).1, (SV.file_of hf).2.1⟩
  have HST : Hid (Walks w s root (s.walk root) [] root none 0 w) := ⟨World.ownsRow_nil _ _ _ _, rfl, Nat.zero_le _, .inl rfl, Below.refl _ _⟩
  generalize s.walk root = R at HST ⊢
  clear h
  go_enter Tryz.func9, Tryz.ntmps9
  go_wp2
  go_loopw [6, 7] (fun u i wr => ∃ (l : List Int) (n : Int) (a : Option Addr) (cap : Nat), u = .slice a l.length cap ∧ i = .int .i64 n ∧ Walks w s root R l n a cap wr) (fun u _ _ => 6 - sliceLen u)
  case atStart => exact ⟨[], root, none, 0, rfl, rfl, HST.out⟩
  case round =>
    obtain ⟨l, n, a, cap, rfl, rfl, hw⟩ := hrel
    have HW := toHid hw
    have hl5 := hw.len
    obtain ⟨q, hq⟩ : ∃ q, 6 - l.length = q + 1 := ⟨5 - l.length, by omega⟩
    have hgo := hw.go
    rw [hq] at hgo
    by_cases hn : n = -1
    · have g0 : (n != -1) = false := by simpa using hn
      rw [hn, SV.walk_end] at hgo
      have HR := toHid hgo
      have HN : Hid (Nums wr a l ∧ ∀ g o, a = some ⟨g, o, none⟩ → w.heap.size ≤ g ∧ g < wr.heap.size ∧ l.length ≤ cap) := ⟨nums_owns hw.own rfl, fun g o e => by
        subst e
        exact ⟨(hw.own.lt g rfl).1, (hw.own.lt g rfl).2, owns_cap hw.own⟩⟩
      have HB := toHid hw.bel
      clear hw hgo hn
      go_wp2
      go_ret2
      exact ⟨a, cap, by rw [← HR.out, erV_0]; rfl, by rw [← HR.out]; exact HN.out.1, by rw [← HR.out]; exact HN.out.2, HB.out⟩
    · have g0 : (n != -1) = true := by simpa using hn
      have HF := toHid (HFI.out n wr hw.bel)
      cases hf : s.file n with
      | none =>
        rw [SV.walk_none hn hf] at hgo
        have HR := toHid hgo
        have HB := toHid hw.bel
        rw [hf] at HF
        clear hw hgo hn hf
        go_wp2_with fail
        refine HF.out.mono ?_
        rintro e w' ⟨rfl, hw⟩
        have hw' := hw.symm
        subst hw'
        clear hw
        unfold ptrO
        go_wp2
        go_ret2
        exact ⟨none, 0, by rw [← HR.out, erV_some (by decide)]; rfl, by rw [← HR.out]; exact Nums.nil _ _, (fun g o e => by cases e), HB.out⟩
      | some v =>
        rw [hf] at HF
        by_cases h5 : l.length = 5
        · have g1 : ((l.length : Int) == 5) = true := by simp; omega
          rw [SV.walk_long hn hf h5] at hgo
          have HR := toHid hgo
          have HB := toHid hw.bel
          clear hw hgo hn hf
          go_wp2_with fail
          refine HF.out.mono ?_
          rintro e w' ⟨rfl, hw⟩
          have hw' := hw.symm
          subst hw'
          clear hw
          unfold ptrO
          go_wp2
          go_ret2
          exact ⟨none, 0, by rw [← HR.out, erV_some (by decide)]; rfl, by rw [← HR.out]; exact Nums.nil _ _, (fun g o e => by cases e), HB.out⟩
        · have g1 : ((l.length : Int) == 5) = false := by simp; omega
          obtain ⟨vr, hr⟩ : ∃ vr, s.file root = some vr := by
            rcases hw.root with e | e
            · rw [← e]; exact ⟨v, hf⟩
            · exact e
          have hrc : s.rootC root = vr.h.c := by unfold SV.rootC; rw [hr]
          have HB := toHid hw.bel
          have HH1 := toHid (fun W hb => HHD.out n v W hf hb)
          have HH2 := toHid (fun W hb => HHD.out root vr W hr hb)
          obtain ⟨d1, r0, r5⟩ := HCE.out root vr wr hr hw.bel
          have f1 := field_c v.h.c v.h.p v.h.b
          have f2 := field_c vr.h.c vr.h.p vr.h.b
          have f3 := field_b v.h.c v.h.p v.h.b
          obtain ⟨rk, rfl⟩ : ∃ rk : Nat, root = (rk : Int) := ⟨root.toNat, by omega⟩
          have hrk : ((rk : Int)).toNat = rk := by omega
          rw [hrk] at d1 HH2
          have d2 : wr.drew.cell? ⟨sp, rk, none⟩ = some (.pointer (some ⟨(xs rk).p, 0, none⟩)) := d1
          obtain ⟨_, n0, n5⟩ := HCE.out n v wr hf hw.bel
          obtain ⟨nk, rfl⟩ : ∃ nk : Nat, n = (nk : Int) := ⟨n.toNat, by omega⟩
          have hnk : ((nk : Int)).toNat = nk := by omega
          have HCN : Hid (∀ W : World, Below w.heap.size w W → W.cell? ⟨sp, nk, none⟩ = some (.pointer (some ⟨(xs nk).p, 0, none⟩))) := fun W hb => by have := (HCE.out (nk : Int) v W hf hb).1; rw [hnk] at this; exact this
          have HSP : Hid (∀ W : World, Below w.heap.size w W → W.cell? ⟨sp, rk, none⟩ = some (.pointer (some ⟨(xs rk).p, 0, none⟩))) := fun W hb => by have := (HCE.out (rk : Int) vr W hr hb).1; rw [hrk] at this; exact this
          rw [hnk] at HF HH1
          unfold ptrO at HF
          generalize (xs rk).p = xr at HH2 d1 d2 HSP
          generalize (xs nk).p = xn at HF HH1 HCN
          have HSB : Hid (∀ W : World, Below wr.heap.size wr W → Below w.heap.size w W) := fun W hb => HB.out.trans (hb.mono HB.out.size)
          have HSI : Hid (∀ W : World, Below wr.heap.size wr W → W.cell? ⟨sp, rk, none⟩ = some (.pointer (some ⟨xr, 0, none⟩))) := fun W hb => HSP.out W (HSB.out W hb)
          have HDR : Hid (Below wr.heap.size wr wr.drew) := (Below.refl _ _).drew
          by_cases hc : v.h.c = vr.h.c
          · have hcb : (v.h.c != vr.h.c) = false := by simpa using hc
            rw [SV.walk_on hn hf h5 (by rw [hrc]; exact hc)] at hgo
            have HGO := toHid hgo
            have HOW := toHid hw.own
            have HVR : Hid (∃ v, s.file (rk : Int) = some v) := ⟨vr, hr⟩
            have hl4 : l.length ≤ 4 := by omega
            have HQ := toHid hq
            have HM : Hid (l.length + 1 ≤ maxLen) := by unfold Hid maxLen; omega
            clear hw hgo hf hr HHD HCE hc HFI HST HSP hq
            go_wp2_with fail
            refine HF.out.mono ?_
            rintro e w' ⟨rfl, hw⟩
            have hw' := hw.symm
            subst hw'
            clear hw
            go_wp2
            go_region_held3 (fun W => Below wr.heap.size wr W ∧ W.cell? ⟨sp, rk, none⟩ = some (.pointer (some ⟨xr, 0, none⟩)))
              (first | (exact ⟨HDR.out, d2⟩) | assumption)
              (first
                | (go_at_call 33; refine (HH1.out _ (HSB.out _ (by assumption : Below wr.heap.size wr _ ∧ _).1)).mono ?_; rintro e wH ⟨rfl, hbH⟩; have hS := (by assumption : Below wr.heap.size wr _ ∧ _).1.trans (hbH.mono (by assumption : Below wr.heap.size wr _ ∧ _).1.size); have hSS := And.intro hS (HSI.out _ hS))
                | (go_at_call 33; refine (HH2.out _ (HSB.out _ (by assumption : Below wr.heap.size wr _ ∧ _).1)).mono ?_; rintro e wH ⟨rfl, hbH⟩; have hS := (by assumption : Below wr.heap.size wr _ ∧ _).1.trans (hbH.mono (by assumption : Below wr.heap.size wr _ ∧ _).1.size); have hSS := And.intro hS (HSI.out _ hS)))
            all_goals
              have HBH := toHid hS
              clear hS hSS hbH d1 d2
              have HO1 : Hid ((wH.alloc (.cells #[.int .i64 (nk : Int)] 3)).ownsRow w.heap.size 3 1 (.slice a l.length cap) l.length (numV l)) := (ownsRow_keep HOW.out fun k e => HBH.out.block k (HOW.out.lt k e).2).alloc _
              have HZ1 : Hid ((wH.alloc (.cells #[.int .i64 (nk : Int)] 3)).heap.size = wH.heap.size + 1) := by unfold Hid; simp
              have HB1 : Hid (w.heap.size ≤ (wH.alloc (.cells #[.int .i64 (nk : Int)] 3)).heap.size) := by unfold Hid; have := (HSB.out _ HBH.out).size; rw [HZ1.out]; omega
              have HN1 : Hid (∀ j y, ([.int .i64 (nk : Int)] : List Value)[j]? = some y → (wH.alloc (.cells #[.int .i64 (nk : Int)] 3)).cell? ((⟨wH.heap.size, 0, none⟩ : Addr).add j) = some y) := cell_one_new _ _ _
              have HBA : Hid (Below w.heap.size w (wH.alloc (.cells #[.int .i64 (nk : Int)] 3))) := (HSB.out _ HBH.out).alloc (HSB.out _ HBH.out).size _
              go_wp2_with (at_builtin; refine wpList_append_lies _ (by rfl) _ _ 31 (by rfl) w.heap.size 3 i1 (.int .i64 0) 1 8 Tryz.underlying31 hi1 hx0 hx1 hx2 rfl (by decide) (.slice a l.length cap) l.length (numV l) (by rfl) HO1.out ⟨wH.heap.size, 0, none⟩ 1 1 [.int .i64 (nk : Int)] (by rfl) (by rfl) HN1.out (fun u hu => by simp at hu; subst hu; rfl) (by decide) HM.out (by omega) HB1.out (wH.heap.size + 1) HZ1.out ?_
                           intro g k w1 hown hgrow hat hlt
                           have HBF : Hid (Below w.heap.size w w1) := HBA.out.grown hgrow HB1.out (fun r e => (HO1.out.lt r e).1)
                           have HOF := toHid hown
                           have d3 := HCN.out w1 HBF.out
                           clear hown hgrow hat hlt)
              refine (HH1.out _ HBF.out).mono ?_
              rintro e w2 ⟨rfl, hb2⟩
              have HWK : Hid (Walks w s (rk : Int) R (l ++ [(nk : Int)]) v.h.b (some ⟨g, 0, none⟩) k w2) := by
                have e1 : (l ++ [(nk : Int)]).length = l.length + 1 := by simp
                have e2 : numV (l ++ [(nk : Int)]) = numV l ++ [.int .i64 (nk : Int)] := by simp [numV]
                refine ⟨?_, ?_, by rw [e1]; omega, .inr HVR.out, HBF.out.trans (hb2.mono HBF.out.size)⟩
                · rw [e1, e2]; exact ownsRow_keep HOF.out fun k e => hb2.block k (HOF.out.lt k e).2
                · have := HQ.out
                  rw [e1, show 6 - (l.length + 1) = q by omega]; exact HGO.out
              clear hb2 d3
              go_wp2
              go_roundw
              case rel =>
                have fin : ∃ (l1 : List Int) (n1 : Int) (a1 : Option Addr) (cap1 : Nat), Value.slice (some ⟨g, 0, none⟩) (l.length + 1) k = .slice a1 l1.length cap1 ∧ Value.int .i64 v.h.b = .int .i64 n1 ∧ Walks w s (rk : Int) R l1 n1 a1 cap1 w2 := ⟨l ++ [(nk : Int)], v.h.b, some ⟨g, 0, none⟩, k, by simp, rfl, HWK.out⟩
                first | exact fin | ((repeat apply Exists.intro); exact ⟨fin, rfl⟩)
              case measure => simp [sliceLen]; omega
          · have hcb : (v.h.c != vr.h.c) = true := by simpa using hc
            rw [SV.walk_other hn hf h5 (by rw [hrc]; exact hc)] at hgo
            have HR := toHid hgo
            clear hw hgo hf hr HHD HCE hc HFI HST HSP hq hn
            go_wp2_with fail
            refine HF.out.mono ?_
            rintro e w' ⟨rfl, hw⟩
            have hw' := hw.symm
            subst hw'
            clear hw
            go_wp2
            go_region_held3 (fun W => Below wr.heap.size wr W ∧ W.cell? ⟨sp, rk, none⟩ = some (.pointer (some ⟨xr, 0, none⟩)))
              (first | (exact ⟨HDR.out, d2⟩) | assumption)
              (first
                | (go_at_call 33; refine (HH1.out _ (HSB.out _ (by assumption : Below wr.heap.size wr _ ∧ _).1)).mono ?_; rintro e wH ⟨rfl, hbH⟩; have hS := (by assumption : Below wr.heap.size wr _ ∧ _).1.trans (hbH.mono (by assumption : Below wr.heap.size wr _ ∧ _).1.size); have hSS := And.intro hS (HSI.out _ hS))
                | (go_at_call 33; refine (HH2.out _ (HSB.out _ (by assumption : Below wr.heap.size wr _ ∧ _).1)).mono ?_; rintro e wH ⟨rfl, hbH⟩; have hS := (by assumption : Below wr.heap.size wr _ ∧ _).1.trans (hbH.mono (by assumption : Below wr.heap.size wr _ ∧ _).1.size); have hSS := And.intro hS (HSI.out _ hS)))
            all_goals
              have HBH := toHid (HSB.out _ hS)
              clear hS hSS hbH d1 d2
              go_wp2
              go_ret2
              exact ⟨none, 0, by rw [← HR.out, erV_some (by decide)]; rfl, by rw [← HR.out]; exact Nums.nil _ _, (fun g o e => by cases e), HBH.out⟩
end Go.Proofs.YtjegaljdindfaabGreatDoor

namespace Go.Proofs.YtjegaljdindfaabGreatDoor
open Go.RowKit Go.Maps
attribute [local go_sem ↓] Go.wp_at_zero Go.wp_at_succ

theorem below_drewN {B : Nat} {a w : World} (h : Below B a w) (n : Nat) : Below B a (w.drewN n) := ⟨h.os, h.tape, h.output, h.size, h.block⟩

theorem IsRshelf.numAt {w : World} {sp m : Nat} {xs : Nat → Qh} {s : SV} {C : Int} {a : Option Addr} {l : List Int} (h : IsRshelf w sp xs s m) (hl : Nums w a l) (hg : s.good C l) {k : Nat} (hk : k < l.length) :
    ∃ (g o n : Nat) (v : IV), a = some ⟨g, o, none⟩ ∧ l.getD k 0 = (n : Int) ∧ n < 5 ∧ s.file (n : Int) = some v ∧ v.h.c = C ∧ w.cell? ⟨g, o + k, none⟩ = some (.int .i64 (n : Int)) ∧ w.cell? ⟨sp, n, none⟩ = some (.pointer (some ⟨(xs n).p, 0, none⟩)) ∧ IsRim Gd.no w (xs n) v ∧ v.ok m := by
  obtain ⟨g, o, h1, h2⟩ := hl k hk
  obtain ⟨v, h3, h4⟩ := hg (l.getD k 0) (by rw [List.getD_eq_getElem?_getD, List.getElem?_eq_getElem hk]; exact List.getElem_mem hk)
  obtain ⟨h5, h6, _⟩ := SV.file_of h3
  have e : l.getD k 0 = ((l.getD k 0).toNat : Int) := by omega
  refine ⟨g, o, (l.getD k 0).toNat, v, h1, e, by omega, by rw [← e]; exact h3, h4, by rw [h2]; congr 2, h.cellF h3, (h.imgF h3).1, (h.imgF h3).2⟩

theorem IV.ok.kind {v : IV} {m : Nat} (h : v.ok m) {c : Int} (hc : v.there c = true) : 0 ≤ (v.ent c).1 := by
  rcases entB_of (h.ent hc) with h1 | h1
  · omega
  · rcases h1.1 with h2 | h2 <;> omega

set_option maxRecDepth 100000 in
set_option maxHeartbeats 2000000 in
theorem rfound_any {sp m cap : Nat} {xs : Nat → Qh} {s : SV} {a : Option Addr} {C : Int} (l : List Int) (c : Int) (w : World) (h : IsRshelf w sp xs s m) (hl : Nums w a l) (hg : s.good C l) (h5 : l.length ≤ 100) :
    Calls Tryz.prog 45 #[.pointer (some ⟨sp, 0, none⟩), .slice a l.length cap, .int .i64 c] w fun e w' => e = .returned (.int .i64 (s.found l c)) ∧ Below w.heap.size w w' := by
  have HNA : Hid (∀ (k : Nat) (W : World), Below w.heap.size w W → k < l.length → ∃ (g o n : Nat) (v : IV), a = some ⟨g, o, none⟩ ∧ l.getD k 0 = (n : Int) ∧ n < 5 ∧ s.file (n : Int) = some v ∧ v.h.c = C ∧ W.cell? ⟨g, o + k, none⟩ = some (.int .i64 (n : Int)) ∧ W.cell? ⟨sp, n, none⟩ = some (.pointer (some ⟨(xs n).p, 0, none⟩)) ∧ IsRim Gd.no W (xs n) v ∧ v.ok m) := fun k W hb hk => (h.below hb).numAt (hl.below hb) hg hk
  have HF0 : Hid (s.foundGo c (l.drop 0) 0 = s.found l c) := rfl
  have HFS : Hid (∀ k, k < l.length → s.foundGo c (l.drop k) k = if kindO (s.file (l.getD k 0)) c = 0 then s.foundGo c (l.drop (k + 1)) (k + 1) else (k : Int)) := fun k hk => by rw [drop_cons hk]; rfl
  have HFE : Hid (s.foundGo c (l.drop l.length) l.length = -1) := by unfold Hid; rw [List.drop_length]; rfl
  generalize s.found l c = R at HF0 ⊢
  generalize hn : l.length = n at HNA HFS HFE h5 ⊢
  clear hn h hl
  go_enter Tryz.func45, Tryz.ntmps45
  go_wp2
  go_loopw [7] (fun i wr => ∃ k : Nat, k ≤ n ∧ i = .int .i64 (k : Int) ∧ s.foundGo c (l.drop k) k = R ∧ Below w.heap.size w wr) (fun i _ => n - (intOf i).toNat)
  case atStart => exact ⟨0, Nat.zero_le _, rfl, HF0.out, Below.refl _ _⟩
  case round =>
    obtain ⟨k, hkn, rfl, hR, hbel⟩ := hrel
    by_cases hlt : k < n
    · obtain ⟨g, o, x, v, rfl, hx, x5, hf, _, hc1, hc2, hi, hok⟩ := HNA.out k wr hbel hlt
      have hS := HFS.out k hlt
      rw [hx, hf] at hS
      have HTH : Hid (∀ W : World, Below wr.heap.size wr W → Calls Tryz.prog 85 #[.pointer (some ⟨(xs x).p, 0, none⟩), .int .i64 c] W fun e w' => e = .returned (.bool (v.there c)) ∧ w' = W) := fun W hb => there_rim c W (hi.below hb) hok.len
      have HB := toHid hbel
      have k0 : (0 : Int) ≤ (k : Int) := by omega
      have k1 : (k : Int) < (n : Int) := by omega
      have k2 : ((k : Int)).toNat = k := by omega
      have k3 : (0 : Int) ≤ (x : Int) := by omega
      have k4 : (x : Int) < 5 := by omega
      have d1 : wr.drew.cell? ⟨g, o + k, none⟩ = some (.int .i64 (x : Int)) := hc1
      have d2 : wr.drew.cell? ⟨sp, x, none⟩ = some (.pointer (some ⟨(xs x).p, 0, none⟩)) := hc2
      have HDR : Hid (Below wr.heap.size wr wr.drew) := (Below.refl _ _).drew
      cases hth : v.there c with
      | false =>
        have HN : Hid (s.foundGo c (l.drop (k + 1)) (k + 1) = R) := by
          unfold Hid
          rw [← hR, hS, if_pos (by show (v.entE c).1 = 0; unfold IV.entE; rw [hth]; rfl)]
        rw [hth] at HTH
        clear hR hS hbel HFS HNA hi hok hf hx hth HF0 HFE
        generalize (xs x).p = xp at hc2 d2 HTH
        go_wp2
        go_region_held3 (fun W => Below wr.heap.size wr W ∧ W.cell? ⟨g, o + k, none⟩ = some (.int .i64 (x : Int)) ∧ W.cell? ⟨sp, x, none⟩ = some (.pointer (some ⟨xp, 0, none⟩)))
          (first | (exact ⟨HDR.out, d1, d2⟩) | assumption)
          (first
            | (go_at_call 85; refine (HTH.out _ (by assumption : Below wr.heap.size wr _ ∧ _).1).mono ?_; rintro e w' ⟨rfl, rfl⟩))
        go_wp2
        go_quiet (fail)
        go_wp2
        go_roundw
        case rel =>
          have fin : ∃ k1 : Nat, k1 ≤ n ∧ Value.int .i64 ((k : Int) + 1) = .int .i64 (k1 : Int) ∧ s.foundGo c (l.drop k1) k1 = R ∧ Below w.heap.size w (wr.drewN (1 + nq)) := ⟨k + 1, by omega, by go_num, HN.out, below_drewN HB.out _⟩
          first | exact fin | ((repeat apply Exists.intro); exact ⟨fin, rfl⟩)
        case measure => simp [intOf]; omega
      | true =>
        obtain ⟨t0', t1'⟩ := IV.there_of hth
        have hy0 := hok.kind hth
        obtain ⟨cn, rfl⟩ : ∃ cn : Nat, c = (cn : Int) := ⟨c.toNat, by omega⟩
        obtain ⟨g2, cap2, hv2, hg2, e0, _⟩ := hi.entAt (c := cn) (by omega)
        have e4 := hi.cells.2.2.2.2.1
        rw [hv2] at e4
        have hS2 : s.foundGo (cn : Int) (l.drop k) k = if (v.ent (cn : Int)).1 = 0 then s.foundGo (cn : Int) (l.drop (k + 1)) (k + 1) else (k : Int) := by
          rw [hS]
          show (if (v.entE (cn : Int)).1 = 0 then _ else _) = _
          unfold IV.entE
          rw [hth, if_pos rfl]
        have e0' : wr.cell? ⟨g2, cn * 2, none⟩ = some (.int .i64 (v.ent (cn : Int)).1) := e0
        rw [hR] at hS2
        have HS2 := toHid hS2
        rw [hth] at HTH
        have q0 : (0 : Int) ≤ (cn : Int) := by omega
        have q1 : (cn : Int) < (v.t.length : Int) := t1'
        have q2 : ((cn : Int)).toNat = cn := by omega
        clear hR hS hS2 hbel HFS HNA hi hok hf hx hth HF0 HFE hv2 e0 t1'
        generalize (v.ent (cn : Int)).1 = y at e0' HS2 hy0
        generalize (xs x).p = xp at hc2 d2 HTH e4
        generalize v.t.length = tl at e4 q1
        go_wp2
        go_region_held3 (fun W => Below wr.heap.size wr W ∧ W.cell? ⟨g, o + k, none⟩ = some (.int .i64 (x : Int)) ∧ W.cell? ⟨sp, x, none⟩ = some (.pointer (some ⟨xp, 0, none⟩)))
          (first | (exact ⟨HDR.out, d1, d2⟩) | assumption)
          (first
            | (go_at_call 85; refine (HTH.out _ (by assumption : Below wr.heap.size wr _ ∧ _).1).mono ?_; rintro e w' ⟨rfl, rfl⟩))
        have m1 : wr.drew.cell? ⟨xp, 4, none⟩ = some (.slice (some ⟨g2, 0, none⟩) tl cap2) := e4
        have m2 : wr.drew.cell? ⟨g2, cn * 2, none⟩ = some (.int .i64 y) := e0'
        by_cases hy : y = 0
        · have g1 : decide (0 < y) = false := decide_eq_false (by omega)
          have HN : Hid (s.foundGo (cn : Int) (l.drop (k + 1)) (k + 1) = R) := by unfold Hid; rw [HS2.out, if_pos hy]
          clear hy HS2 hy0
          go_wp2
          go_quiet (fail)
          go_wp2
          go_roundw
          case rel =>
            have fin : ∃ k1 : Nat, k1 ≤ n ∧ Value.int .i64 ((k : Int) + 1) = .int .i64 (k1 : Int) ∧ s.foundGo (cn : Int) (l.drop k1) k1 = R ∧ Below w.heap.size w (wr.drewN (1 + nq)) := ⟨k + 1, by omega, by go_num, HN.out, below_drewN HB.out _⟩
            first | exact fin | ((repeat apply Exists.intro); exact ⟨fin, rfl⟩)
          case measure => simp [intOf]; omega
        · have g1 : decide (0 < y) = true := decide_eq_true (by omega)
          have HN : Hid ((k : Int) = R) := by unfold Hid; rw [HS2.out, if_neg hy]
          clear hy HS2 hy0
          go_wp2
          go_quiet (fail)
          go_wp2
          go_ret
          exact ⟨ret_i HN.out, below_drewN HB.out.drew _⟩
    · have hkc : k = n := by omega
      subst hkc
      have HN : Hid (-1 = R) := by unfold Hid; rw [← hR, HFE.out]
      clear hR
      go_wp2
      go_ret
      exact ⟨ret_i HN.out, hbel⟩
end Go.Proofs.YtjegaljdindfaabGreatDoor

namespace Go.Proofs.YtjegaljdindfaabGreatDoor
open Go.RowKit Go.Maps
attribute [local go_sem ↓] Go.wp_at_zero Go.wp_at_succ

set_option maxRecDepth 100000 in
set_option maxHeartbeats 2000000 in
theorem asShelf_any {B sp mp m : Nat} {w0 : World} {xs : Nat → Ih} {qs : Nat → Qh} {s : SV} (w : World) (h : Lay B w0 w sp mp xs qs s m) (hm : m ≤ 1000000000) :
    Calls Tryz.prog 14 #[.pointer (some ⟨sp, 0, none⟩), .pointer (some ⟨mp, 0, none⟩)] w fun e w' => e = .returned (.bool true) ∧ Below w.heap.size w w' := by
  have HC : Hid (∀ (i : Nat) (W : World), i < 5 → Below w.heap.size w W → W.cell? ⟨sp, i, none⟩ = some (ptrO (xs i) (s i)) ∧ W.cell? ⟨mp, i, none⟩ = some (ptrQ (qs i) (s i))) := fun i W hi hb => ⟨(h.prog.below hb).cell hi, (h.ref.below hb).cell hi⟩
  have HAI : Hid (∀ (i : Nat) (v : IV) (W : World), i < 5 → s i = some v → Below w.heap.size w W → Calls Tryz.prog 46 #[.pointer (some ⟨(xs i).p, 0, none⟩), .pointer (some ⟨(qs i).p, 0, none⟩)] W fun e w' => e = .returned (.bool true) ∧ Below W.heap.size W w') := fun i v W hi hs hb =>
    asImage_any W ((h.prog.below hb).img i v hi hs) ((h.ref.below hb).img i v hi hs) (h.prog.ok i v hs) hm
  have hsl : sp < w.heap.size := lt_of_some h.prog.blk
  have hml : mp < w.heap.size := lt_of_some h.ref.blk
  clear h
  go_enter Tryz.func14, Tryz.ntmps14
  go_wp2
  go_loopw [5] (fun i wr => ∃ k : Nat, k ≤ 5 ∧ i = .int .i64 (k : Int) ∧ Below w.heap.size w wr) (fun i _ => 5 - (intOf i).toNat)
  case atStart => exact ⟨0, Nat.zero_le _, rfl, Below.refl _ _⟩
  case round =>
    obtain ⟨k, hk, rfl, hbel⟩ := hrel
    have HB := toHid hbel
    by_cases hlt : k < 5
    · have k0 : (0 : Int) ≤ (k : Int) := by omega
      have k1 : (k : Int) < 5 := by omega
      have k2 : ((k : Int)).toNat = k := by omega
      obtain ⟨c1, c2⟩ := HC.out k wr hlt hbel
      cases hs : s k with
      | none =>
        rw [hs] at c1 c2
        unfold ptrO at c1
        unfold ptrQ at c2
        clear hbel hs HC HAI
        go_wp2
        go_quiet (fail)
        go_wp2
        go_roundw
        case rel =>
          have fin : ∃ k1 : Nat, k1 ≤ 5 ∧ Value.int .i64 ((k : Int) + 1) = .int .i64 (k1 : Int) ∧ Below w.heap.size w (wr.drewN nq) := ⟨k + 1, by omega, by go_num, below_drewN HB.out _⟩
          first | exact fin | ((repeat apply Exists.intro); exact ⟨fin, rfl⟩)
        case measure => simp [intOf]; omega
      | some v =>
        have HAK := toHid (fun W hb => HAI.out k v W hlt hs hb)
        rw [hs] at c1 c2
        unfold ptrO at c1
        unfold ptrQ at c2
        generalize (xs k).p = xp at c1 HAK
        generalize (qs k).p = qp at c2 HAK
        have d1 : wr.drew.cell? ⟨sp, k, none⟩ = some (.pointer (some ⟨xp, 0, none⟩)) := c1
        have d2 : wr.drew.cell? ⟨mp, k, none⟩ = some (.pointer (some ⟨qp, 0, none⟩)) := c2
        have HBD : Hid (Below w.heap.size w wr.drew) := HB.out.drew
        have HA2 := toHid (HAK.out _ HBD.out)
        clear hbel hs HC HAI HAK
        go_wp2
        go_region_held3 (fun W => W.cell? ⟨sp, k, none⟩ = some (.pointer (some ⟨xp, 0, none⟩)) ∧ W.cell? ⟨mp, k, none⟩ = some (.pointer (some ⟨qp, 0, none⟩)))
          (first | (exact ⟨d1, d2⟩) | assumption)
          (first
            | (go_at_call 46; refine HA2.out.mono ?_; rintro e w3 ⟨rfl, hb3⟩; have hS3 : w3.cell? ⟨sp, k, none⟩ = some (.pointer (some ⟨xp, 0, none⟩)) ∧ w3.cell? ⟨mp, k, none⟩ = some (.pointer (some ⟨qp, 0, none⟩)) := ⟨(hb3.cell (World.block_lt_of_cell? _ _ d1)).trans d1, (hb3.cell (World.block_lt_of_cell? _ _ d2)).trans d2⟩))
        have HB3 := toHid (HBD.out.trans (hb3.mono HBD.out.size))
        clear hb3 hS3
        go_wp2
        go_roundw
        case rel =>
          have fin : ∃ k1 : Nat, k1 ≤ 5 ∧ Value.int .i64 ((k : Int) + 1) = .int .i64 (k1 : Int) ∧ Below w.heap.size w w3 := ⟨k + 1, by omega, by go_num, HB3.out⟩
          first | exact fin | ((repeat apply Exists.intro); exact ⟨fin, rfl⟩)
        case measure => simp [intOf]; omega
    · have hke : k = 5 := by omega
      subst hke
      clear hbel
      go_wp2
      go_ret
      exact ⟨rfl, HB.out⟩

set_option maxRecDepth 100000 in
set_option maxHeartbeats 1000000 in
theorem sameNums_any {a b : Option Addr} {c1 c2 : Nat} (l : List Int) (w : World) (h1 : Nums w a l) (h2 : Nums w b l) (h5 : l.length ≤ 1000) :
    Calls Tryz.prog 12 #[.slice a l.length c1, .slice b l.length c2] w fun e w' => e = .returned (.bool true) ∧ Below w.heap.size w w' := by
  have HN : Hid (∀ (k : Nat) (W : World), Below w.heap.size w W → k < l.length → ∃ g o g2 o2, a = some ⟨g, o, none⟩ ∧ b = some ⟨g2, o2, none⟩ ∧ W.cell? ⟨g, o + k, none⟩ = some (.int .i64 (l.getD k 0)) ∧ W.cell? ⟨g2, o2 + k, none⟩ = some (.int .i64 (l.getD k 0))) := fun k W hb hk => by
    obtain ⟨g, o, e1, e2⟩ := (h1.below hb) k hk
    obtain ⟨g2, o2, e3, e4⟩ := (h2.below hb) k hk
    exact ⟨g, o, g2, o2, e1, e3, e2, e4⟩
  clear h1 h2
  generalize l.length = n at HN h5 ⊢
  go_enter Tryz.func12, Tryz.ntmps12
  go_wp2
  go_loopw [5] (fun i wr => ∃ k : Nat, k ≤ n ∧ i = .int .i64 (k : Int) ∧ Below w.heap.size w wr) (fun i _ => n - (intOf i).toNat)
  case atStart => exact ⟨0, Nat.zero_le _, rfl, Below.refl _ _⟩
  case round =>
    obtain ⟨k, hk, rfl, hbel⟩ := hrel
    have HB := toHid hbel
    by_cases hlt : k < n
    · obtain ⟨g, o, g2, o2, rfl, rfl, e1, e2⟩ := HN.out k wr hbel hlt
      have k0 : (0 : Int) ≤ (k : Int) := by omega
      have k1 : (k : Int) < (n : Int) := by omega
      have k2 : ((k : Int)).toNat = k := by omega
      generalize l.getD k 0 = x at e1 e2
      have gx : (x != x) = false := by simp
      clear hbel
      go_wp2
      go_region
      go_wp2
      go_roundw
      case rel =>
        have fin : ∃ k1 : Nat, k1 ≤ n ∧ Value.int .i64 ((k : Int) + 1) = .int .i64 (k1 : Int) ∧ Below w.heap.size w wr.drew := ⟨k + 1, by omega, by go_num, HB.out.drew⟩
        first | exact fin | ((repeat apply Exists.intro); exact ⟨fin, rfl⟩)
      case measure => simp [intOf]; omega
    · have hke : k = n := by omega
      subst hke
      clear hbel
      go_wp2
      go_ret
      exact ⟨rfl, HB.out⟩
end Go.Proofs.YtjegaljdindfaabGreatDoor
