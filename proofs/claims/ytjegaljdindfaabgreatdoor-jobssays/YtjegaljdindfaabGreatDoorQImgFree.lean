/-
The places that are free: neither used by an entry nor held.
-/
import Derived.Test.YtjegaljdindfaabGreatDoorQImgGets
namespace Go.Proofs.YtjegaljdindfaabGreatDoor
open Go.RowKit Go.Maps
attribute [local go_sem ↓] Go.wp_at_zero Go.wp_at_succ

theorem has_held (l : List Nat) (k : Nat) : Maps.has (heldD l) (.int .i64 (k : Int)) = l.any fun x => decide (x = k) := by
  unfold heldD
  rw [has_setOf]
  · induction l with
    | nil => rfl
    | cons a l ih =>
      rw [List.map_cons, List.any_cons, List.any_cons, ih]
      congr 1
      simp only [Lit.sameKey]
      apply decide_eq_decide.2
      constructor <;> intro h <;> first | omega | exact ⟨rfl, by omega⟩ | exact ⟨trivial, by omega⟩ | (have := h.2; omega)
  · intro x hx
    obtain ⟨q, _, rfl⟩ := List.mem_map.1 hx
    trivial

theorem open_both {ub hb : Bool} (h : true = (!ub && !hb)) : ub = false ∧ hb = false := by cases ub <;> cases hb <;> first | exact ⟨rfl, rfl⟩ | cases h
theorem open_not {ub : Bool} (h : false = (!ub && !false)) : ub = true := by cases ub <;> first | rfl | cases h

/- The bits of the places that the first entries use. -/
structure UsedAt (w : World) (tk : List Bool) (wr : World) : Prop where
  blk : wr.heap[w.heap.size]? = some (.cells (tk.map Value.bool).toArray 202 (0, 0))
  bel : Below w.heap.size w wr
  n40 : tk.length = 40

theorem UsedAt.bit {w wr : World} {tk : List Bool} (h : UsedAt w tk wr) (q : Nat) (hq : q < 40) : wr.cell? ⟨w.heap.size, q, none⟩ = some (.bool (tk.getD q false)) ∧ wr.frozen? ⟨w.heap.size, q, none⟩ = false := by
  refine ⟨?_, frozen_of_row _ _ _ _ _ h.blk⟩
  have hq' : q < tk.length := by rw [h.n40]; exact hq
  rw [cell_of_row _ _ _ _ _ _ h.blk, List.getElem?_toArray]
  simp [List.getElem?_eq_getElem hq', List.getD]

theorem UsedAt.set {w wr : World} {tk : List Bool} (h : UsedAt w tk wr) (q : Nat) : UsedAt w (tk.set q true) (wr.setCell ⟨w.heap.size, q, none⟩ (.bool true)) := by
  refine ⟨?_, h.bel.setCell (Nat.le_refl _) _, by rw [List.length_set]; exact h.n40⟩
  rw [heap_setCell_same _ _ _ _ _ _ h.blk]
  simp [List.map_set]

theorem UsedAt.below {w wr w2 : World} {tk : List Bool} (h : UsedAt w tk wr) (hb : Below (w.heap.size + 1) wr w2) : UsedAt w tk w2 :=
  ⟨by rw [hb.block _ (Nat.lt_succ_self _)]; exact h.blk, h.bel.trans (hb.mono (Nat.le_succ _)), h.n40⟩

theorem UsedAt.size {w wr : World} {tk : List Bool} (h : UsedAt w tk wr) : w.heap.size + 1 ≤ wr.heap.size := lt_of_some h.blk

def natV (l : List Nat) : List Value := l.map fun q : Nat => .int .i64 (q : Int)
theorem natV_len (l : List Nat) : (natV l).length = l.length := by simp [natV]
theorem zero_unit (w : World) : (zeroValue 201).run Tryz.prog w = .ok (.agg #[]) w := by kernel_rfl

theorem take_snoc {l : List (Int × Int)} {k : Nat} (h : k < l.length) : l.take (k + 1) = l.take k ++ [((l.getD k (0, 0)).1, (l.getD k (0, 0)).2)] := by
  rw [List.take_succ_eq_append_getElem h]
  congr 1
  rw [List.getD_eq_getElem?_getD, List.getElem?_eq_getElem h]
  rfl

set_option maxRecDepth 100000 in
set_option maxHeartbeats 1000000 in
theorem free_img {B : Gd} {m : Nat} {x : Ih} {v : IV} (w : World) (h : IsImg B w x v) (hok : v.ok m) :
    Calls Tryz.prog 87 #[.pointer (some ⟨x.p, 0, none⟩)] w fun e w' =>
      ∃ a cap, e = .returned (.slice a v.freeL.length cap) ∧ w'.ownsRow w.heap.size 3 1 (.slice a v.freeL.length cap) v.freeL.length (natV v.freeL) ∧ Below w.heap.size w w' := by
  have hbo := HV.of_ok hok.h
  have hlen := hok.len
  obtain ⟨c0, c1, c2, c3, c4, c5, fz⟩ := h.cells
  obtain ⟨lp, lm, lt⟩ := h.lts
  obtain ⟨i1, hi1, hx0, hx1, hx2⟩ := info_parts info_int
  have HI := toHid h
  have HEB : Hid (∀ k, k < v.t.length → entB (v.t.getD k (0, 0)).1 (v.t.getD k (0, 0)).2 v.h.p = true) := fun k hk => by
    rw [List.getD_eq_getElem?_getD, List.getElem?_eq_getElem hk]; exact hok.ents _ (List.getElem_mem hk)
  obtain ⟨P, hP⟩ : ∃ P : Nat, v.h.p = (P : Int) := ⟨v.h.p.toNat, by omega⟩
  have HFL : Hid (v.freeL = v.freeTo P) := by unfold Hid IV.freeL; rw [hP]; rfl
  have HFS : Hid (∀ k, v.freeTo (k + 1) = v.freeTo k ++ (if v.openB k = true then [k] else [])) := v.freeTo_succ
  have HF0 : Hid (v.freeTo 0 = []) := rfl
  have HFN : Hid (∀ k, (v.freeTo k).length ≤ k) := v.freeTo_len
  have HOP : Hid (∀ k, k < 40 → v.openB k = (!(tkOf v.t).getD k false && !v.heldB k)) := fun k hk => by
    unfold IV.openB
    congr 1
    rw [tkOf_at _ _ hk]
    unfold IV.usedB
    congr 1
    rw [Bool.eq_iff_iff, List.any_eq_true, decide_eq_true_eq]
    constructor
    · rintro ⟨e, he, h1⟩; rw [of_decide_eq_true h1] at he; exact he
    · intro hm; exact ⟨_, hm, decide_eq_true rfl⟩
  have hp40 : P ≤ 40 := by omega
  have hvl : v.t.length ≤ 32 := by omega
  rw [hP] at c2
  rw [HFL.out]
  have HN : Hid (v.t.length = v.t.length) := rfl
  generalize hnn : v.t.length = n at c4 HEB hvl
  have HNN : Hid (v.t.length = n) := hnn
  have HU0 : Hid (UsedAt w (tkOf (v.t.take 0)) (w.alloc (.cells (List.replicate 40 (Value.bool false)).toArray 202))) := by
    refine ⟨?_, (Below.refl _ _).alloc (Nat.le_refl _) _, tkOf_len _⟩
    rw [heap_alloc_new, List.take_zero, tkOf_nil, List.map_replicate]
  clear h hok hbo hlen fz c0 c1 c3 hnn HN c5 c4
  have c4 := HI.out.cells.2.2.2.2.1
  rw [HNN.out] at c4
  generalize v.freeTo = F at HFL HFS HF0 HFN ⊢
  go_enter Tryz.func87, Tryz.ntmps87
  go_wp2
  go_loopw [15] (fun i wr => ∃ k : Nat, k ≤ n ∧ i = .int .i64 k ∧ UsedAt w (tkOf (v.t.take k)) wr) (fun i _ => n - (intOf i).toNat)
  case atStart => exact ⟨0, Nat.zero_le _, rfl, HU0.out⟩
  case round =>
    obtain ⟨k, hk, rfl, hu⟩ := hrel
    by_cases hlt : k < n
    · have hi := HI.out.below hu.bel
      have hkl : k < v.t.length := by rw [HNN.out]; exact hlt
      obtain ⟨t0, t1, _⟩ := hi.entAt (c := k) hkl
      have hts := take_snoc hkl
      have heb := HEB.out k hlt
      have hszw := hu.size
      generalize (v.t.getD k (0, 0)).1 = y0 at t0 hts heb
      generalize (v.t.getD k (0, 0)).2 = y1 at t1 hts heb
      have HU := toHid hu
      have HTS := toHid hts
      have k0 : (0 : Int) ≤ (k : Int) := by omega
      have k1 : (k : Int) < (n : Int) := by omega
      have htl : x.tb < wr.heap.size := by omega
      clear hi hu hts
      by_cases h2 : y0 = 2
      · have hq : 0 ≤ y1 ∧ y1 < 40 := by
          rcases entB_of heb with h4 | h4
          · omega
          · omega
        obtain ⟨q, rfl⟩ : ∃ q : Nat, y1 = (q : Int) := ⟨y1.toNat, by omega⟩
        have HU2 : Hid (UsedAt w (tkOf (v.t.take (k + 1))) ((wr.alloc (.cells #[.int .i64 y0, .int .i64 (q : Int)] 142)).setCell ⟨w.heap.size, q, none⟩ (.bool true))) := by
          unfold Hid
          rw [HTS.out, h2, tkOf_data _ _ (by omega)]
          exact (HU.out.below ((Below.refl _ _).alloc HU.out.size _)).set q
        obtain ⟨u0, uf⟩ := HU.out.bit q (by omega)
        have u0' : (wr.alloc (.cells #[.int .i64 y0, .int .i64 (q : Int)] 142)).cell? ⟨w.heap.size, q, none⟩ = some (.bool ((tkOf (v.t.take k)).getD q false)) := by
          rw [World.cell?_alloc_past _ _ _ (by show w.heap.size < wr.heap.size; omega)]; exact u0
        have uf' : (wr.alloc (.cells #[.int .i64 y0, .int .i64 (q : Int)] 142)).frozen? ⟨w.heap.size, q, none⟩ = false := by
          rw [World.frozen?_alloc_past _ _ _ (by show w.heap.size < wr.heap.size; omega)]; exact uf
        have g2 : (y0 == 2) = true := by simpa using h2
        have q0 : (0 : Int) ≤ (q : Int) := by omega
        have q1 : (q : Int) < 40 := by omega
        generalize (tkOf (v.t.take k)).getD q false = bb at u0 u0'
        clear h2 heb hq
        go_wp2
        go_roundw
        case rel =>
          have fin : ∃ k1 : Nat, k1 ≤ n ∧ Value.int .i64 ((k : Int) + 1) = .int .i64 k1 ∧ UsedAt w (tkOf (v.t.take k1)) ((wr.alloc (.cells #[.int .i64 y0, .int .i64 (q : Int)] 142)).setCell ⟨w.heap.size, q, none⟩ (.bool true)) := ⟨k + 1, by omega, by go_num, HU2.out⟩
          first | exact fin | ((repeat apply Exists.intro); exact ⟨fin, rfl⟩)
        case measure => simp [intOf]; omega
      · have HU2 : Hid (UsedAt w (tkOf (v.t.take (k + 1))) (wr.alloc (.cells #[.int .i64 y0, .int .i64 y1] 142))) := by
          unfold Hid
          rw [HTS.out, tkOf_other _ _ _ h2]
          exact HU.out.below ((Below.refl _ _).alloc HU.out.size _)
        have g2 : (y0 == 2) = false := by simpa using h2
        clear h2 heb
        go_wp2
        go_roundw
        case rel =>
          have fin : ∃ k1 : Nat, k1 ≤ n ∧ Value.int .i64 ((k : Int) + 1) = .int .i64 k1 ∧ UsedAt w (tkOf (v.t.take k1)) (wr.alloc (.cells #[.int .i64 y0, .int .i64 y1] 142)) := ⟨k + 1, by omega, by go_num, HU2.out⟩
          first | exact fin | ((repeat apply Exists.intro); exact ⟨fin, rfl⟩)
        case measure => simp [intOf]; omega
    · have hkn : k = v.t.length := by rw [HNN.out]; omega
      rw [hkn, List.take_length] at hu
      have HU := toHid hu
      have hi := HI.out.below hu.bel
      have c2' := hi.cells.2.2.1
      rw [hP] at c2'
      clear hu hi hkn
      go_wp2
      go_loopw [6, 31] (fun u i wq => ∃ (k : Nat) (a : Option Addr) (cap : Nat), k ≤ P ∧ i = .int .i64 k ∧ u = .slice a (F k).length cap ∧ wq.ownsRow (w.heap.size + 1) 3 1 (.slice a (F k).length cap) (F k).length (natV (F k)) ∧ UsedAt w (tkOf v.t) wq) (fun _ i _ => P - (intOf i).toNat)
      case atStart => exact ⟨0, none, 0, Nat.zero_le _, rfl, by rw [HF0.out]; rfl, by rw [HF0.out]; exact World.ownsRow_nil _ _ _ _, HU.out⟩
      case round =>
        obtain ⟨j, a, cap, hj, rfl, rfl, ho, hu⟩ := hrel
        obtain ⟨wq, ewq⟩ : ∃ wq, wq = wr := ⟨wr, rfl⟩
        subst ewq
        by_cases hlt2 : j < P
        · have hi := HI.out.below hu.bel
          have c5 := hi.cells.2.2.2.2.2.1
          have hsz := hu.size
          have HM := toHid hi.map
          have hhas := has_held v.held j
          have hop := HOP.out j (by omega)
          have hst := HFS.out j
          have hfn := HFN.out j
          have HKEY := toHid (key_int j (by omega))
          obtain ⟨b0, bf⟩ := hu.bit j (by omega)
          have b0' : (wq.alloc (.cells #[] 201)).cell? ⟨w.heap.size, j, none⟩ = some (.bool ((tkOf v.t).getD j false)) := by
            rw [World.cell?_alloc_past _ _ _ (by show w.heap.size < wq.heap.size; omega)]; exact b0
          have j0 : (0 : Int) ≤ (j : Int) := by omega
          have j1 : (j : Int) < 40 := by omega
          have HO := toHid ho
          have HUU := toHid hu
          have hhb : v.heldB j = v.held.any fun x => decide (x = j) := rfl
          rw [← hhb] at hhas
          clear hi hu ho hhb b0 bf
          generalize (tkOf v.t).getD j false = ub at b0' hop
          generalize v.heldB j = hb at hhas hop
          generalize heldD v.held = D at HM hhas
          generalize v.held.length = nh at HM
          by_cases hopn : v.openB j = true
          · rw [hopn] at hop
            obtain ⟨hub, hhb⟩ := open_both hop
            rw [hub] at b0'
            rw [hhb] at hhas
            rw [hopn, if_pos rfl] at hst
            have HST := toHid hst
            have HO2 : Hid (((wq.alloc (.cells #[] 201)).alloc (.cells #[.int .i64 (j : Int)] 3)).ownsRow (w.heap.size + 1) 3 1 (.slice a (F j).length cap) (F j).length (natV (F j))) := (HO.out.alloc _).alloc _
            have HNW : Hid (∀ i y, ([.int .i64 (j : Int)] : List Value)[i]? = some y → ((wq.alloc (.cells #[] 201)).alloc (.cells #[.int .i64 (j : Int)] 3)).cell? ((⟨wq.heap.size + 1, 0, none⟩ : Addr).add i) = some y) := by
              have := cell_one_new (wq.alloc (.cells #[] 201)) (.int .i64 (j : Int)) 3
              rw [show (wq.alloc (.cells #[] 201)).heap.size = wq.heap.size + 1 by simp] at this; exact this
            have HSA : Hid (w.heap.size + 1 ≤ ((wq.alloc (.cells #[] 201)).alloc (.cells #[.int .i64 (j : Int)] 3)).heap.size) := by unfold Hid; simp; omega
            have HZZ : Hid (((wq.alloc (.cells #[] 201)).alloc (.cells #[.int .i64 (j : Int)] 3)).heap.size = wq.heap.size + 2) := by unfold Hid; simp
            have HBA : Hid (Below (w.heap.size + 1) wq ((wq.alloc (.cells #[] 201)).alloc (.cells #[.int .i64 (j : Int)] 3))) := ((Below.refl _ _).alloc HUU.out.size _).alloc (by have := HUU.out.size; simp; omega) _
            clear hst hop hopn hub hhb HFS HOP
            go_wp2_with (first
              | (at_lookup; refine wpList_lookup_own_unit _ rfl _ _ 150 rfl 3 201 law_int Tryz.underlying150 (zero_unit _) x.m nh D rfl HM.out _ _ rfl HKEY.out ?_)
              | (at_builtin; refine wpList_append_lies _ (by rfl) _ _ 31 (by rfl) (w.heap.size + 1) 3 i1 (.int .i64 0) 1 8 Tryz.underlying31 hi1 hx0 hx1 hx2 rfl (by decide) (.slice a (F j).length cap) (F j).length (natV (F j)) (by rfl) HO2.out ⟨wq.heap.size + 1, 0, none⟩ 1 1 [.int .i64 (j : Int)] (by rfl) (by rfl) HNW.out (fun u hu => by simp at hu; subst hu; rfl) (by decide) (by unfold maxLen; omega) (by omega) HSA.out (wq.heap.size + 2) HZZ.out ?_; intro g3 cap3 w3 hown hgrow hat hlt3))
            have HUF : Hid (UsedAt w (tkOf v.t) w3) := HUU.out.below (HBA.out.grown hgrow HSA.out (fun r e => (HO2.out.lt r e).1))
            have HOF : Hid (w3.ownsRow (w.heap.size + 1) 3 1 (.slice (some ⟨g3, 0, none⟩) (F (j + 1)).length cap3) (F (j + 1)).length (natV (F (j + 1)))) := by
              unfold Hid
              have e1 : (F (j + 1)).length = (F j).length + 1 := by rw [HST.out]; simp
              have e2 : natV (F (j + 1)) = natV (F j) ++ [.int .i64 (j : Int)] := by rw [HST.out]; simp [natV]
              rw [e1, e2]; exact hown
            have HEL : Hid ((F (j + 1)).length = (F j).length + 1) := by unfold Hid; rw [HST.out]; simp
            clear hown hgrow hat hlt3
            go_roundw
            case rel =>
              have fin : ∃ (k1 : Nat) (a1 : Option Addr) (cap1 : Nat), k1 ≤ P ∧ Value.int .i64 ((j : Int) + 1) = .int .i64 k1 ∧ Value.slice (some ⟨g3, 0, none⟩) ((F j).length + 1) cap3 = .slice a1 (F k1).length cap1 ∧ w3.ownsRow (w.heap.size + 1) 3 1 (.slice a1 (F k1).length cap1) (F k1).length (natV (F k1)) ∧ UsedAt w (tkOf v.t) w3 :=
                ⟨j + 1, some ⟨g3, 0, none⟩, cap3, by omega, by go_num, by rw [HEL.out], HOF.out, HUF.out⟩
              first | exact fin | ((repeat apply Exists.intro); exact ⟨fin, rfl⟩)
            case measure => simp [intOf]; omega
          · have hopf : v.openB j = false := by simpa using hopn
            rw [hopf] at hop
            rw [hopf, if_neg (by decide), List.append_nil] at hst
            have HST := toHid hst
            have HUF : Hid (UsedAt w (tkOf v.t) (wq.alloc (.cells #[] 201))) := HUU.out.below ((Below.refl _ _).alloc HUU.out.size _)
            have HOF : Hid ((wq.alloc (.cells #[] 201)).ownsRow (w.heap.size + 1) 3 1 (.slice a (F (j + 1)).length cap) (F (j + 1)).length (natV (F (j + 1)))) := by
              unfold Hid; rw [HST.out]; exact HO.out.alloc _
            clear hst hopn hopf HFS HOP
            cases hb with
            | true =>
              clear hop b0'
              go_wp2_with (first
                | (at_lookup; refine wpList_lookup_own_unit _ rfl _ _ 150 rfl 3 201 law_int Tryz.underlying150 (zero_unit _) x.m nh D rfl HM.out _ _ rfl HKEY.out ?_))
              go_roundw
              case rel =>
                have fin : ∃ (k1 : Nat) (a1 : Option Addr) (cap1 : Nat), k1 ≤ P ∧ Value.int .i64 ((j : Int) + 1) = .int .i64 k1 ∧ Value.slice a (F j).length cap = .slice a1 (F k1).length cap1 ∧ (wq.alloc (.cells #[] 201)).ownsRow (w.heap.size + 1) 3 1 (.slice a1 (F k1).length cap1) (F k1).length (natV (F k1)) ∧ UsedAt w (tkOf v.t) (wq.alloc (.cells #[] 201)) :=
                  ⟨j + 1, a, cap, by omega, by go_num, by rw [HST.out], HOF.out, HUF.out⟩
                first | exact fin | ((repeat apply Exists.intro); exact ⟨fin, rfl⟩)
              case measure => simp [intOf]; omega
            | false =>
              have hub : ub = true := open_not hop
              rw [hub] at b0'
              clear hop hub
              go_wp2_with (first
                | (at_lookup; refine wpList_lookup_own_unit _ rfl _ _ 150 rfl 3 201 law_int Tryz.underlying150 (zero_unit _) x.m nh D rfl HM.out _ _ rfl HKEY.out ?_))
              go_roundw
              case rel =>
                have fin : ∃ (k1 : Nat) (a1 : Option Addr) (cap1 : Nat), k1 ≤ P ∧ Value.int .i64 ((j : Int) + 1) = .int .i64 k1 ∧ Value.slice a (F j).length cap = .slice a1 (F k1).length cap1 ∧ (wq.alloc (.cells #[] 201)).ownsRow (w.heap.size + 1) 3 1 (.slice a1 (F k1).length cap1) (F k1).length (natV (F k1)) ∧ UsedAt w (tkOf v.t) (wq.alloc (.cells #[] 201)) :=
                  ⟨j + 1, a, cap, by omega, by go_num, by rw [HST.out], HOF.out, HUF.out⟩
                first | exact fin | ((repeat apply Exists.intro); exact ⟨fin, rfl⟩)
              case measure => simp [intOf]; omega
        · have hjp : j = P := by omega
          subst hjp
          have HO := toHid ho
          have HBL := toHid hu.bel
          clear ho hu
          go_wp2
          go_ret
          exact ⟨a, cap, rfl, ownsRow_base HO.out (Nat.le_succ _), HBL.out⟩
end Go.Proofs.YtjegaljdindfaabGreatDoor
