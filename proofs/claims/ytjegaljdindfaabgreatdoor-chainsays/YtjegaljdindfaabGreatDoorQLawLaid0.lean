/-
Files that came in: how a list of them lies in memory, how it is read, whether it is few and short (LightFiles); the shelf that they are.
A pair of files is set into two shelves; two shelves that have none.
-/
import Derived.Test.YtjegaljdindfaabGreatDoorQLawCluster
import Derived.ProofKit
import Derived.OpenShut
import Derived.Deep.Grids
namespace Go.Proofs.YtjegaljdindfaabGreatDoor
open Go.RowKit Go.ChangeShapes Go.WideShapes
attribute [local go_sem ↓] Go.wp_at_zero Go.wp_at_succ

structure FileV where
  there : Bool
  c : Int
  p : Int
  b : Int
  ia : Option Addr
  il : Nat
  ic : Nat
  is : List Int

def FileV.none_ : FileV := ⟨false, 0, 0, 0, none, 0, 0, []⟩
def FileV.cells (f : FileV) : List Value := [.bool f.there, .int .i64 f.c, .int .i64 f.p, .int .i64 f.b, .slice f.ia f.il f.ic]

structure FileOk (w : World) (f : FileV) : Prop where
  nums : Nums w f.ia f.is
  len : f.is.length = f.il
  il1 : f.il ≤ maxLen

def Files (w : World) (la : Option Addr) (len : Nat) (fs : List FileV) : Prop :=
  fs.length = len ∧ ∀ k, k < len → ∃ b off, la = some ⟨b, off, none⟩ ∧ w.rangeAt b (off + k * 5) (fs.getD k FileV.none_).cells ∧ FileOk w (fs.getD k FileV.none_)

theorem Files.below {w w' : World} {la : Option Addr} {len : Nat} {fs : List FileV} (h : Files w la len fs) (hb : Below w.heap.size w w') : Files w' la len fs := by
  refine ⟨h.1, fun k hk => ?_⟩
  obtain ⟨b, off, e, hr, ho⟩ := h.2 k hk
  exact ⟨b, off, e, rangeAt_below hr hb, ho.nums.below hb, ho.len, ho.il1⟩

def lightF (fs : List FileV) : Bool := decide (fs.length ≤ 5 ∧ ∀ k, k < fs.length → (fs.getD k FileV.none_).il ≤ 40)

set_option maxRecDepth 100000 in
set_option maxHeartbeats 400000 in
theorem lightFiles_any (la : Option Addr) (len cap : Nat) (fs : List FileV) (w : World) (hT : Files w la len fs) (hn : len ≤ maxLen) :
    Calls Tryz.prog 6 #[.slice la len cap] w fun e w' => e = .returned (.bool (lightF fs)) ∧ w' = w := by
  obtain ⟨hlen, hT⟩ := hT
  have hn' : len ≤ 9223372036854775807 := hn
  by_cases h5 : 5 < len
  · have HF : Hid (lightF fs = false) := by unfold Hid lightF; simp; omega
    have g5 : decide (5 < (len : Int)) = true := by simp; omega
    clear hT
    go_enter Tryz.func6, Tryz.ntmps6
    go_wp2
    go_ret
    exact ⟨ret_lb HF.out.symm, rfl⟩
  · have g5 : decide (5 < (len : Int)) = false := by simp; omega
    have HT : Hid (∀ k, k < len → ∃ b off, la = some ⟨b, off, none⟩ ∧ w.rangeAt b (off + k * 5) (fs.getD k FileV.none_).cells ∧ FileOk w (fs.getD k FileV.none_)) := hT
    have HL : Hid (fs.length = len) := hlen
    clear hT hlen
    go_enter Tryz.func6, Tryz.ntmps6
    go_wp2
    go_loop [3] (fun i => ∃ k : Nat, k ≤ len ∧ i = .int .i64 k ∧ ∀ j, j < k → (fs.getD j FileV.none_).il ≤ 40) (fun i => len - (intOf i).toNat)
    case atStart => exact ⟨0, Nat.zero_le _, rfl, fun j hj => by omega⟩
    case round =>
      obtain ⟨k, hk, rfl, hall⟩ := hrel
      by_cases hlt : k < len
      · obtain ⟨b, off, rfl, hr, hok⟩ := HT.out k hlt
        have c4 : w.cell? ⟨b, off + k * 5 + 4, none⟩ = some (.slice (fs.getD k FileV.none_).ia (fs.getD k FileV.none_).il (fs.getD k FileV.none_).ic) := hr 4 _ rfl
        have hk1 := hok.il1
        unfold maxLen at hk1
        have HA : Hid ((fs.getD k FileV.none_).il ≤ 40 → ∀ j, j < k + 1 → (fs.getD j FileV.none_).il ≤ 40) := by
          intro h1 j hj
          by_cases e : j = k
          · rw [e]; exact h1
          · exact hall j (by omega)
        have HF : Hid (40 < (fs.getD k FileV.none_).il → lightF fs = false) := by
          intro h
          unfold lightF
          simp only [decide_eq_false_iff_not]
          rintro ⟨_, q⟩
          have := q k (by rw [HL.out]; exact hlt)
          omega
        clear hall hr hok
        generalize fs.getD k FileV.none_ = x at c4 hk1 HA HF
        by_cases h4 : 40 < x.il
        · have g4 : decide (40 < (x.il : Int)) = true := by simp; omega
          go_wp2
          go_ret
          exact ⟨ret_lb (HF.out h4).symm, rfl⟩
        · have g4 : decide (40 < (x.il : Int)) = false := by simp; omega
          go_wp2
          go_round
          case rel => exact ⟨k + 1, by omega, by go_num, HA.out (by omega)⟩
          case measure => simp [intOf]; omega
      · have HF : Hid (lightF fs = true) := by
          unfold Hid lightF
          simp only [decide_eq_true_eq]
          exact ⟨by rw [HL.out]; omega, fun j hj => hall j (by have := HL.out; omega)⟩
        clear hall
        go_wp2
        go_ret
        exact ⟨ret_lb HF.out.symm, rfl⟩

/- What the files are. -/
def dev170 : DV := DV.made (List.replicate 170 noughts) 0
def fileStep (v : IV) (c : Nat) (b : Int) : IV := if b = 1 then v.clear c else if 1 < b then v.fill c (clusterS b) else v
def fileTo (v : IV) (is : List Int) : Nat → IV
  | 0 => v
  | c + 1 => fileStep (fileTo v is c) c (is.getD c 0)
def FileV.h (f : FileV) : HV := ⟨f.c, f.p, f.b⟩
def FileV.iv (f : FileV) : Option IV := if f.there = true ∧ crF dev170 f.h = 0 then some (fileTo (crV dev170 f.h) f.is f.is.length) else none
def filesS (fs : List FileV) : SV := fun i => if i < fs.length ∧ i < 5 then (fs.getD i FileV.none_).iv else none
def filesTo (fs : List FileV) (n : Nat) : SV := fun i => if i < n then filesS fs i else none

theorem dev170_fine : dev170.fine dev170.fl.length 0 := by
  refine ⟨DV.made_ok (by rw [List.length_replicate]; omega) (by rw [List.length_replicate]; omega) (fun s hs => ?_) (by decide), made_sn _ _, rfl, Nat.le_refl _⟩
  rw [List.eq_of_mem_replicate hs]; decide

theorem fileStep_ok {v : IV} {m : Nat} (h : v.ok m) (c : Nat) (b : Int) (hm : m + 10 ≤ 1000000000) : (fileStep v c b).ok (m + 10) := by
  unfold fileStep
  split
  · exact h.clear c hm
  · split
    · exact h.fill c _ hm
    · exact h.more (by omega)

theorem fileTo_ok {v : IV} {m : Nat} {is : List Int} (h : v.ok m) : ∀ c, c ≤ 40 → m + 500 ≤ 1000000000 → (fileTo v is c).ok (m + 10 * c) := by
  intro c
  induction c with
  | zero => intro _ _; exact h
  | succ c ih =>
    intro hc hm
    have := fileStep_ok (ih (by omega) hm) c (is.getD c 0) (by omega)
    rw [show m + 10 * (c + 1) = m + 10 * c + 10 by omega]
    exact this

theorem filesTo_all {fs : List FileV} {n : Nat} (hn : fs.length = n) : filesTo fs n = filesS fs := by
  funext i
  unfold filesTo
  split
  · rfl
  · next h => unfold filesS; rw [if_neg (by omega)]

theorem filesTo_skip {fs : List FileV} {k : Nat} (h : filesS fs k = none) : filesTo fs (k + 1) = filesTo fs k := by
  funext i
  unfold filesTo
  by_cases e : i = k
  · rw [e, if_pos (by omega), if_neg (by omega), h]
  · by_cases hi : i < k
    · rw [if_pos (by omega), if_pos hi]
    · rw [if_neg (by omega), if_neg hi]

theorem filesTo_set {fs : List FileV} {k : Nat} {v : IV} (h : filesS fs k = some v) : filesTo fs (k + 1) = (filesTo fs k).upd k v := by
  funext i
  unfold filesTo SV.upd
  by_cases e : i = k
  · rw [e, if_pos (by omega), if_pos rfl, h]
  · rw [if_neg e]
    show _ = if i < k then filesS fs i else none
    by_cases hi : i < k
    · rw [if_pos (by omega), if_pos hi]
    · rw [if_neg (by omega), if_neg hi]

theorem filesTo_at (fs : List FileV) (k : Nat) : filesTo fs k k = none := by unfold filesTo; rw [if_neg (by omega)]
theorem filesTo_zero (fs : List FileV) : filesTo fs 0 = fun _ => none := by funext i; unfold filesTo; rw [if_neg (by omega)]
theorem filesS_at {fs : List FileV} {k : Nat} (h : k < fs.length) (h5 : k < 5) : filesS fs k = (fs.getD k FileV.none_).iv := by unfold filesS; rw [if_pos ⟨h, h5⟩]
end Go.Proofs.YtjegaljdindfaabGreatDoor

namespace Go.Proofs.YtjegaljdindfaabGreatDoor
open Go.RowKit Go.Maps

theorem Lay.spNe {B : Nat} {w0 w : World} {sp mp m : Nat} {xs : Nat → Ih} {qs : Nat → Qh} {s : SV} (h : Lay B w0 w sp mp xs qs s m) : sp ≠ mp := fun e => by
  have h1 := h.prog.blk
  rw [e, h.ref.blk] at h1
  simp only [Option.some.injEq, Obj.cells.injEq] at h1
  exact absurd h1.2.1 (by decide)

theorem Lay.place {B : Nat} {w0 wN wr : World} {sp mp m m' k : Nat} {xs : Nat → Ih} {qs : Nat → Qh} {s : SV} {x : Ih} {q : Qh} {v : IV} (h : Lay B w0 wN sp mp xs qs s m) (hb : Below wN.heap.size wN wr) (hd : Duo wN.heap.size wr x q v v) (hk : k < 5) (hm : m ≤ m') (hok : v.ok m') :
    Lay B w0 ((wr.setCell ⟨sp, k, none⟩ (.pointer (some ⟨x.p, 0, none⟩))).setCell ⟨mp, k, none⟩ (.pointer (some ⟨q.p, 0, none⟩))) sp mp (updX xs k x) (updQ qs k q) (s.upd k v) m' := by
  have hr := h.below hb
  have hne : sp ≠ mp := hr.spNe
  have p1 : IsShelf (wr.setCell ⟨sp, k, none⟩ (.pointer (some ⟨x.p, 0, none⟩))) sp (updX xs k x) (s.upd k v) m' := hr.prog.place hk hm hd.img hok fun j hj hs => by
    have := h.prog.fpLt hs
    have := hd.bI j hj
    omega
  have hs1 : ¬ q.fp sp := hd.rim.notShelf hr.prog.blk (by decide)
  have hs2 : ¬ x.fp mp := hd.img.notShelf hr.ref.blk (by decide)
  have r1 : IsRshelf (wr.setCell ⟨sp, k, none⟩ (.pointer (some ⟨x.p, 0, none⟩))) mp qs s m := hr.ref.keep (heap_setCell_other _ _ _ _ (Ne.symm hne)) fun i hf => heap_setCell_other _ _ _ _ (fun e => hr.spNot.1 (by have e2 : i = sp := e; rw [← e2]; exact hf))
  have q1 : IsRim Gd.no (wr.setCell ⟨sp, k, none⟩ (.pointer (some ⟨x.p, 0, none⟩))) q v := hd.rim.keepAll fun i hf => heap_setCell_other _ _ _ _ (fun e => hs1 (by have e2 : i = sp := e; rw [← e2]; exact hf))
  have r2 := r1.place (x := q) hk hm q1 hok fun j hj hs => by
    have := h.ref.fpLt hs
    have := hd.bR j hj
    omega
  refine ⟨p1.keep (heap_setCell_other _ _ _ _ hne) fun i hf => heap_setCell_other _ _ _ _ (fun e => ?_), r2, fun i h1 h2 => ?_, fun i h1 => ?_, fun i h1 => ?_, h.bsp, (hr.bel.setCell (p := ⟨sp, k, none⟩) h.bsp.1 _).setCell (p := ⟨mp, k, none⟩) h.bsp.2 _, h.size⟩
  · have e2 : i = mp := e
    rcases IsShelf.fpUpd hf with h3 | h3
    · exact hr.spNot.2 (by rw [← e2]; exact h3)
    · exact hs2 (by rw [← e2]; exact h3)
  · rcases IsShelf.fpUpd h1 with h3 | h3
    · rcases IsRshelf.fpUpd h2 with h4 | h4
      · exact h.apart i h3 h4
      · have := h.prog.fpLt h3; have := hd.bR i h4; omega
    · rcases IsRshelf.fpUpd h2 with h4 | h4
      · have := h.ref.fpLt h4; have := hd.bI i h3; omega
      · exact hd.ne i h3 h4
  · rcases IsShelf.fpUpd h1 with h3 | h3
    · exact h.bS i h3
    · exact Nat.le_trans h.sizes (hd.bI i h3)
  · rcases IsRshelf.fpUpd h1 with h3 | h3
    · exact h.bQ i h3
    · exact Nat.le_trans h.sizes (hd.bR i h3)

theorem Lay.placeNil {B : Nat} {w0 wr : World} {sp mp m k : Nat} {xs : Nat → Ih} {qs : Nat → Qh} {s : SV} (h : Lay B w0 wr sp mp xs qs s m) (hk : k < 5) (hs : s k = none) :
    Lay B w0 ((wr.setCell ⟨sp, k, none⟩ (.pointer none)).setCell ⟨mp, k, none⟩ (.pointer none)) sp mp xs qs s m := by
  have hne : sp ≠ mp := h.spNe
  have p1 := h.prog.placeNil hk hs
  have r1 : IsRshelf (wr.setCell ⟨sp, k, none⟩ (.pointer none)) mp qs s m := h.ref.keep (heap_setCell_other _ _ _ _ (Ne.symm hne)) fun i hf => heap_setCell_other _ _ _ _ (fun e => h.spNot.1 (by have e2 : i = sp := e; rw [← e2]; exact hf))
  refine ⟨p1.keep (heap_setCell_other _ _ _ _ hne) fun i hf => heap_setCell_other _ _ _ _ (fun e => ?_), r1.placeNil hk hs, h.apart, h.bS, h.bQ, h.bsp, (h.bel.setCell (p := ⟨sp, k, none⟩) h.bsp.1 _).setCell (p := ⟨mp, k, none⟩) h.bsp.2 _, h.size⟩
  have e2 : i = mp := e
  exact h.spNot.2 (by rw [← e2]; exact hf)

def noX : Nat → Ih := fun _ => ⟨0, ⟨0, 0, 0, 0, 0, .pointer none⟩, 0, 0, 0⟩
def noQ : Nat → Qh := fun _ => ⟨0, ⟨0, 0, 0, .pointer none, .pointer none⟩, .pointer none, .pointer none⟩

theorem lay_new (w : World) (m : Nat) : Lay w.heap.size w ((w.alloc (.cells #[.pointer none, .pointer none, .pointer none, .pointer none, .pointer none] 68)).alloc (.cells #[.pointer none, .pointer none, .pointer none, .pointer none, .pointer none] 71)) w.heap.size (w.heap.size + 1) noX noQ (fun _ => none) m := by
  have hb1 : Below w.heap.size w (w.alloc (.cells #[.pointer none, .pointer none, .pointer none, .pointer none, .pointer none] 68)) := (Below.refl _ _).alloc (Nat.le_refl _) _
  refine ⟨⟨?_, (fun i v _ e => by cases e), (fun i v e => by cases e), (fun i j _ _ _ e => absurd rfl e)⟩, ⟨?_, (fun i v _ e => by cases e), (fun i v e => by cases e), (fun i j _ _ _ e => absurd rfl e)⟩, (fun k ⟨i, _, e, _⟩ => absurd rfl e), (fun k ⟨i, _, e, _⟩ => absurd rfl e), (fun k ⟨i, _, e, _⟩ => absurd rfl e), ⟨Nat.le_refl _, Nat.le_succ _⟩, hb1.alloc hb1.size _, Nat.le_refl _⟩
  · rw [Below.heap_alloc _ _ _ (by simp), heap_alloc_new]; rfl
  · have := heap_alloc_new (w.alloc (.cells #[.pointer none, .pointer none, .pointer none, .pointer none, .pointer none] 68)) (.cells #[.pointer none, .pointer none, .pointer none, .pointer none, .pointer none] 71)
    rw [show (w.alloc (.cells #[.pointer none, .pointer none, .pointer none, .pointer none, .pointer none] 68)).heap.size = w.heap.size + 1 by simp] at this
    exact this

theorem Lay.cellOk {B : Nat} {w0 w : World} {sp mp m k : Nat} {xs : Nat → Ih} {qs : Nat → Qh} {s : SV} (h : Lay B w0 w sp mp xs qs s m) (hk : k < 5) :
    (∃ u, w.cell? ⟨sp, k, none⟩ = some u) ∧ w.frozen? ⟨sp, k, none⟩ = false ∧ (∃ u, w.cell? ⟨mp, k, none⟩ = some u) ∧ w.frozen? ⟨mp, k, none⟩ = false ∧ sp ≠ mp :=
  ⟨⟨_, h.prog.cell hk⟩, frozen_of_row _ _ _ _ _ h.prog.blk, ⟨_, h.ref.cell hk⟩, frozen_of_row _ _ _ _ _ h.ref.blk, h.spNe⟩
end Go.Proofs.YtjegaljdindfaabGreatDoor
