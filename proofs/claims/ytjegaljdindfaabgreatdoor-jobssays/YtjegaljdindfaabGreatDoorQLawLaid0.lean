/-
Two shelves side by side, the program's and the document's; a pair of images that is being made beside them; a file that is set into a shelf.
Cluster: 64 bytes of a number.
Files that came in: how a list of them lies in memory, how it is read, whether it is few and short (LightFiles); the shelf that they are.
A pair of files is set into two shelves; two shelves that have none.
-/
import Derived.Test.YtjegaljdindfaabGreatDoorQRchShelf
import Derived.Test.YtjegaljdindfaabGreatDoorQAsImage
import Derived.ProofKit
import Derived.OpenShut
import Derived.Deep.Grids
namespace Go.Proofs.YtjegaljdindfaabGreatDoor
open Go.RowKit Go.Maps

structure Lay (B : Nat) (w0 w : World) (sp mp : Nat) (xs : Nat → Ih) (qs : Nat → Qh) (s : SV) (m : Nat) : Prop where
  prog : IsShelf w sp xs s m
  ref : IsRshelf w mp qs s m
  apart : ∀ k, fpS xs s k → ¬ fpQ qs s k
  bS : ∀ k, fpS xs s k → B ≤ k
  bQ : ∀ k, fpQ qs s k → B ≤ k
  bsp : B ≤ sp ∧ B ≤ mp
  bel : Below B w0 w
  size : B ≤ w0.heap.size

theorem Lay.below {B : Nat} {w0 w w' : World} {sp mp m : Nat} {xs : Nat → Ih} {qs : Nat → Qh} {s : SV} (h : Lay B w0 w sp mp xs qs s m) (hb : Below w.heap.size w w') : Lay B w0 w' sp mp xs qs s m :=
  ⟨h.prog.below hb, h.ref.below hb, h.apart, h.bS, h.bQ, h.bsp, h.bel.trans (hb.mono (Nat.le_trans h.size h.bel.size)), h.size⟩

theorem Lay.more {B : Nat} {w0 w : World} {sp mp m m' : Nat} {xs : Nat → Ih} {qs : Nat → Qh} {s : SV} (h : Lay B w0 w sp mp xs qs s m) (hm : m ≤ m') : Lay B w0 w sp mp xs qs s m' :=
  ⟨h.prog.more hm, h.ref.more hm, h.apart, h.bS, h.bQ, h.bsp, h.bel, h.size⟩

theorem Lay.sizes {B : Nat} {w0 w : World} {sp mp m : Nat} {xs : Nat → Ih} {qs : Nat → Qh} {s : SV} (h : Lay B w0 w sp mp xs qs s m) : B ≤ w.heap.size := Nat.le_trans h.size h.bel.size

/- The document's shelf in between: the program's has acted, the document's has not. -/
structure LayMid (B : Nat) (w0 w : World) (sp mp : Nat) (xs : Nat → Ih) (qs : Nat → Qh) (z s : SV) (m' m : Nat) : Prop where
  prog : IsShelf w sp xs z m'
  ref : IsRshelf w mp qs s m
  apart : ∀ k, fpS xs z k → ¬ fpQ qs s k
  bS : ∀ k, fpS xs z k → B ≤ k
  bQ : ∀ k, fpQ qs s k → B ≤ k
  bsp : B ≤ sp ∧ B ≤ mp
  bel : Below B w0 w
  size : B ≤ w0.heap.size

theorem Lay.spNot {B : Nat} {w0 w : World} {sp mp m : Nat} {xs : Nat → Ih} {qs : Nat → Qh} {s : SV} (h : Lay B w0 w sp mp xs qs s m) : ¬ fpQ qs s sp ∧ ¬ fpS xs s mp := ⟨h.ref.notFp h.prog.blk (by decide), h.prog.notFp h.ref.blk (by decide)⟩

theorem Lay.prog_acts {B : Nat} {w0 w w1 : World} {sp mp m m' : Nat} {xs xs' : Nat → Ih} {qs : Nat → Qh} {s z : SV} (h : Lay B w0 w sp mp xs qs s m) (h1 : IsShelf w1 sp xs' z m') (hm : Moved (fpS xs s) w (fpS xs' z) w1) : LayMid B w0 w1 sp mp xs' qs z s m' m :=
  ⟨h1, h.ref.beside hm h.spNot.2 (fun k hk hs => h.apart k hs hk), fun k hk hq => by
    rcases hm.new k hk with h2 | h2
    · exact h.apart k h2 hq
    · have := h.ref.fpLt hq; omega, fun k hk => by
    rcases hm.new k hk with h2 | h2
    · exact h.bS k h2
    · exact Nat.le_trans h.sizes h2, h.bQ, h.bsp, h.bel.trans (hm.below h.sizes h.bS), h.size⟩

theorem LayMid.below {B : Nat} {w0 w w' : World} {sp mp m' m : Nat} {xs : Nat → Ih} {qs : Nat → Qh} {z s : SV} (h : LayMid B w0 w sp mp xs qs z s m' m) (hb : Below w.heap.size w w') : LayMid B w0 w' sp mp xs qs z s m' m :=
  ⟨h.prog.below hb, h.ref.below hb, h.apart, h.bS, h.bQ, h.bsp, h.bel.trans (hb.mono (Nat.le_trans h.size h.bel.size)), h.size⟩

theorem LayMid.ref_acts {B : Nat} {w0 w w1 : World} {sp mp m m' : Nat} {xs : Nat → Ih} {qs qs' : Nat → Qh} {z s : SV} (h : LayMid B w0 w sp mp xs qs z s m' m) (h1 : IsRshelf w1 mp qs' z m') (hm : Moved (fpQ qs s) w (fpQ qs' z) w1) : Lay B w0 w1 sp mp xs qs' z m' :=
  ⟨h.prog.beside hm (h.ref.notFp h.prog.blk (by decide)) (fun k hk hs => h.apart k hk hs), h1, fun k hk hq => by
    rcases hm.new k hq with h2 | h2
    · exact h.apart k hk h2
    · have := h.prog.fpLt hk; omega, h.bS, fun k hk => by
    rcases hm.new k hk with h2 | h2
    · exact h.bQ k h2
    · exact Nat.le_trans (Nat.le_trans h.size h.bel.size) h2, h.bsp, h.bel.trans (hm.below (Nat.le_trans h.size h.bel.size) h.bQ), h.size⟩

/- A pair of images, all of whose blocks are from N on. -/
structure Duo (N : Nat) (w : World) (x : Ih) (q : Qh) (v u : IV) : Prop where
  img : IsImg Gd.no w x v
  rim : IsRim Gd.no w q u
  ne : ∀ k, x.fp k → ¬ q.fp k
  bI : ∀ k, x.fp k → N ≤ k
  bR : ∀ k, q.fp k → N ≤ k
  size : N ≤ w.heap.size

theorem Duo.below {N : Nat} {w w' : World} {x : Ih} {q : Qh} {v u : IV} (h : Duo N w x q v u) (hb : Below w.heap.size w w') : Duo N w' x q v u :=
  ⟨h.img.below hb, h.rim.below hb, h.ne, h.bI, h.bR, Nat.le_trans h.size hb.size⟩

theorem Duo.prog {N : Nat} {w w1 : World} {x : Ih} {q : Qh} {v u V : IV} {f : Int} {e : Ending} (h : Duo N w x q v u) (hd : Did (Gd.but w x.fp) w x V f e w1) :
    ∃ x' : Ih, e = .returned (erV f) ∧ x'.p = x.p ∧ Duo N w1 x' q V u ∧ Below N w w1 := by
  obtain ⟨x', h1, h2, _, h4, h5⟩ := hd.exact
  refine ⟨x', h1, h2, ⟨h4, h.rim.keepAll fun k hk => h5.block (h.rim.fpLt k hk) (fun hx => h.ne k hx hk), fun k hk hq => ?_, fun k hk => ?_, h.bR, Nat.le_trans h.size h5.size⟩, h5.below h.size h.bI⟩
  · rcases h5.new k hk with h6 | h6
    · exact h.ne k h6 hq
    · have := h.rim.fpLt k hq; omega
  · rcases h5.new k hk with h6 | h6
    · exact h.bI k h6
    · exact Nat.le_trans h.size h6

theorem Duo.ref {N : Nat} {w w1 : World} {x : Ih} {q : Qh} {v u U : IV} {f : Int} {e : Ending} (h : Duo N w x q v u) (hd : DidR (Gd.but w q.fp) w q U f e w1) :
    ∃ q' : Qh, e = .returned (.int .i64 f) ∧ q'.p = q.p ∧ Duo N w1 x q' v U ∧ Below N w w1 := by
  obtain ⟨q', h1, h2, _, h4, h5⟩ := hd.exact
  refine ⟨q', h1, h2, ⟨h.img.keepAll fun k hk => h5.block (h.img.fpLt k hk) (fun hx => h.ne k hk hx), h4, fun k hk hq => ?_, h.bI, fun k hk => ?_, Nat.le_trans h.size h5.size⟩, h5.below h.size h.bR⟩
  · rcases h5.new k hq with h6 | h6
    · exact h.ne k hk h6
    · have := h.img.fpLt k hk; omega
  · rcases h5.new k hk with h6 | h6
    · exact h.bR k h6
    · exact Nat.le_trans h.size h6

/- A file is set into a place of the shelf that has none. -/
theorem cells5_set {a0 a1 a2 a3 a4 u : Value} {k : Nat} (hk : k < 5) (f : Nat → Value) (h : ∀ j, j < 5 → f j = if j = k then u else (#[a0, a1, a2, a3, a4] : Array Value).getD j u) :
    (#[a0, a1, a2, a3, a4] : Array Value).setIfInBounds k u = #[f 0, f 1, f 2, f 3, f 4] := by
  have h0 := h 0 (by omega)
  have h1 := h 1 (by omega)
  have h2 := h 2 (by omega)
  have h3 := h 3 (by omega)
  have h4 := h 4 (by omega)
  match k, hk with
  | 0, _ => simp at h0 h1 h2 h3 h4; simp [h0, h1, h2, h3, h4]
  | 1, _ => simp at h0 h1 h2 h3 h4; simp [h0, h1, h2, h3, h4]
  | 2, _ => simp at h0 h1 h2 h3 h4; simp [h0, h1, h2, h3, h4]
  | 3, _ => simp at h0 h1 h2 h3 h4; simp [h0, h1, h2, h3, h4]
  | 4, _ => simp at h0 h1 h2 h3 h4; simp [h0, h1, h2, h3, h4]

theorem IsShelf.place {w : World} {sp m m' k : Nat} {xs : Nat → Ih} {s : SV} {x : Ih} {v : IV} (h : IsShelf w sp xs s m) (hk : k < 5) (hm : m ≤ m') (hi : IsImg Gd.no w x v) (hok : v.ok m') (ha : ∀ j, x.fp j → ¬ fpS xs s j) :
    IsShelf (w.setCell ⟨sp, k, none⟩ (.pointer (some ⟨x.p, 0, none⟩))) sp (updX xs k x) (s.upd k v) m' := by
  have hsx : ¬ x.fp sp := hi.notShelf h.blk (by decide)
  refine ⟨?_, ?_, h.ok.upd hm hok, ?_⟩
  · rw [heap_setCell_same w sp _ _ _ _ h.blk, cells5_set hk (fun j => ptrO (updX xs k x j) (s.upd k v j)) (fun j hj => ?_)]
    unfold updX SV.upd
    by_cases e : j = k
    · rw [if_pos e, if_pos e, if_pos e]; rfl
    · rw [if_neg e, if_neg e, if_neg e]
      match j, hj with
      | 0, _ => rfl
      | 1, _ => rfl
      | 2, _ => rfl
      | 3, _ => rfl
      | 4, _ => rfl
  · intro j u hj hu
    unfold SV.upd at hu
    unfold updX
    by_cases e : j = k
    · rw [if_pos e] at hu ⊢
      cases hu
      exact hi.keepAll fun i hf => heap_setCell_other _ _ _ _ (fun e2 => hsx (by have e3 : i = sp := e2; rw [← e3]; exact hf))
    · rw [if_neg e] at hu ⊢
      refine (h.img j u hj hu).keepAll fun i hf => heap_setCell_other _ _ _ _ (fun e2 => h.notSp ?_)
      have e3 : i = sp := e2
      rw [← e3]
      exact ⟨j, hj, (by rw [hu]; intro e4; cases e4), hf⟩
  · intro a b ha5 hb5 hab hsa hsb i hf
    unfold SV.upd at hsa hsb
    unfold updX at hf ⊢
    by_cases ea : a = k
    · have eb : b ≠ k := fun e => hab (by rw [ea, e])
      rw [if_pos ea] at hf
      rw [if_neg eb] at hsb ⊢
      exact fun hf2 => ha i hf ⟨b, hb5, hsb, hf2⟩
    · rw [if_neg ea] at hf hsa
      by_cases eb : b = k
      · rw [if_pos eb]; exact fun hf2 => ha i hf2 ⟨a, ha5, hsa, hf⟩
      · rw [if_neg eb] at hsb ⊢; exact h.apart a b ha5 hb5 hab hsa hsb i hf

theorem IsShelf.placeNil {w : World} {sp m k : Nat} {xs : Nat → Ih} {s : SV} (h : IsShelf w sp xs s m) (hk : k < 5) (hs : s k = none) : IsShelf (w.setCell ⟨sp, k, none⟩ (.pointer none)) sp xs s m := by
  have hsame : (w.setCell ⟨sp, k, none⟩ (.pointer none)).heap[sp]? = w.heap[sp]? := by
    rw [heap_setCell_same w sp _ _ _ _ h.blk, h.blk, cells5_set hk (fun j => ptrO (xs j) (s j)) (fun j hj => ?_)]
    by_cases e : j = k
    · rw [if_pos e, e, hs]; rfl
    · rw [if_neg e]
      match j, hj with
      | 0, _ => rfl
      | 1, _ => rfl
      | 2, _ => rfl
      | 3, _ => rfl
      | 4, _ => rfl
  refine h.keep hsame fun i hf => heap_setCell_other _ _ _ _ (fun e2 => h.notSp ?_)
  have e3 : i = sp := e2
  rw [← e3]; exact hf

theorem IsShelf.fpUpd {xs : Nat → Ih} {s : SV} {k : Nat} {x : Ih} {v : IV} {i : Nat} (h : fpS (updX xs k x) (s.upd k v) i) : fpS xs s i ∨ x.fp i := by
  obtain ⟨j, hj, hs, hf⟩ := h
  unfold SV.upd at hs
  unfold updX at hf
  by_cases e : j = k
  · rw [if_pos e] at hf; exact .inr hf
  · rw [if_neg e] at hs hf; exact .inl ⟨j, hj, hs, hf⟩

theorem IsRshelf.place {w : World} {sp m m' k : Nat} {xs : Nat → Qh} {s : SV} {x : Qh} {v : IV} (h : IsRshelf w sp xs s m) (hk : k < 5) (hm : m ≤ m') (hi : IsRim Gd.no w x v) (hok : v.ok m') (ha : ∀ j, x.fp j → ¬ fpQ xs s j) :
    IsRshelf (w.setCell ⟨sp, k, none⟩ (.pointer (some ⟨x.p, 0, none⟩))) sp (updQ xs k x) (s.upd k v) m' := by
  have hsx : ¬ x.fp sp := hi.notShelf h.blk (by decide)
  refine ⟨?_, ?_, h.ok.upd hm hok, ?_⟩
  · rw [heap_setCell_same w sp _ _ _ _ h.blk, cells5_set hk (fun j => ptrQ (updQ xs k x j) (s.upd k v j)) (fun j hj => ?_)]
    unfold updQ SV.upd
    by_cases e : j = k
    · rw [if_pos e, if_pos e, if_pos e]; rfl
    · rw [if_neg e, if_neg e, if_neg e]
      match j, hj with
      | 0, _ => rfl
      | 1, _ => rfl
      | 2, _ => rfl
      | 3, _ => rfl
      | 4, _ => rfl
  · intro j u hj hu
    unfold SV.upd at hu
    unfold updQ
    by_cases e : j = k
    · rw [if_pos e] at hu ⊢
      cases hu
      exact hi.keepAll fun i hf => heap_setCell_other _ _ _ _ (fun e2 => hsx (by have e3 : i = sp := e2; rw [← e3]; exact hf))
    · rw [if_neg e] at hu ⊢
      refine (h.img j u hj hu).keepAll fun i hf => heap_setCell_other _ _ _ _ (fun e2 => h.notSp ?_)
      have e3 : i = sp := e2
      rw [← e3]
      exact ⟨j, hj, (by rw [hu]; intro e4; cases e4), hf⟩
  · intro a b ha5 hb5 hab hsa hsb i hf
    unfold SV.upd at hsa hsb
    unfold updQ at hf ⊢
    by_cases ea : a = k
    · have eb : b ≠ k := fun e => hab (by rw [ea, e])
      rw [if_pos ea] at hf
      rw [if_neg eb] at hsb ⊢
      exact fun hf2 => ha i hf ⟨b, hb5, hsb, hf2⟩
    · rw [if_neg ea] at hf hsa
      by_cases eb : b = k
      · rw [if_pos eb]; exact fun hf2 => ha i hf2 ⟨a, ha5, hsa, hf⟩
      · rw [if_neg eb] at hsb ⊢; exact h.apart a b ha5 hb5 hab hsa hsb i hf

theorem IsRshelf.placeNil {w : World} {sp m k : Nat} {xs : Nat → Qh} {s : SV} (h : IsRshelf w sp xs s m) (hk : k < 5) (hs : s k = none) : IsRshelf (w.setCell ⟨sp, k, none⟩ (.pointer none)) sp xs s m := by
  have hsame : (w.setCell ⟨sp, k, none⟩ (.pointer none)).heap[sp]? = w.heap[sp]? := by
    rw [heap_setCell_same w sp _ _ _ _ h.blk, h.blk, cells5_set hk (fun j => ptrQ (xs j) (s j)) (fun j hj => ?_)]
    by_cases e : j = k
    · rw [if_pos e, e, hs]; rfl
    · rw [if_neg e]
      match j, hj with
      | 0, _ => rfl
      | 1, _ => rfl
      | 2, _ => rfl
      | 3, _ => rfl
      | 4, _ => rfl
  refine h.keep hsame fun i hf => heap_setCell_other _ _ _ _ (fun e2 => h.notSp ?_)
  have e3 : i = sp := e2
  rw [← e3]; exact hf

theorem IsRshelf.fpUpd {xs : Nat → Qh} {s : SV} {k : Nat} {x : Qh} {v : IV} {i : Nat} (h : fpQ (updQ xs k x) (s.upd k v) i) : fpQ xs s i ∨ x.fp i := by
  obtain ⟨j, hj, hs, hf⟩ := h
  unfold SV.upd at hs
  unfold updQ at hf
  by_cases e : j = k
  · rw [if_pos e] at hf; exact .inr hf
  · rw [if_neg e] at hs hf; exact .inl ⟨j, hj, hs, hf⟩
end Go.Proofs.YtjegaljdindfaabGreatDoor

namespace Go.Proofs.YtjegaljdindfaabGreatDoor
open Go.RowKit Go.Maps
attribute [local go_sem ↓] Go.wp_at_zero Go.wp_at_succ

def clByte (b : Int) (k : Nat) : UInt8 := UInt8.ofNat (wrap64 (bits BinOp.and IntKind.i64 b 127 + (k : Int) / 16) % 256).toNat
theorem clByte_is (b : Int) (k : Nat) : ((clByte b k).toNat : Int) = wrap64 (bits BinOp.and IntKind.i64 b 127 + (k : Int) / 16) % 256 := by
  unfold clByte
  have h1 : 0 ≤ wrap64 (bits BinOp.and IntKind.i64 b 127 + (k : Int) / 16) % 256 := Int.emod_nonneg _ (by decide)
  have h2 : wrap64 (bits BinOp.and IntKind.i64 b 127 + (k : Int) / 16) % 256 < 256 := Int.emod_lt_of_pos _ (by decide)
  generalize wrap64 (bits BinOp.and IntKind.i64 b 127 + (k : Int) / 16) % 256 = x at h1 h2
  rw [UInt8.toNat_ofNat_of_lt' (by show x.toNat < 256; omega)]
  omega

def clTo (b : Int) (n : Nat) : List UInt8 := (List.range 64).map fun i => if i < n then clByte b i else 0
def clusterS (b : Int) : ByteArray := bytesOf (clTo b 64)
theorem clTo_len (b : Int) (n : Nat) : (clTo b n).length = 64 := by unfold clTo; simp
theorem clusterS_size (b : Int) : (clusterS b).size = 64 := by
  show (clTo b 64).toArray.size = 64
  have := clTo_len b 64
  simpa using this
theorem clTo_zero (b : Int) : clTo b 0 = List.replicate 64 0 := by
  unfold clTo
  simp
  rfl
theorem clTo_succ (b : Int) (n : Nat) : clTo b (n + 1) = (clTo b n).set n (clByte b n) := by
  apply List.ext_getElem
  · simp [clTo]
  · intro i h1 h2
    have hi : i < 64 := by rw [clTo_len] at h1; exact h1
    rw [List.getElem_set]
    simp only [clTo, List.getElem_map, List.getElem_range]
    by_cases e : n = i
    · rw [if_pos e, if_pos (by omega), e]
    · rw [if_neg e]
      by_cases hx : i < n
      · rw [if_pos (by omega), if_pos hx]
      · rw [if_neg (by omega), if_neg hx]

theorem secV_set (l : List UInt8) (k : Nat) (x : UInt8) : secV (l.set k x) = (secV l).set k (.int .u8 (x.toNat : Int)) := by
  unfold secV; rw [List.map_set]

theorem ownsRow_set1 {w : World} {B e g n cap : Nat} {xs : List Value} (ho : w.ownsRow B e 1 (.slice (some ⟨g, 0, none⟩) n cap) n xs) (k : Nat) (u : Value) : (w.setCell ⟨g, k, none⟩ u).ownsRow B e 1 (.slice (some ⟨g, 0, none⟩) n cap) n (xs.set k u) := by
  obtain ⟨hbB, cur, hh, hc1, hc2, hc3, hc4⟩ := ownsRow_block ho
  refine ⟨by rw [List.length_set]; exact ho.1, .inr ⟨g, cap, cur.setIfInBounds k u, rfl, hbB, ?_, hc1, hc2, by simpa using hc3, ?_⟩⟩
  · rw [heap_setCell_same w g _ _ _ _ hh]
  · rw [← hc4]
    simp only [Array.toList_setIfInBounds, List.take_set]

set_option maxRecDepth 100000 in
set_option maxHeartbeats 2000000 in
theorem cluster_any (b : Int) (w : World) :
    Calls Tryz.prog 24 #[.int .i64 b] w fun e w' => e = .returned (.string (clusterS b)) ∧ Below w.heap.size w w' := by
  obtain ⟨i0, hi0, hz0, hz1, hz2⟩ := info_parts info_byte
  obtain ⟨w1, hmk, hown, hgr⟩ := run_make_full (P := Tryz.prog) w w.heap.size 132 5 i0 (.int .u8 0) 1 Tryz.underlying132 hi0 hz0 hz1 .i64 .i64 64 (by rw [hz2]; omega) (by unfold maxLen; omega) (Nat.le_refl _)
  have hmk' : (Instr.makeSlice 132 (.int .i64 64) (.int .i64 64)).run Tryz.prog w = .ok (.slice (some ⟨w.heap.size, 0, none⟩) 64 64) w1 := hmk
  clear hmk
  have hb : Below w.heap.size w w1 := (Below.refl _ _).grown hgr (Nat.le_refl _) (fun k e => by cases e)
  have e0 : (madeCells (Value.int .u8 0).cells (64 * 1)).toList = secV (clTo b 0) := by
    rw [clTo_zero]
    show (madeCells #[Value.int .u8 0] 64).toList = _
    rw [toList_madeCells_one]; simp [secV]
  rw [e0] at hown
  have HB := toHid hb
  have HOW := toHid hown
  have HCS : Hid (∀ k, k < 64 → secV (clTo b (k + 1)) = (secV (clTo b k)).set k (.int .u8 (wrap64 (bits BinOp.and IntKind.i64 b 127 + (k : Int) / 16) % 256))) := fun k _ => by rw [clTo_succ b k, secV_set, clByte_is]
  have HLE : Hid (∀ k, (secV (clTo b k)).length = 64) := fun k => by rw [secV_len]; exact clTo_len b k
  have HCL : Hid (clusterS b = bytesOf (clTo b 64)) := rfl
  have HC6 : Hid ((clTo b 64).length = 64) := clTo_len b 64
  generalize clusterS b = R at HCL ⊢
  generalize clTo b = CT at HOW HCS HLE HCL HC6
  clear hgr hi0 hz0 hz1 hz2 hb hown e0
  go_enter Tryz.func24, Tryz.ntmps24
  go_wp2
  go_loopw [4] (fun i wr => ∃ k : Nat, k ≤ 64 ∧ i = .int .i64 (k : Int) ∧ Below w.heap.size w wr ∧ wr.ownsRow w.heap.size 5 1 (.slice (some ⟨w.heap.size, 0, none⟩) 64 64) 64 (secV (CT k))) (fun i _ => 64 - (intOf i).toNat)
  case atStart => exact ⟨0, Nat.zero_le _, rfl, HB.out, HOW.out⟩
  case round =>
    obtain ⟨k, hk, rfl, hbel, hown⟩ := hrel
    by_cases hlt : k < 64
    · have k0 : (0 : Int) ≤ (k : Int) := by omega
      have k1 : (k : Int) < 64 := by omega
      have k2 : ((k : Int)).toNat = k := by omega
      obtain ⟨u, hu⟩ : ∃ u, (secV (CT k))[k]? = some u := ⟨_, List.getElem?_eq_getElem (by rw [HLE.out]; exact hlt)⟩
      have hc := (hown.cellAt k (by omega)).trans hu
      have hz := hown.frozenAt k
      have hset := ownsRow_set1 hown k (.int .u8 (wrap64 (bits BinOp.and IntKind.i64 b 127 + (k : Int) / 16) % 256))
      rw [← HCS.out k hlt] at hset
      have HN : Hid (Below w.heap.size w (wr.setCell ⟨w.heap.size, k, none⟩ (.int .u8 (wrap64 (bits BinOp.and IntKind.i64 b 127 + (k : Int) / 16) % 256))) ∧ (wr.setCell ⟨w.heap.size, k, none⟩ (.int .u8 (wrap64 (bits BinOp.and IntKind.i64 b 127 + (k : Int) / 16) % 256))).ownsRow w.heap.size 5 1 (.slice (some ⟨w.heap.size, 0, none⟩) 64 64) 64 (secV (CT (k + 1)))) := ⟨hbel.setCell (p := ⟨w.heap.size, k, none⟩) (Nat.le_refl _) _, hset⟩
      clear hbel hown hset hu
      go_wp2
      go_roundw
      case rel =>
        have fin : ∃ k1 : Nat, k1 ≤ 64 ∧ Value.int .i64 ((k : Int) + 1) = .int .i64 (k1 : Int) ∧ Below w.heap.size w (wr.setCell ⟨w.heap.size, k, none⟩ (.int .u8 (wrap64 (bits BinOp.and IntKind.i64 b 127 + (k : Int) / 16) % 256))) ∧ (wr.setCell ⟨w.heap.size, k, none⟩ (.int .u8 (wrap64 (bits BinOp.and IntKind.i64 b 127 + (k : Int) / 16) % 256))).ownsRow w.heap.size 5 1 (.slice (some ⟨w.heap.size, 0, none⟩) 64 64) 64 (secV (CT k1)) := ⟨k + 1, by omega, by go_num, HN.out.1, HN.out.2⟩
        first | exact fin | ((repeat apply Exists.intro); exact ⟨fin, rfl⟩)
      case measure => simp [intOf]; omega
    · have hke : k = 64 := by omega
      subst hke
      have hr : wr.rangeAt w.heap.size 0 (secV (CT 64)) := fun j v hv => by
        have hj : j < 64 := by
          rcases Nat.lt_or_ge j 64 with q | q
          · exact q
          · rw [List.getElem?_eq_none (by rw [HLE.out]; exact q)] at hv; cases hv
        rw [Nat.zero_add, hown.cellAt j (by omega)]; exact hv
      have hcv := conv_sec 64 64 HC6.out hr
      rw [← HCL.out] at hcv
      have HBB := toHid hbel
      clear hbel hown hr
      go_wp2
      go_ret
      exact ⟨rfl, HBB.out⟩
end Go.Proofs.YtjegaljdindfaabGreatDoor

namespace Go.Proofs.YtjegaljdindfaabGreatDoor
open Go.RowKit Go.ChangeShapes Go.WideShapes
attribute [local go_sem ↓] Go.wp_at_zero Go.wp_at_succ

structure FileV where
  there : Bool
  c : Int
  p : Int
  b : Int
  ia : Option Addr
  il : Nat
  ic : Nat
  is : List Int

def FileV.none_ : FileV := ⟨false, 0, 0, 0, none, 0, 0, []⟩
def FileV.cells (f : FileV) : List Value := [.bool f.there, .int .i64 f.c, .int .i64 f.p, .int .i64 f.b, .slice f.ia f.il f.ic]

structure FileOk (w : World) (f : FileV) : Prop where
  nums : Nums w f.ia f.is
  len : f.is.length = f.il
  il1 : f.il ≤ maxLen

def Files (w : World) (la : Option Addr) (len : Nat) (fs : List FileV) : Prop :=
  fs.length = len ∧ ∀ k, k < len → ∃ b off, la = some ⟨b, off, none⟩ ∧ w.rangeAt b (off + k * 5) (fs.getD k FileV.none_).cells ∧ FileOk w (fs.getD k FileV.none_)

theorem Files.below {w w' : World} {la : Option Addr} {len : Nat} {fs : List FileV} (h : Files w la len fs) (hb : Below w.heap.size w w') : Files w' la len fs := by
  refine ⟨h.1, fun k hk => ?_⟩
  obtain ⟨b, off, e, hr, ho⟩ := h.2 k hk
  exact ⟨b, off, e, rangeAt_below hr hb, ho.nums.below hb, ho.len, ho.il1⟩

def lightF (fs : List FileV) : Bool := decide (fs.length ≤ 5 ∧ ∀ k, k < fs.length → (fs.getD k FileV.none_).il ≤ 40)

set_option maxRecDepth 100000 in
set_option maxHeartbeats 400000 in
theorem lightFiles_any (la : Option Addr) (len cap : Nat) (fs : List FileV) (w : World) (hT : Files w la len fs) (hn : len ≤ maxLen) :
    Calls Tryz.prog 6 #[.slice la len cap] w fun e w' => e = .returned (.bool (lightF fs)) ∧ w' = w := by
  obtain ⟨hlen, hT⟩ := hT
  have hn' : len ≤ 9223372036854775807 := hn
  by_cases h5 : 5 < len
  · have HF : Hid (lightF fs = false) := by unfold Hid lightF; simp; omega
    have g5 : decide (5 < (len : Int)) = true := by simp; omega
    clear hT
    go_enter Tryz.func6, Tryz.ntmps6
    go_wp2
    go_ret
    exact ⟨ret_lb HF.out.symm, rfl⟩
  · have g5 : decide (5 < (len : Int)) = false := by simp; omega
    have HT : Hid (∀ k, k < len → ∃ b off, la = some ⟨b, off, none⟩ ∧ w.rangeAt b (off + k * 5) (fs.getD k FileV.none_).cells ∧ FileOk w (fs.getD k FileV.none_)) := hT
    have HL : Hid (fs.length = len) := hlen
    clear hT hlen
    go_enter Tryz.func6, Tryz.ntmps6
    go_wp2
    go_loop [3] (fun i => ∃ k : Nat, k ≤ len ∧ i = .int .i64 k ∧ ∀ j, j < k → (fs.getD j FileV.none_).il ≤ 40) (fun i => len - (intOf i).toNat)
    case atStart => exact ⟨0, Nat.zero_le _, rfl, fun j hj => by omega⟩
    case round =>
      obtain ⟨k, hk, rfl, hall⟩ := hrel
      by_cases hlt : k < len
      · obtain ⟨b, off, rfl, hr, hok⟩ := HT.out k hlt
        have c4 : w.cell? ⟨b, off + k * 5 + 4, none⟩ = some (.slice (fs.getD k FileV.none_).ia (fs.getD k FileV.none_).il (fs.getD k FileV.none_).ic) := hr 4 _ rfl
        have hk1 := hok.il1
        unfold maxLen at hk1
        have HA : Hid ((fs.getD k FileV.none_).il ≤ 40 → ∀ j, j < k + 1 → (fs.getD j FileV.none_).il ≤ 40) := by
          intro h1 j hj
          by_cases e : j = k
          · rw [e]; exact h1
          · exact hall j (by omega)
        have HF : Hid (40 < (fs.getD k FileV.none_).il → lightF fs = false) := by
          intro h
          unfold lightF
          simp only [decide_eq_false_iff_not]
          rintro ⟨_, q⟩
          have := q k (by rw [HL.out]; exact hlt)
          omega
        clear hall hr hok
        generalize fs.getD k FileV.none_ = x at c4 hk1 HA HF
        by_cases h4 : 40 < x.il
        · have g4 : decide (40 < (x.il : Int)) = true := by simp; omega
          go_wp2
          go_ret
          exact ⟨ret_lb (HF.out h4).symm, rfl⟩
        · have g4 : decide (40 < (x.il : Int)) = false := by simp; omega
          go_wp2
          go_round
          case rel => exact ⟨k + 1, by omega, by go_num, HA.out (by omega)⟩
          case measure => simp [intOf]; omega
      · have HF : Hid (lightF fs = true) := by
          unfold Hid lightF
          simp only [decide_eq_true_eq]
          exact ⟨by rw [HL.out]; omega, fun j hj => hall j (by have := HL.out; omega)⟩
        clear hall
        go_wp2
        go_ret
        exact ⟨ret_lb HF.out.symm, rfl⟩

/- What the files are. -/
def dev170 : DV := DV.made (List.replicate 170 noughts) 0
def fileStep (v : IV) (c : Nat) (b : Int) : IV := if b = 1 then v.clear c else if 1 < b then v.fill c (clusterS b) else v
def fileTo (v : IV) (is : List Int) : Nat → IV
  | 0 => v
  | c + 1 => fileStep (fileTo v is c) c (is.getD c 0)
def FileV.h (f : FileV) : HV := ⟨f.c, f.p, f.b⟩
def FileV.iv (f : FileV) : Option IV := if f.there = true ∧ crF dev170 f.h = 0 then some (fileTo (crV dev170 f.h) f.is f.is.length) else none
def filesS (fs : List FileV) : SV := fun i => if i < fs.length ∧ i < 5 then (fs.getD i FileV.none_).iv else none
def filesTo (fs : List FileV) (n : Nat) : SV := fun i => if i < n then filesS fs i else none

theorem dev170_fine : dev170.fine dev170.fl.length 0 := by
  refine ⟨DV.made_ok (by rw [List.length_replicate]; omega) (by rw [List.length_replicate]; omega) (fun s hs => ?_) (by decide), made_sn _ _, rfl, Nat.le_refl _⟩
  rw [List.eq_of_mem_replicate hs]; decide

theorem fileStep_ok {v : IV} {m : Nat} (h : v.ok m) (c : Nat) (b : Int) (hm : m + 10 ≤ 1000000000) : (fileStep v c b).ok (m + 10) := by
  unfold fileStep
  split
  · exact h.clear c hm
  · split
    · exact h.fill c _ hm
    · exact h.more (by omega)

theorem fileTo_ok {v : IV} {m : Nat} {is : List Int} (h : v.ok m) : ∀ c, c ≤ 40 → m + 500 ≤ 1000000000 → (fileTo v is c).ok (m + 10 * c) := by
  intro c
  induction c with
  | zero => intro _ _; exact h
  | succ c ih =>
    intro hc hm
    have := fileStep_ok (ih (by omega) hm) c (is.getD c 0) (by omega)
    rw [show m + 10 * (c + 1) = m + 10 * c + 10 by omega]
    exact this

theorem filesTo_all {fs : List FileV} {n : Nat} (hn : fs.length = n) : filesTo fs n = filesS fs := by
  funext i
  unfold filesTo
  split
  · rfl
  · next h => unfold filesS; rw [if_neg (by omega)]

theorem filesTo_skip {fs : List FileV} {k : Nat} (h : filesS fs k = none) : filesTo fs (k + 1) = filesTo fs k := by
  funext i
  unfold filesTo
  by_cases e : i = k
  · rw [e, if_pos (by omega), if_neg (by omega), h]
  · by_cases hi : i < k
    · rw [if_pos (by omega), if_pos hi]
    · rw [if_neg (by omega), if_neg hi]

theorem filesTo_set {fs : List FileV} {k : Nat} {v : IV} (h : filesS fs k = some v) : filesTo fs (k + 1) = (filesTo fs k).upd k v := by
  funext i
  unfold filesTo SV.upd
  by_cases e : i = k
  · rw [e, if_pos (by omega), if_pos rfl, h]
  · rw [if_neg e]
    show _ = if i < k then filesS fs i else none
    by_cases hi : i < k
    · rw [if_pos (by omega), if_pos hi]
    · rw [if_neg (by omega), if_neg hi]

theorem filesTo_at (fs : List FileV) (k : Nat) : filesTo fs k k = none := by unfold filesTo; rw [if_neg (by omega)]
theorem filesTo_zero (fs : List FileV) : filesTo fs 0 = fun _ => none := by funext i; unfold filesTo; rw [if_neg (by omega)]
theorem filesS_at {fs : List FileV} {k : Nat} (h : k < fs.length) (h5 : k < 5) : filesS fs k = (fs.getD k FileV.none_).iv := by unfold filesS; rw [if_pos ⟨h, h5⟩]
end Go.Proofs.YtjegaljdindfaabGreatDoor

namespace Go.Proofs.YtjegaljdindfaabGreatDoor
open Go.RowKit Go.Maps

theorem Lay.spNe {B : Nat} {w0 w : World} {sp mp m : Nat} {xs : Nat → Ih} {qs : Nat → Qh} {s : SV} (h : Lay B w0 w sp mp xs qs s m) : sp ≠ mp := fun e => by
  have h1 := h.prog.blk
  rw [e, h.ref.blk] at h1
  simp only [Option.some.injEq, Obj.cells.injEq] at h1
  exact absurd h1.2.1 (by decide)

theorem Lay.place {B : Nat} {w0 wN wr : World} {sp mp m m' k : Nat} {xs : Nat → Ih} {qs : Nat → Qh} {s : SV} {x : Ih} {q : Qh} {v : IV} (h : Lay B w0 wN sp mp xs qs s m) (hb : Below wN.heap.size wN wr) (hd : Duo wN.heap.size wr x q v v) (hk : k < 5) (hm : m ≤ m') (hok : v.ok m') :
    Lay B w0 ((wr.setCell ⟨sp, k, none⟩ (.pointer (some ⟨x.p, 0, none⟩))).setCell ⟨mp, k, none⟩ (.pointer (some ⟨q.p, 0, none⟩))) sp mp (updX xs k x) (updQ qs k q) (s.upd k v) m' := by
  have hr := h.below hb
  have hne : sp ≠ mp := hr.spNe
  have p1 : IsShelf (wr.setCell ⟨sp, k, none⟩ (.pointer (some ⟨x.p, 0, none⟩))) sp (updX xs k x) (s.upd k v) m' := hr.prog.place hk hm hd.img hok fun j hj hs => by
    have := h.prog.fpLt hs
    have := hd.bI j hj
    omega
  have hs1 : ¬ q.fp sp := hd.rim.notShelf hr.prog.blk (by decide)
  have hs2 : ¬ x.fp mp := hd.img.notShelf hr.ref.blk (by decide)
  have r1 : IsRshelf (wr.setCell ⟨sp, k, none⟩ (.pointer (some ⟨x.p, 0, none⟩))) mp qs s m := hr.ref.keep (heap_setCell_other _ _ _ _ (Ne.symm hne)) fun i hf => heap_setCell_other _ _ _ _ (fun e => hr.spNot.1 (by have e2 : i = sp := e; rw [← e2]; exact hf))
  have q1 : IsRim Gd.no (wr.setCell ⟨sp, k, none⟩ (.pointer (some ⟨x.p, 0, none⟩))) q v := hd.rim.keepAll fun i hf => heap_setCell_other _ _ _ _ (fun e => hs1 (by have e2 : i = sp := e; rw [← e2]; exact hf))
  have r2 := r1.place (x := q) hk hm q1 hok fun j hj hs => by
    have := h.ref.fpLt hs
    have := hd.bR j hj
    omega
  refine ⟨p1.keep (heap_setCell_other _ _ _ _ hne) fun i hf => heap_setCell_other _ _ _ _ (fun e => ?_), r2, fun i h1 h2 => ?_, fun i h1 => ?_, fun i h1 => ?_, h.bsp, (hr.bel.setCell (p := ⟨sp, k, none⟩) h.bsp.1 _).setCell (p := ⟨mp, k, none⟩) h.bsp.2 _, h.size⟩
  · have e2 : i = mp := e
    rcases IsShelf.fpUpd hf with h3 | h3
    · exact hr.spNot.2 (by rw [← e2]; exact h3)
    · exact hs2 (by rw [← e2]; exact h3)
  · rcases IsShelf.fpUpd h1 with h3 | h3
    · rcases IsRshelf.fpUpd h2 with h4 | h4
      · exact h.apart i h3 h4
      · have := h.prog.fpLt h3; have := hd.bR i h4; omega
    · rcases IsRshelf.fpUpd h2 with h4 | h4
      · have := h.ref.fpLt h4; have := hd.bI i h3; omega
      · exact hd.ne i h3 h4
  · rcases IsShelf.fpUpd h1 with h3 | h3
    · exact h.bS i h3
    · exact Nat.le_trans h.sizes (hd.bI i h3)
  · rcases IsRshelf.fpUpd h1 with h3 | h3
    · exact h.bQ i h3
    · exact Nat.le_trans h.sizes (hd.bR i h3)

theorem Lay.placeNil {B : Nat} {w0 wr : World} {sp mp m k : Nat} {xs : Nat → Ih} {qs : Nat → Qh} {s : SV} (h : Lay B w0 wr sp mp xs qs s m) (hk : k < 5) (hs : s k = none) :
    Lay B w0 ((wr.setCell ⟨sp, k, none⟩ (.pointer none)).setCell ⟨mp, k, none⟩ (.pointer none)) sp mp xs qs s m := by
  have hne : sp ≠ mp := h.spNe
  have p1 := h.prog.placeNil hk hs
  have r1 : IsRshelf (wr.setCell ⟨sp, k, none⟩ (.pointer none)) mp qs s m := h.ref.keep (heap_setCell_other _ _ _ _ (Ne.symm hne)) fun i hf => heap_setCell_other _ _ _ _ (fun e => h.spNot.1 (by have e2 : i = sp := e; rw [← e2]; exact hf))
  refine ⟨p1.keep (heap_setCell_other _ _ _ _ hne) fun i hf => heap_setCell_other _ _ _ _ (fun e => ?_), r1.placeNil hk hs, h.apart, h.bS, h.bQ, h.bsp, (h.bel.setCell (p := ⟨sp, k, none⟩) h.bsp.1 _).setCell (p := ⟨mp, k, none⟩) h.bsp.2 _, h.size⟩
  have e2 : i = mp := e
  exact h.spNot.2 (by rw [← e2]; exact hf)

def noX : Nat → Ih := fun _ => ⟨0, ⟨0, 0, 0, 0, 0, .pointer none⟩, 0, 0, 0⟩
def noQ : Nat → Qh := fun _ => ⟨0, ⟨0, 0, 0, .pointer none, .pointer none⟩, .pointer none, .pointer none⟩

theorem lay_new (w : World) (m : Nat) : Lay w.heap.size w ((w.alloc (.cells #[.pointer none, .pointer none, .pointer none, .pointer none, .pointer none] 68)).alloc (.cells #[.pointer none, .pointer none, .pointer none, .pointer none, .pointer none] 71)) w.heap.size (w.heap.size + 1) noX noQ (fun _ => none) m := by
  have hb1 : Below w.heap.size w (w.alloc (.cells #[.pointer none, .pointer none, .pointer none, .pointer none, .pointer none] 68)) := (Below.refl _ _).alloc (Nat.le_refl _) _
  refine ⟨⟨?_, (fun i v _ e => by cases e), (fun i v e => by cases e), (fun i j _ _ _ e => absurd rfl e)⟩, ⟨?_, (fun i v _ e => by cases e), (fun i v e => by cases e), (fun i j _ _ _ e => absurd rfl e)⟩, (fun k ⟨i, _, e, _⟩ => absurd rfl e), (fun k ⟨i, _, e, _⟩ => absurd rfl e), (fun k ⟨i, _, e, _⟩ => absurd rfl e), ⟨Nat.le_refl _, Nat.le_succ _⟩, hb1.alloc hb1.size _, Nat.le_refl _⟩
  · rw [Below.heap_alloc _ _ _ (by simp), heap_alloc_new]; rfl
  · have := heap_alloc_new (w.alloc (.cells #[.pointer none, .pointer none, .pointer none, .pointer none, .pointer none] 68)) (.cells #[.pointer none, .pointer none, .pointer none, .pointer none, .pointer none] 71)
    rw [show (w.alloc (.cells #[.pointer none, .pointer none, .pointer none, .pointer none, .pointer none] 68)).heap.size = w.heap.size + 1 by simp] at this
    exact this

theorem Lay.cellOk {B : Nat} {w0 w : World} {sp mp m k : Nat} {xs : Nat → Ih} {qs : Nat → Qh} {s : SV} (h : Lay B w0 w sp mp xs qs s m) (hk : k < 5) :
    (∃ u, w.cell? ⟨sp, k, none⟩ = some u) ∧ w.frozen? ⟨sp, k, none⟩ = false ∧ (∃ u, w.cell? ⟨mp, k, none⟩ = some u) ∧ w.frozen? ⟨mp, k, none⟩ = false ∧ sp ≠ mp :=
  ⟨⟨_, h.prog.cell hk⟩, frozen_of_row _ _ _ _ _ h.prog.blk, ⟨_, h.ref.cell hk⟩, frozen_of_row _ _ _ _ _ h.ref.blk, h.spNe⟩
end Go.Proofs.YtjegaljdindfaabGreatDoor
