/-
What a guest may see, act by act: each sector that is seen through the chain is among what it may be.
A yard that is being made (J1): its block, the devices that it has already.
-/
import Derived.Test.YtonhoahnieoebabGreatDoorQShowPlain
import Derived.Test.YtonhoahnieoebabGreatDoorQYardGuest4
import Derived.Test.YtonhoahnieoebabGreatDoorQActBox
import Derived.Test.YtonhoahnieoebabGreatDoorQYardP5
import Derived.Test.YtonhoahnieoebabGreatDoorQChainGets
namespace Go.Proofs.YtonhoahnieoebabGreatDoor
open Go.RowKit Go.Maps

/- A text that is read, sector by sector. -/
theorem chunk_left {a b : ByteArray} {i : Nat} (h : (i + 1) * 16 ≤ a.size) : chunk (a ++ b) i = chunk a i := by
  rw [chunk_ext, chunk_ext, ByteArray.data_append, Array.toList_append]
  have : a.data.toList.length = a.size := by rw [Array.length_toList]; rfl
  rw [List.drop_append_of_le_length (by omega), List.take_append_of_le_length (by rw [List.length_drop]; omega)]
theorem chunk_right {a b : ByteArray} {i : Nat} (h : a.size = i * 16) : chunk (a ++ b) i = chunk b 0 := by
  rw [chunk_ext, chunk_ext, ByteArray.data_append, Array.toList_append]
  have : a.data.toList.length = i * 16 := by rw [Array.length_toList]; exact h
  rw [← this, List.drop_left, Nat.zero_mul, List.drop_zero]
theorem getTo_sec {s : SV} {C m : Nat} {l : List Int} (hg : s.good (C : Int) l) (hok : s.ok m) (h0 : l ≠ []) : ∀ n, n ≤ 4 * C → ∀ k, k < n → chunk (s.getTo l 0 n) k = s.sec l k := by
  intro n
  induction n with
  | zero => intro _ k hk; omega
  | succ n ih =>
    intro hn k hk
    have hs : (s.getTo l 0 n).size = n * 16 := SV.getTo_size (fr := 0) hg hok h0 n (by omega)
    show chunk (s.getTo l 0 n ++ secB (s.read l (((0 + n) / 4 : Nat) : Int)).1 ((0 + n) % 4) 1) k = _
    by_cases e : k = n
    · subst e
      rw [chunk_right hs, Nat.zero_add]
      have hc : k / 4 < C := by omega
      have hr := read_view (c := k / 4) (j := k % 4) hg hok h0 hc (by omega)
      unfold SV.sec
      rw [← hr]
      have hz : (s.read l ((k / 4 : Nat) : Int)).1.size = 64 := (SV.read_yes hg hok h0 (c := ((k / 4 : Nat) : Int)) ⟨by omega, by omega⟩).2
      exact chunk_sec (a := k % 4) (n := 1) (i := 0) (by omega) (by rw [hz]; omega)
    · rw [chunk_left (by rw [hs]; omega)]
      exact ih (by omega) k (by omega)

structure Saw (y : YV) (C m : Nat) (g : GV) (L : Nat) : Prop where
  yg : YG y C m
  now : ∀ k, k < 4 * C → y.s.sec y.l k ∈ g.now k
  len : ∀ k, k < 4 * C → (g.now k).length ≤ L ∧ (g.cr k).length ≤ L

theorem YG.more {y : YV} {C m m' : Nat} (h : YG y C m) (hm : m ≤ m') : YG y C m' := ⟨h.ok.more hm, h.safe, h.job⟩
theorem Saw.more {y : YV} {C m m' L L' : Nat} {g : GV} (h : Saw y C m g L) (hm : m ≤ m') (hL : L ≤ L') : Saw y C m' g L' :=
  ⟨h.yg.more hm, h.now, fun k hk => ⟨Nat.le_trans (h.len k hk).1 hL, Nat.le_trans (h.len k hk).2 hL⟩⟩
/- What is seen is as it was. -/
theorem Saw.sees {y z : YV} {C m m' L : Nat} {g : GV} (h : Saw y C m g L) (hz : YG z C m') (hs : Sees y z C) : Saw z C m' g L :=
  ⟨hz, fun k hk => by
    have : z.s.sec z.l k = y.s.sec y.l k := hs (k / 4) (by omega) (k % 4) (by omega)
    rw [this]
    exact h.now k hk, h.len⟩
/- A range is laid. -/
theorem Saw.laid {y z : YV} {C m m' L fr N : Nat} {g : GV} {t : ByteArray} {well : Bool} {x : Nat → List UInt8} (h : Saw y C m g L) (hz : YG z C m') (hl : z.l = y.l) (hx : ∀ k, fr ≤ k → k < fr + N → x k = chunk t (k - fr)) (hd : Laid y.s z.s C y.l fr (fr + N) x (well = true)) : Saw z C m' (wroteG g fr t well N N) (L + 1) := by
  refine ⟨hz, fun k hk => ?_, fun k hk => ?_⟩
  · rw [hl]
    show _ ∈ wroteN g fr t well N k
    unfold wroteN
    cases well with
    | true =>
      rw [hd.yes rfl k hk]
      by_cases e : fr ≤ k ∧ k < fr + N
      · rw [if_pos e, if_pos e, if_pos rfl, hx k e.1 e.2]
        exact List.mem_singleton.2 rfl
      · rw [if_neg e, if_neg e]
        exact h.now k hk
    | false =>
      by_cases e : fr ≤ k ∧ k < fr + N
      · rw [if_pos e, if_neg (by decide)]
        rcases hd.any k hk with q | ⟨_, q⟩
        · rw [q]
          exact List.mem_append_left _ (h.now k hk)
        · rw [q, hx k e.1 e.2]
          exact List.mem_append_right _ (List.mem_singleton.2 rfl)
      · rw [if_neg e]
        rcases hd.any k hk with q | ⟨q, _⟩
        · rw [q]
          exact h.now k hk
        · exact absurd q e
  · have h2 := h.len k hk
    refine ⟨?_, ?_⟩
    · show (wroteN g fr t well N k).length ≤ L + 1
      unfold wroteN
      split
      · split
        · exact Nat.succ_le_succ (Nat.zero_le _)
        · rw [List.length_append]; simp; omega
      · omega
    · show (wroteC g fr t N k).length ≤ L + 1
      unfold wroteC
      split
      · rw [List.length_append]; simp; omega
      · omega

theorem sees_of {y z : YV} {C m : Nat} (h : YG z C m ∧ ∀ c, c < C → ∀ i, i < 4 → z.s.view c i z.l = y.s.view c i y.l) : YG z C m ∧ Sees y z C := h

theorem Saw.act {y y' : YV} {C m L : Nat} {g g' : GV} {x : ActV} (h : Saw y C m g L) (hr : TopR (4 * C) y g x y' g') (hx : ActIn x) (hC : C ≤ 32) (hm : m + 8000 < 1000000000) : Saw y' C (m + 2000) g' (L + 1) := by
  have one : ∀ {z : YV} {m' : Nat}, YG z C m' ∧ Sees y z C → m' ≤ m + 2000 → Saw z C (m + 2000) g (L + 1) := fun {z m'} hz hm' => (h.sees hz.1 hz.2).more hm' (Nat.le_succ _)
  obtain ⟨⟨a1, a2⟩, hs, b1, b2⟩ := hx
  cases hr with
  | write hk =>
    by_cases hf : x.s.size % 16 = 0 ∧ y.s.chkF y.l x.a ((x.s.size / 16 : Nat) : Int) = 0
    · obtain ⟨_, f0, _, _⟩ := SV.chk_ok h.yg.ok.ch.good hf.2
      have h1 : y.writeF x.a x.s ≠ 1 := by
        unfold YV.writeF
        rw [if_pos hf]
        exact put_ne1 h.yg.ok.ch.good h.yg.ok.s hf.1 hf.2 (by omega)
      rw [if_neg h1]
      obtain ⟨fr, e⟩ : ∃ fr : Nat, x.a = (fr : Int) := ⟨x.a.toNat, by omega⟩
      rw [e] at hf ⊢
      obtain ⟨q1, q2, q3⟩ := h.yg.write hf.1 hf.2 (by omega)
      have hfr : ((fr : Int)).toNat = fr := Int.toNat_natCast fr
      rw [hfr]
      refine (h.laid (well := decide (y.writeF (fr : Int) x.s = 0)) q2 q3 (fun k _ _ => rfl) ?_).more (by omega) (Nat.le_refl _)
      exact ⟨fun w => q1.yes (of_decide_eq_true w), q1.any⟩
    · have e1 : y.writeF x.a x.s = 1 := by unfold YV.writeF; rw [if_neg hf]
      have e2 : y.write x.a x.s = y := by unfold YV.write; rw [if_neg hf]
      rw [if_pos e1, e2]
      exact h.more (by omega) (Nat.le_succ _)
  | wipe hk =>
    by_cases hf : y.s.chkF y.l x.a x.b = 0
    · obtain ⟨_, f0, n0, n1⟩ := SV.chk_ok h.yg.ok.ch.good hf
      have h1 : y.wipeF x.a x.b ≠ 1 := by
        unfold YV.wipeF
        rw [if_pos hf]
        exact wipe_ne1 h.yg.ok.ch.good h.yg.ok.s hf (by omega)
      rw [if_neg h1]
      obtain ⟨fr, e⟩ : ∃ fr : Nat, x.a = (fr : Int) := ⟨x.a.toNat, by omega⟩
      obtain ⟨N, e'⟩ : ∃ N : Nat, x.b = (N : Int) := ⟨x.b.toNat, by omega⟩
      rw [e, e'] at hf n1 ⊢
      obtain ⟨q1, q2, q3⟩ := h.yg.wipe hf (by omega)
      have hfr : ((fr : Int)).toNat = fr := Int.toNat_natCast fr
      have hN : ((N : Int)).toNat = N := Int.toNat_natCast N
      rw [hfr, hN]
      refine (h.laid (well := decide (y.wipeF (fr : Int) (N : Int) = 0)) q2 q3 (fun k k1 k2 => (chunk_nought (n := N) (i := k - fr) (by omega)).symm) ?_).more (by omega) (Nat.le_refl _)
      exact ⟨fun w => q1.yes (of_decide_eq_true w), q1.any⟩
    · have e1 : y.wipeF x.a x.b = 1 := by unfold YV.wipeF; rw [if_neg hf]
      have e2 : y.wipe x.a x.b = y := by unfold YV.wipe; rw [if_neg hf]
      rw [if_pos e1, e2]
      exact h.more (by omega) (Nat.le_succ _)
  | flush hk =>
    have h1 := one h.yg.flush (by omega)
    refine ⟨h1.yg, h1.now, fun k hk => ⟨(h1.len k hk).1, ?_⟩⟩
    show (if k < 4 * C then g.now k else g.cr k).length ≤ L + 1
    rw [if_pos hk]
    exact (h1.len k hk).1
  | blank hk => exact one (h.yg.blank x.a (-1) (by omega)) (by omega)
  | snap hk => exact one (h.yg.snap x.a (by omega)) (by omega)
  | start hk => exact one (h.yg.start (d := startK y x.a x.b x.c x.d) rfl (by omega)) (by omega)
  | pivot hk => exact one (sees_of (h.yg.pivot (by omega))) (by omega)
  | cancel hk => exact one (h.yg.cancel (by omega)) (by omega)
  | pause hk => exact one (h.yg.pause _) (by omega)
  | tick hk => exact one (h.yg.tick _) (by omega)
  | fail hk => exact one (h.yg.arm x.a x.b (by omega)) (by omega)
  | step => exact one (sees_of (h.yg.step (by omega))) (by omega)

/- What a guest reads is among what it may see; then it is so. -/
theorem Saw.text {y : YV} {C m L : Nat} {g : GV} (h : Saw y C m g L) : y.s.chkF y.l 0 ((4 * C : Nat) : Int) = 0 ∧ (y.s.getS y.l 0 ((4 * C : Nat) : Int)).size = 16 * (4 * C) ∧ ∀ k, k < 4 * C → chunk (y.s.getS y.l 0 ((4 * C : Nat) : Int)) k = y.s.sec y.l k := by
  obtain ⟨r, el⟩ := h.yg.ok.ch.head
  have hl : y.l ≠ [] := by rw [el]; exact List.cons_ne_nil _ _
  obtain ⟨v, hv, hc⟩ := h.yg.ok.ch.root
  have hcl : y.s.clusters y.l = (C : Int) := h.yg.ok.ch.good.clusters hl
  have hf : y.s.chkF y.l 0 ((4 * C : Nat) : Int) = 0 := by
    unfold SV.chkF
    rw [if_neg hl, if_neg (by rw [hcl]; omega)]
  have e : y.s.getS y.l 0 ((4 * C : Nat) : Int) = y.s.getTo y.l 0 (4 * C) := by
    unfold SV.getS
    rw [if_pos hf]
    rfl
  rw [e]
  refine ⟨hf, ?_, getTo_sec h.yg.ok.ch.good h.yg.ok.s hl _ (Nat.le_refl _)⟩
  rw [SV.getTo_size (fr := 0) h.yg.ok.ch.good h.yg.ok.s hl (4 * C) (by omega)]
  omega
theorem Saw.seen {y : YV} {C m L : Nat} {g : GV} (h : Saw y C m g L) (hL : 1 ≤ L) : Saw y C m { g with now := seenTo (y.s.getS y.l 0 ((4 * C : Nat) : Int)) g.now (4 * C) } L := by
  refine ⟨h.yg, fun k hk => ?_, fun k hk => ⟨?_, (h.len k hk).2⟩⟩
  · show _ ∈ (if k < 4 * C then [chunk _ k] else g.now k)
    rw [if_pos hk, h.text.2.2 k hk]
    exact List.mem_singleton.2 rfl
  · show (if k < 4 * C then [chunk _ k] else g.now k).length ≤ L
    rw [if_pos hk]
    exact hL
theorem Saw.made {c p : Int} (hk : (newH c p).ok = true) (hn : needN (newH c p) ≤ 200) : Saw (newY c p) c.toNat 20 ⟨fun _ => [noughts], fun _ => [noughts]⟩ 1 := by
  obtain ⟨h1, h2⟩ := newY_g hk hn
  exact ⟨h1, fun k _ => List.mem_singleton.2 (h2 _ _), fun k _ => ⟨Nat.le_refl _, Nat.le_refl _⟩⟩
end Go.Proofs.YtonhoahnieoebabGreatDoor

namespace Go.Proofs.YtonhoahnieoebabGreatDoor
open Go.RowKit Go.Maps
attribute [local go_sem ↓] Go.wp_at_zero Go.wp_at_succ

structure YNew (w : World) (yp k : Nat) (hs : Nat → Hd) (D : DV) (tv : Value) : Prop where
  blk : ∃ cur, w.heap[yp]? = some (.cells cur 168 (0, 0)) ∧ cur.size = 13 ∧ (∀ i, i < k → cur[i]? = some (.pointer (some ⟨(hs i).p, 0, none⟩))) ∧ cur[5]? = some tv ∧ (∀ i, i < 5 → cur[6 + i]? = some (.pointer none)) ∧ cur[11]? = some (.int .i64 0) ∧ cur[12]? = some (.pointer none)
  dev : ∀ i, i < k → IsDevG Gd.no w (hs i) D
  past : ∀ i, i < k → ∀ b, (hs i).fp b → yp < b
  apart : ∀ i j, i < k → j < k → i ≠ j → ∀ b, (hs i).fp b → ¬ (hs j).fp b

def setH (hs : Nat → Hd) (k : Nat) (h : Hd) : Nat → Hd := fun i => if i = k then h else hs i

theorem YNew.lt {w : World} {yp k : Nat} {hs : Nat → Hd} {D : DV} {tv : Value} (h : YNew w yp k hs D tv) : yp < w.heap.size := by
  obtain ⟨c, h1, _⟩ := h.blk
  exact lt_of_some h1
theorem YNew.below {w w' : World} {yp k : Nat} {hs : Nat → Hd} {D : DV} {tv : Value} (h : YNew w yp k hs D tv) (hb : Below w.heap.size w w') : YNew w' yp k hs D tv :=
  ⟨by rw [hb.block _ h.lt]; exact h.blk, fun i hi => (h.dev i hi).keep fun b hf => hb.block b ((h.dev i hi).lt b hf).2, h.past, h.apart⟩
theorem YNew.cell {w : World} {yp k : Nat} {hs : Nat → Hd} {D : DV} {tv : Value} (h : YNew w yp k hs D tv) (i : Nat) (hi : i < 13) : (∃ v, w.cell? ⟨yp, i, none⟩ = some v) ∧ w.frozen? ⟨yp, i, none⟩ = false := by
  obtain ⟨c, h1, h2, _⟩ := h.blk
  refine ⟨⟨c[i]'(by omega), ?_⟩, frozen_of_row w yp i _ _ h1⟩
  rw [cell_of_row w yp i _ _ _ h1]
  exact Array.getElem?_eq_getElem (by omega)
theorem YNew.devCell {w : World} {yp k : Nat} {hs : Nat → Hd} {D : DV} {tv : Value} (h : YNew w yp k hs D tv) {i : Nat} (hi : i < k) : w.cell? ⟨yp, i, none⟩ = some (.pointer (some ⟨(hs i).p, 0, none⟩)) := by
  obtain ⟨c, h1, h2, h3, _⟩ := h.blk
  rw [cell_of_row w yp i _ _ _ h1]; exact h3 i hi
theorem YNew.root {w : World} {yp k : Nat} {hs : Nat → Hd} {D : DV} {tv : Value} (h : YNew w yp k hs D tv) : w.cell? ⟨yp, 11, none⟩ = some (.int .i64 0) := by
  obtain ⟨c, h1, h2, h3, h4, h5, h6, h7⟩ := h.blk
  rw [cell_of_row w yp 11 _ _ _ h1]; exact h6

/- One device more. -/
theorem YNew.step {w w1 : World} {yp k : Nat} {hs : Nat → Hd} {D : DV} {tv : Value} (h : YNew w yp k hs D tv) (hk : k < 5) {d : Hd} (hb : Below w.heap.size w w1) {N : Nat} (hN : w.heap.size ≤ N) (hd : IsDev N w1 d D) :
    YNew (w1.setCell ⟨yp, k, none⟩ (.pointer (some ⟨d.p, 0, none⟩))) yp (k + 1) (setH hs k d) D tv := by
  have h1 := h.below hb
  obtain ⟨c, b1, b2, b3, b4, b5, b6, b7⟩ := h1.blk
  have hlt := h.lt
  have hset : ∀ b, b ≠ yp → (w1.setCell ⟨yp, k, none⟩ (.pointer (some ⟨d.p, 0, none⟩))).heap[b]? = w1.heap[b]? := fun b hb => heap_setCell_other _ _ _ _ hb
  refine ⟨⟨_, heap_setCell_same w1 yp k _ _ _ b1, by simpa using b2, fun i hi => ?_, ?_, fun i hi => ?_, ?_, ?_⟩, fun i hi => ?_, fun i hi b hf => ?_, fun i j hi hj hij b hf hf2 => ?_⟩
  · unfold setH
    by_cases e : i = k
    · rw [e, if_pos rfl, Array.getElem?_setIfInBounds_self_of_lt (by omega)]
    · rw [if_neg e, Array.getElem?_setIfInBounds_ne (fun e2 => e e2.symm)]; exact b3 i (by omega)
  · rw [Array.getElem?_setIfInBounds_ne (by omega)]; exact b4
  · rw [Array.getElem?_setIfInBounds_ne (by omega)]; exact b5 i hi
  · rw [Array.getElem?_setIfInBounds_ne (by omega)]; exact b6
  · rw [Array.getElem?_setIfInBounds_ne (by omega)]; exact b7
  · unfold setH
    by_cases e : i = k
    · rw [if_pos e]
      exact ⟨hd.base0.keep fun b hf => hset b (by have := (hd.lt b hf).1; omega), fun _ _ e => e⟩
    · rw [if_neg e]
      exact (h1.dev i (by omega)).keep fun b hf => hset b (by have := h1.past i (by omega) b hf; omega)
  · unfold setH at hf
    by_cases e : i = k
    · rw [if_pos e] at hf; have := (hd.lt b hf).1; omega
    · rw [if_neg e] at hf; exact h.past i (by omega) b hf
  · unfold setH at hf hf2
    by_cases e : i = k
    · have e2 : j ≠ k := fun e2 => hij (by rw [e, e2])
      rw [if_pos e] at hf
      rw [if_neg e2] at hf2
      have q1 := (hd.lt b hf).1
      have q2 := ((h.dev j (by omega)).lt b hf2).2
      omega
    · rw [if_neg e] at hf
      by_cases e2 : j = k
      · rw [if_pos e2] at hf2
        have q1 := (hd.lt b hf2).1
        have q2 := ((h.dev i (by omega)).lt b hf).2
        omega
      · rw [if_neg e2] at hf2; exact h.apart i j (by omega) (by omega) hij b hf hf2

/- The desk's device. -/
theorem YNew.topped {w w1 : World} {yp : Nat} {hs : Nat → Hd} {D : DV} {tv : Value} (h : YNew w yp 5 hs D tv) {d : Hd} (hb : Below w.heap.size w w1) :
    YNew (w1.setCell ⟨yp, 5, none⟩ (.pointer (some ⟨d.p, 0, none⟩))) yp 5 hs D (.pointer (some ⟨d.p, 0, none⟩)) := by
  have h1 := h.below hb
  obtain ⟨c, b1, b2, b3, b4, b5, b6, b7⟩ := h1.blk
  have hset : ∀ b, b ≠ yp → (w1.setCell ⟨yp, 5, none⟩ (.pointer (some ⟨d.p, 0, none⟩))).heap[b]? = w1.heap[b]? := fun b hb => heap_setCell_other _ _ _ _ hb
  refine ⟨⟨_, heap_setCell_same w1 yp 5 _ _ _ b1, by simpa using b2, fun i hi => ?_, ?_, fun i hi => ?_, ?_, ?_⟩, fun i hi => ?_, h1.past, h1.apart⟩
  · rw [Array.getElem?_setIfInBounds_ne (by omega)]; exact b3 i hi
  · rw [Array.getElem?_setIfInBounds_self_of_lt (by omega)]
  · rw [Array.getElem?_setIfInBounds_ne (by omega)]; exact b5 i hi
  · rw [Array.getElem?_setIfInBounds_ne (by omega)]; exact b6
  · rw [Array.getElem?_setIfInBounds_ne (by omega)]; exact b7
  · exact (h1.dev i hi).keep fun b hf => hset b (by have := h1.past i hi b hf; omega)

def newJb : Jh := ⟨0, 0, 0, none, 0⟩

/- The file 0 is an image: it is a yard. -/
theorem YNew.yard {w w1 : World} {yp : Nat} {hs : Nat → Hd} {c p : Int} {t : Hd} {x : Ih} (h : YNew w yp 5 hs (newDev (needN (newH c p))) (.pointer (some ⟨t.p, 0, none⟩))) (ht : IsDevG Gd.no w t (newDev 1)) (htp : ∀ b, t.fp b → yp < b) (hta : ∀ i, i < 5 → ∀ b, t.fp b → ¬ (hs i).fp b)
    (hm : Moved (hs 0).fp w x.fp w1) (hx : IsImg Gd.no w1 x (crV (newDev (needN (newH c p))) (newH c p))) (hp : x.h.p = (hs 0).p) :
    IsYard (w1.setCell ⟨yp, 6, none⟩ (.pointer (some ⟨x.p, 0, none⟩))) yp ⟨hs, t, fun _ => x, newJb⟩ (newY0 c p) ∧ ∀ b, fpY yp ⟨hs, t, fun _ => x, newJb⟩ (newY0 c p) b → b = yp ∨ (∃ i, i < 5 ∧ (hs i).fp b) ∨ t.fp b ∨ w.heap.size ≤ b := by
  obtain ⟨cu, b1, b2, b3, b4, b5, b6, b7⟩ := h.blk
  have hyp : ¬ (hs 0).fp yp := fun e => by have := h.past 0 (by omega) yp e; omega
  have hblk : w1.heap[yp]? = w.heap[yp]? := hm.block h.lt hyp
  have hset : ∀ b, b ≠ yp → (w1.setCell ⟨yp, 6, none⟩ (.pointer (some ⟨x.p, 0, none⟩))).heap[b]? = w1.heap[b]? := fun b hb => heap_setCell_other _ _ _ _ hb
  have hs0 : (newY0 c p).s 0 = some (crV (newDev (needN (newH c p))) (newH c p)) := rfl
  have hsn : ∀ i, i ≠ 0 → (newY0 c p).s i = none := fun i hi => by
    have e : (newY0 c p).s i = if i = 0 then some (crV (newDev (needN (newH c p))) (newH c p)) else none := rfl
    rw [e, if_neg hi]
  have hfx : ∀ b, x.fp b → (hs 0).fp b ∨ w.heap.size ≤ b := fun b e => hm.new b e
  have hxy : ∀ b, x.fp b → b ≠ yp := fun b e e2 => by
    rcases hfx b e with e3 | e3
    · exact hyp (by rw [← e2]; exact e3)
    · have := h.lt; omega
  have hkeep : ∀ i, i < 5 → i ≠ 0 → ∀ b, (hs i).fp b → (w1.setCell ⟨yp, 6, none⟩ (.pointer (some ⟨x.p, 0, none⟩))).heap[b]? = w.heap[b]? := fun i hi h0 b hf => by
    rw [hset b (by have := h.past i hi b hf; omega)]
    exact hm.block ((h.dev i hi).lt b hf).2 (fun e => h.apart i 0 hi (by omega) h0 b hf e)
  refine ⟨⟨⟨_, heap_setCell_same w1 yp 6 _ _ _ (hblk.trans b1), fun i hi => ?_, ?_, fun i hi => ?_, ?_, ?_⟩, fun i v hi hv => ?_, fun i hi hv => ?_, ?_, fun i j hi hj hij b hf hf2 => ?_, fun i hi b hf hf2 => ?_, fun j hj => (by cases hj)⟩, fun b hf => ?_⟩
  · rw [Array.getElem?_setIfInBounds_ne (by omega), b3 i hi]
    by_cases e : i = 0
    · subst e; rw [Yh.dp_some hs0]; show some (Value.pointer (some ⟨(hs 0).p, 0, none⟩)) = some (Value.pointer (some ⟨x.h.p, 0, none⟩)); rw [hp]
    · rw [Yh.dp_none (hsn i e)]
  · rw [Array.getElem?_setIfInBounds_ne (by omega)]; exact b4
  · by_cases e : i = 0
    · subst e; rw [Array.getElem?_setIfInBounds_self_of_lt (by omega), hs0]; rfl
    · rw [Array.getElem?_setIfInBounds_ne (by omega), b5 i hi, hsn i e]; rfl
  · rw [Array.getElem?_setIfInBounds_ne (by omega)]; exact b6
  · rw [Array.getElem?_setIfInBounds_ne (by omega)]; exact b7
  · by_cases e : i = 0
    · subst e
      rw [hs0] at hv
      cases hv
      exact hx.keepAll fun b hf => hset b (hxy b hf)
    · rw [hsn i e] at hv; cases hv
  · by_cases e : i = 0
    · subst e; rw [hs0] at hv; cases hv
    · exact (h.dev i hi).keep fun b hf => hkeep i hi e b hf
  · exact ht.keep fun b hf => by
      rw [hset b (by have := htp b hf; omega)]
      exact hm.block (ht.lt b hf).2 (hta 0 (by omega) b hf)
  · have key : ∀ i, i < 5 → i ≠ 0 → (hs i).fp b → ¬ x.fp b := fun i hi h0 e e2 => by
      rcases hfx b e2 with e3 | e3
      · exact h.apart i 0 hi (by omega) h0 b e e3
      · have := ((h.dev i hi).lt b e).2; omega
    by_cases ei : i = 0
    · have ej : j ≠ 0 := fun e => hij (by rw [ei, e])
      subst ei
      rw [Yh.fpF_some hs0] at hf
      rw [Yh.fpF_none (hsn j ej)] at hf2
      exact key j hj ej hf2 hf
    · rw [Yh.fpF_none (hsn i ei)] at hf
      by_cases ej : j = 0
      · subst ej; rw [Yh.fpF_some hs0] at hf2; exact key i hi ei hf hf2
      · rw [Yh.fpF_none (hsn j ej)] at hf2; exact h.apart i j hi hj hij b hf hf2
  · by_cases ei : i = 0
    · subst ei
      rw [Yh.fpF_some hs0] at hf2
      rcases hfx b hf2 with e3 | e3
      · exact hta 0 (by omega) b hf e3
      · have := (ht.lt b hf).2; omega
    · rw [Yh.fpF_none (hsn i ei)] at hf2; exact hta i hi b hf hf2
  · rcases hf with e | ⟨i, hi, e⟩ | e | e
    · exact .inl e
    · by_cases ei : i = 0
      · subst ei
        rw [Yh.fpF_some hs0] at e
        rcases hfx b e with e3 | e3
        · exact .inr (.inl ⟨0, by omega, e3⟩)
        · exact .inr (.inr (.inr e3))
      · rw [Yh.fpF_none (hsn i ei)] at e; exact .inr (.inl ⟨i, hi, e⟩)
    · exact .inr (.inr (.inl e))
    · exact absurd rfl e.1
end Go.Proofs.YtonhoahnieoebabGreatDoor
