/-
What a guest may see, act by act: each sector that is seen through the chain is among what it may be.
A yard that is being made (J1): its block, the devices that it has already.
A new yard (J1).
-/
import Derived.Test.YtonhoahnieoebabGreatDoorQShowPlain
import Derived.Test.YtonhoahnieoebabGreatDoorQYardGuest4
import Derived.Test.YtonhoahnieoebabGreatDoorQActBox
import Derived.Test.YtonhoahnieoebabGreatDoorQYardP5
import Derived.Test.YtonhoahnieoebabGreatDoorQChainGets
namespace Go.Proofs.YtonhoahnieoebabGreatDoor
open Go.RowKit Go.Maps

/- A text that is read, sector by sector. -/
theorem chunk_left {a b : ByteArray} {i : Nat} (h : (i + 1) * 16 ≤ a.size) : chunk (a ++ b) i = chunk a i := by
  rw [chunk_ext, chunk_ext, ByteArray.data_append, Array.toList_append]
  have : a.data.toList.length = a.size := by rw [Array.length_toList]; rfl
  rw [List.drop_append_of_le_length (by omega), List.take_append_of_le_length (by rw [List.length_drop]; omega)]
theorem chunk_right {a b : ByteArray} {i : Nat} (h : a.size = i * 16) : chunk (a ++ b) i = chunk b 0 := by
  rw [chunk_ext, chunk_ext, ByteArray.data_append, Array.toList_append]
  have : a.data.toList.length = i * 16 := by rw [Array.length_toList]; exact h
  rw [← this, List.drop_left, Nat.zero_mul, List.drop_zero]
theorem getTo_sec {s : SV} {C m : Nat} {l : List Int} (hg : s.good (C : Int) l) (hok : s.ok m) (h0 : l ≠ []) : ∀ n, n ≤ 4 * C → ∀ k, k < n → chunk (s.getTo l 0 n) k = s.sec l k := by
  intro n
  induction n with
  | zero => intro _ k hk; omega
  | succ n ih =>
    intro hn k hk
    have hs : (s.getTo l 0 n).size = n * 16 := SV.getTo_size (fr := 0) hg hok h0 n (by omega)
    show chunk (s.getTo l 0 n ++ secB (s.read l (((0 + n) / 4 : Nat) : Int)).1 ((0 + n) % 4) 1) k = _
    by_cases e : k = n
    · subst e
      rw [chunk_right hs, Nat.zero_add]
      have hc : k / 4 < C := by omega
      have hr := read_view (c := k / 4) (j := k % 4) hg hok h0 hc (by omega)
      unfold SV.sec
      rw [← hr]
      have hz : (s.read l ((k / 4 : Nat) : Int)).1.size = 64 := (SV.read_yes hg hok h0 (c := ((k / 4 : Nat) : Int)) ⟨by omega, by omega⟩).2
      exact chunk_sec (a := k % 4) (n := 1) (i := 0) (by omega) (by rw [hz]; omega)
    · rw [chunk_left (by rw [hs]; omega)]
      exact ih (by omega) k (by omega)

structure Saw (y : YV) (C m : Nat) (g : GV) (L : Nat) : Prop where
  yg : YG y C m
  now : ∀ k, k < 4 * C → y.s.sec y.l k ∈ g.now k
  len : ∀ k, k < 4 * C → (g.now k).length ≤ L ∧ (g.cr k).length ≤ L

theorem YG.more {y : YV} {C m m' : Nat} (h : YG y C m) (hm : m ≤ m') : YG y C m' := ⟨h.ok.more hm, h.safe, h.job⟩
theorem Saw.more {y : YV} {C m m' L L' : Nat} {g : GV} (h : Saw y C m g L) (hm : m ≤ m') (hL : L ≤ L') : Saw y C m' g L' :=
  ⟨h.yg.more hm, h.now, fun k hk => ⟨Nat.le_trans (h.len k hk).1 hL, Nat.le_trans (h.len k hk).2 hL⟩⟩
/- What is seen is as it was. -/
theorem Saw.sees {y z : YV} {C m m' L : Nat} {g : GV} (h : Saw y C m g L) (hz : YG z C m') (hs : Sees y z C) : Saw z C m' g L :=
  ⟨hz, fun k hk => by
    have : z.s.sec z.l k = y.s.sec y.l k := hs (k / 4) (by omega) (k % 4) (by omega)
    rw [this]
    exact h.now k hk, h.len⟩
/- A range is laid. -/
theorem Saw.laid {y z : YV} {C m m' L fr N : Nat} {g : GV} {t : ByteArray} {well : Bool} {x : Nat → List UInt8} (h : Saw y C m g L) (hz : YG z C m') (hl : z.l = y.l) (hx : ∀ k, fr ≤ k → k < fr + N → x k = chunk t (k - fr)) (hd : Laid y.s z.s C y.l fr (fr + N) x (well = true)) : Saw z C m' (wroteG g fr t well N N) (L + 1) := by
  refine ⟨hz, fun k hk => ?_, fun k hk => ?_⟩
  · rw [hl]
    show _ ∈ wroteN g fr t well N k
    unfold wroteN
    cases well with
    | true =>
      rw [hd.yes rfl k hk]
      by_cases e : fr ≤ k ∧ k < fr + N
      · rw [if_pos e, if_pos e, if_pos rfl, hx k e.1 e.2]
        exact List.mem_singleton.2 rfl
      · rw [if_neg e, if_neg e]
        exact h.now k hk
    | false =>
      by_cases e : fr ≤ k ∧ k < fr + N
      · rw [if_pos e, if_neg (by decide)]
        rcases hd.any k hk with q | ⟨_, q⟩
        · rw [q]
          exact List.mem_append_left _ (h.now k hk)
        · rw [q, hx k e.1 e.2]
          exact List.mem_append_right _ (List.mem_singleton.2 rfl)
      · rw [if_neg e]
        rcases hd.any k hk with q | ⟨q, _⟩
        · rw [q]
          exact h.now k hk
        · exact absurd q e
  · have h2 := h.len k hk
    refine ⟨?_, ?_⟩
    · show (wroteN g fr t well N k).length ≤ L + 1
      unfold wroteN
      split
      · split
        · exact Nat.succ_le_succ (Nat.zero_le _)
        · rw [List.length_append]; simp; omega
      · omega
    · show (wroteC g fr t N k).length ≤ L + 1
      unfold wroteC
      split
      · rw [List.length_append]; simp; omega
      · omega

theorem sees_of {y z : YV} {C m : Nat} (h : YG z C m ∧ ∀ c, c < C → ∀ i, i < 4 → z.s.view c i z.l = y.s.view c i y.l) : YG z C m ∧ Sees y z C := h

theorem Saw.act {y y' : YV} {C m L : Nat} {g g' : GV} {x : ActV} (h : Saw y C m g L) (hr : TopR (4 * C) y g x y' g') (hx : ActIn x) (hC : C ≤ 32) (hm : m + 8000 < 1000000000) : Saw y' C (m + 2000) g' (L + 1) := by
  have one : ∀ {z : YV} {m' : Nat}, YG z C m' ∧ Sees y z C → m' ≤ m + 2000 → Saw z C (m + 2000) g (L + 1) := fun {z m'} hz hm' => (h.sees hz.1 hz.2).more hm' (Nat.le_succ _)
  obtain ⟨⟨a1, a2⟩, hs, b1, b2⟩ := hx
  cases hr with
  | write hk =>
    by_cases hf : x.s.size % 16 = 0 ∧ y.s.chkF y.l x.a ((x.s.size / 16 : Nat) : Int) = 0
    · obtain ⟨_, f0, _, _⟩ := SV.chk_ok h.yg.ok.ch.good hf.2
      have h1 : y.writeF x.a x.s ≠ 1 := by
        unfold YV.writeF
        rw [if_pos hf]
        exact put_ne1 h.yg.ok.ch.good h.yg.ok.s hf.1 hf.2 (by omega)
      rw [if_neg h1]
      obtain ⟨fr, e⟩ : ∃ fr : Nat, x.a = (fr : Int) := ⟨x.a.toNat, by omega⟩
      rw [e] at hf ⊢
      obtain ⟨q1, q2, q3⟩ := h.yg.write hf.1 hf.2 (by omega)
      have hfr : ((fr : Int)).toNat = fr := Int.toNat_natCast fr
      rw [hfr]
      refine (h.laid (well := decide (y.writeF (fr : Int) x.s = 0)) q2 q3 (fun k _ _ => rfl) ?_).more (by omega) (Nat.le_refl _)
      exact ⟨fun w => q1.yes (of_decide_eq_true w), q1.any⟩
    · have e1 : y.writeF x.a x.s = 1 := by unfold YV.writeF; rw [if_neg hf]
      have e2 : y.write x.a x.s = y := by unfold YV.write; rw [if_neg hf]
      rw [if_pos e1, e2]
      exact h.more (by omega) (Nat.le_succ _)
  | wipe hk =>
    by_cases hf : y.s.chkF y.l x.a x.b = 0
    · obtain ⟨_, f0, n0, n1⟩ := SV.chk_ok h.yg.ok.ch.good hf
      have h1 : y.wipeF x.a x.b ≠ 1 := by
        unfold YV.wipeF
        rw [if_pos hf]
        exact wipe_ne1 h.yg.ok.ch.good h.yg.ok.s hf (by omega)
      rw [if_neg h1]
      obtain ⟨fr, e⟩ : ∃ fr : Nat, x.a = (fr : Int) := ⟨x.a.toNat, by omega⟩
      obtain ⟨N, e'⟩ : ∃ N : Nat, x.b = (N : Int) := ⟨x.b.toNat, by omega⟩
      rw [e, e'] at hf n1 ⊢
      obtain ⟨q1, q2, q3⟩ := h.yg.wipe hf (by omega)
      have hfr : ((fr : Int)).toNat = fr := Int.toNat_natCast fr
      have hN : ((N : Int)).toNat = N := Int.toNat_natCast N
      rw [hfr, hN]
      refine (h.laid (well := decide (y.wipeF (fr : Int) (N : Int) = 0)) q2 q3 (fun k k1 k2 => (chunk_nought (n := N) (i := k - fr) (by omega)).symm) ?_).more (by omega) (Nat.le_refl _)
      exact ⟨fun w => q1.yes (of_decide_eq_true w), q1.any⟩
    · have e1 : y.wipeF x.a x.b = 1 := by unfold YV.wipeF; rw [if_neg hf]
      have e2 : y.wipe x.a x.b = y := by unfold YV.wipe; rw [if_neg hf]
      rw [if_pos e1, e2]
      exact h.more (by omega) (Nat.le_succ _)
  | flush hk =>
    have h1 := one h.yg.flush (by omega)
    refine ⟨h1.yg, h1.now, fun k hk => ⟨(h1.len k hk).1, ?_⟩⟩
    show (if k < 4 * C then g.now k else g.cr k).length ≤ L + 1
    rw [if_pos hk]
    exact (h1.len k hk).1
  | blank hk => exact one (h.yg.blank x.a (-1) (by omega)) (by omega)
  | snap hk => exact one (h.yg.snap x.a (by omega)) (by omega)
  | start hk => exact one (h.yg.start (d := startK y x.a x.b x.c x.d) rfl (by omega)) (by omega)
  | pivot hk => exact one (sees_of (h.yg.pivot (by omega))) (by omega)
  | cancel hk => exact one (h.yg.cancel (by omega)) (by omega)
  | pause hk => exact one (h.yg.pause _) (by omega)
  | tick hk => exact one (h.yg.tick _) (by omega)
  | fail hk => exact one (h.yg.arm x.a x.b (by omega)) (by omega)
  | step => exact one (sees_of (h.yg.step (by omega))) (by omega)

/- What a guest reads is among what it may see; then it is so. -/
theorem Saw.text {y : YV} {C m L : Nat} {g : GV} (h : Saw y C m g L) : y.s.chkF y.l 0 ((4 * C : Nat) : Int) = 0 ∧ (y.s.getS y.l 0 ((4 * C : Nat) : Int)).size = 16 * (4 * C) ∧ ∀ k, k < 4 * C → chunk (y.s.getS y.l 0 ((4 * C : Nat) : Int)) k = y.s.sec y.l k := by
  obtain ⟨r, el⟩ := h.yg.ok.ch.head
  have hl : y.l ≠ [] := by rw [el]; exact List.cons_ne_nil _ _
  obtain ⟨v, hv, hc⟩ := h.yg.ok.ch.root
  have hcl : y.s.clusters y.l = (C : Int) := h.yg.ok.ch.good.clusters hl
  have hf : y.s.chkF y.l 0 ((4 * C : Nat) : Int) = 0 := by
    unfold SV.chkF
    rw [if_neg hl, if_neg (by rw [hcl]; omega)]
  have e : y.s.getS y.l 0 ((4 * C : Nat) : Int) = y.s.getTo y.l 0 (4 * C) := by
    unfold SV.getS
    rw [if_pos hf]
    rfl
  rw [e]
  refine ⟨hf, ?_, getTo_sec h.yg.ok.ch.good h.yg.ok.s hl _ (Nat.le_refl _)⟩
  rw [SV.getTo_size (fr := 0) h.yg.ok.ch.good h.yg.ok.s hl (4 * C) (by omega)]
  omega
theorem Saw.seen {y : YV} {C m L : Nat} {g : GV} (h : Saw y C m g L) (hL : 1 ≤ L) : Saw y C m { g with now := seenTo (y.s.getS y.l 0 ((4 * C : Nat) : Int)) g.now (4 * C) } L := by
  refine ⟨h.yg, fun k hk => ?_, fun k hk => ⟨?_, (h.len k hk).2⟩⟩
  · show _ ∈ (if k < 4 * C then [chunk _ k] else g.now k)
    rw [if_pos hk, h.text.2.2 k hk]
    exact List.mem_singleton.2 rfl
  · show (if k < 4 * C then [chunk _ k] else g.now k).length ≤ L
    rw [if_pos hk]
    exact hL
theorem Saw.made {c p : Int} (hk : (newH c p).ok = true) (hn : needN (newH c p) ≤ 200) : Saw (newY c p) c.toNat 20 ⟨fun _ => [noughts], fun _ => [noughts]⟩ 1 := by
  obtain ⟨h1, h2⟩ := newY_g hk hn
  exact ⟨h1, fun k _ => List.mem_singleton.2 (h2 _ _), fun k _ => ⟨Nat.le_refl _, Nat.le_refl _⟩⟩
end Go.Proofs.YtonhoahnieoebabGreatDoor

namespace Go.Proofs.YtonhoahnieoebabGreatDoor
open Go.RowKit Go.Maps
attribute [local go_sem ↓] Go.wp_at_zero Go.wp_at_succ

structure YNew (w : World) (yp k : Nat) (hs : Nat → Hd) (D : DV) (tv : Value) : Prop where
  blk : ∃ cur, w.heap[yp]? = some (.cells cur 168 (0, 0)) ∧ cur.size = 13 ∧ (∀ i, i < k → cur[i]? = some (.pointer (some ⟨(hs i).p, 0, none⟩))) ∧ cur[5]? = some tv ∧ (∀ i, i < 5 → cur[6 + i]? = some (.pointer none)) ∧ cur[11]? = some (.int .i64 0) ∧ cur[12]? = some (.pointer none)
  dev : ∀ i, i < k → IsDevG Gd.no w (hs i) D
  past : ∀ i, i < k → ∀ b, (hs i).fp b → yp < b
  apart : ∀ i j, i < k → j < k → i ≠ j → ∀ b, (hs i).fp b → ¬ (hs j).fp b

def setH (hs : Nat → Hd) (k : Nat) (h : Hd) : Nat → Hd := fun i => if i = k then h else hs i

theorem YNew.lt {w : World} {yp k : Nat} {hs : Nat → Hd} {D : DV} {tv : Value} (h : YNew w yp k hs D tv) : yp < w.heap.size := by
  obtain ⟨c, h1, _⟩ := h.blk
  exact lt_of_some h1
theorem YNew.below {w w' : World} {yp k : Nat} {hs : Nat → Hd} {D : DV} {tv : Value} (h : YNew w yp k hs D tv) (hb : Below w.heap.size w w') : YNew w' yp k hs D tv :=
  ⟨by rw [hb.block _ h.lt]; exact h.blk, fun i hi => (h.dev i hi).keep fun b hf => hb.block b ((h.dev i hi).lt b hf).2, h.past, h.apart⟩
theorem YNew.cell {w : World} {yp k : Nat} {hs : Nat → Hd} {D : DV} {tv : Value} (h : YNew w yp k hs D tv) (i : Nat) (hi : i < 13) : (∃ v, w.cell? ⟨yp, i, none⟩ = some v) ∧ w.frozen? ⟨yp, i, none⟩ = false := by
  obtain ⟨c, h1, h2, _⟩ := h.blk
  refine ⟨⟨c[i]'(by omega), ?_⟩, frozen_of_row w yp i _ _ h1⟩
  rw [cell_of_row w yp i _ _ _ h1]
  exact Array.getElem?_eq_getElem (by omega)
theorem YNew.devCell {w : World} {yp k : Nat} {hs : Nat → Hd} {D : DV} {tv : Value} (h : YNew w yp k hs D tv) {i : Nat} (hi : i < k) : w.cell? ⟨yp, i, none⟩ = some (.pointer (some ⟨(hs i).p, 0, none⟩)) := by
  obtain ⟨c, h1, h2, h3, _⟩ := h.blk
  rw [cell_of_row w yp i _ _ _ h1]; exact h3 i hi
theorem YNew.root {w : World} {yp k : Nat} {hs : Nat → Hd} {D : DV} {tv : Value} (h : YNew w yp k hs D tv) : w.cell? ⟨yp, 11, none⟩ = some (.int .i64 0) := by
  obtain ⟨c, h1, h2, h3, h4, h5, h6, h7⟩ := h.blk
  rw [cell_of_row w yp 11 _ _ _ h1]; exact h6

/- One device more. -/
theorem YNew.step {w w1 : World} {yp k : Nat} {hs : Nat → Hd} {D : DV} {tv : Value} (h : YNew w yp k hs D tv) (hk : k < 5) {d : Hd} (hb : Below w.heap.size w w1) {N : Nat} (hN : w.heap.size ≤ N) (hd : IsDev N w1 d D) :
    YNew (w1.setCell ⟨yp, k, none⟩ (.pointer (some ⟨d.p, 0, none⟩))) yp (k + 1) (setH hs k d) D tv := by
  have h1 := h.below hb
  obtain ⟨c, b1, b2, b3, b4, b5, b6, b7⟩ := h1.blk
  have hlt := h.lt
  have hset : ∀ b, b ≠ yp → (w1.setCell ⟨yp, k, none⟩ (.pointer (some ⟨d.p, 0, none⟩))).heap[b]? = w1.heap[b]? := fun b hb => heap_setCell_other _ _ _ _ hb
  refine ⟨⟨_, heap_setCell_same w1 yp k _ _ _ b1, by simpa using b2, fun i hi => ?_, ?_, fun i hi => ?_, ?_, ?_⟩, fun i hi => ?_, fun i hi b hf => ?_, fun i j hi hj hij b hf hf2 => ?_⟩
  · unfold setH
    by_cases e : i = k
    · rw [e, if_pos rfl, Array.getElem?_setIfInBounds_self_of_lt (by omega)]
    · rw [if_neg e, Array.getElem?_setIfInBounds_ne (fun e2 => e e2.symm)]; exact b3 i (by omega)
  · rw [Array.getElem?_setIfInBounds_ne (by omega)]; exact b4
  · rw [Array.getElem?_setIfInBounds_ne (by omega)]; exact b5 i hi
  · rw [Array.getElem?_setIfInBounds_ne (by omega)]; exact b6
  · rw [Array.getElem?_setIfInBounds_ne (by omega)]; exact b7
  · unfold setH
    by_cases e : i = k
    · rw [if_pos e]
      exact ⟨hd.base0.keep fun b hf => hset b (by have := (hd.lt b hf).1; omega), fun _ _ e => e⟩
    · rw [if_neg e]
      exact (h1.dev i (by omega)).keep fun b hf => hset b (by have := h1.past i (by omega) b hf; omega)
  · unfold setH at hf
    by_cases e : i = k
    · rw [if_pos e] at hf; have := (hd.lt b hf).1; omega
    · rw [if_neg e] at hf; exact h.past i (by omega) b hf
  · unfold setH at hf hf2
    by_cases e : i = k
    · have e2 : j ≠ k := fun e2 => hij (by rw [e, e2])
      rw [if_pos e] at hf
      rw [if_neg e2] at hf2
      have q1 := (hd.lt b hf).1
      have q2 := ((h.dev j (by omega)).lt b hf2).2
      omega
    · rw [if_neg e] at hf
      by_cases e2 : j = k
      · rw [if_pos e2] at hf2
        have q1 := (hd.lt b hf2).1
        have q2 := ((h.dev i (by omega)).lt b hf).2
        omega
      · rw [if_neg e2] at hf2; exact h.apart i j (by omega) (by omega) hij b hf hf2

/- The desk's device. -/
theorem YNew.topped {w w1 : World} {yp : Nat} {hs : Nat → Hd} {D : DV} {tv : Value} (h : YNew w yp 5 hs D tv) {d : Hd} (hb : Below w.heap.size w w1) :
    YNew (w1.setCell ⟨yp, 5, none⟩ (.pointer (some ⟨d.p, 0, none⟩))) yp 5 hs D (.pointer (some ⟨d.p, 0, none⟩)) := by
  have h1 := h.below hb
  obtain ⟨c, b1, b2, b3, b4, b5, b6, b7⟩ := h1.blk
  have hset : ∀ b, b ≠ yp → (w1.setCell ⟨yp, 5, none⟩ (.pointer (some ⟨d.p, 0, none⟩))).heap[b]? = w1.heap[b]? := fun b hb => heap_setCell_other _ _ _ _ hb
  refine ⟨⟨_, heap_setCell_same w1 yp 5 _ _ _ b1, by simpa using b2, fun i hi => ?_, ?_, fun i hi => ?_, ?_, ?_⟩, fun i hi => ?_, h1.past, h1.apart⟩
  · rw [Array.getElem?_setIfInBounds_ne (by omega)]; exact b3 i hi
  · rw [Array.getElem?_setIfInBounds_self_of_lt (by omega)]
  · rw [Array.getElem?_setIfInBounds_ne (by omega)]; exact b5 i hi
  · rw [Array.getElem?_setIfInBounds_ne (by omega)]; exact b6
  · rw [Array.getElem?_setIfInBounds_ne (by omega)]; exact b7
  · exact (h1.dev i hi).keep fun b hf => hset b (by have := h1.past i hi b hf; omega)

def newJb : Jh := ⟨0, 0, 0, none, 0⟩

/- The file 0 is an image: it is a yard. -/
theorem YNew.yard {w w1 : World} {yp : Nat} {hs : Nat → Hd} {c p : Int} {t : Hd} {x : Ih} (h : YNew w yp 5 hs (newDev (needN (newH c p))) (.pointer (some ⟨t.p, 0, none⟩))) (ht : IsDevG Gd.no w t (newDev 1)) (htp : ∀ b, t.fp b → yp < b) (hta : ∀ i, i < 5 → ∀ b, t.fp b → ¬ (hs i).fp b)
    (hm : Moved (hs 0).fp w x.fp w1) (hx : IsImg Gd.no w1 x (crV (newDev (needN (newH c p))) (newH c p))) (hp : x.h.p = (hs 0).p) :
    IsYard (w1.setCell ⟨yp, 6, none⟩ (.pointer (some ⟨x.p, 0, none⟩))) yp ⟨hs, t, fun _ => x, newJb⟩ (newY0 c p) ∧ ∀ b, fpY yp ⟨hs, t, fun _ => x, newJb⟩ (newY0 c p) b → b = yp ∨ (∃ i, i < 5 ∧ (hs i).fp b) ∨ t.fp b ∨ w.heap.size ≤ b := by
  obtain ⟨cu, b1, b2, b3, b4, b5, b6, b7⟩ := h.blk
  have hyp : ¬ (hs 0).fp yp := fun e => by have := h.past 0 (by omega) yp e; omega
  have hblk : w1.heap[yp]? = w.heap[yp]? := hm.block h.lt hyp
  have hset : ∀ b, b ≠ yp → (w1.setCell ⟨yp, 6, none⟩ (.pointer (some ⟨x.p, 0, none⟩))).heap[b]? = w1.heap[b]? := fun b hb => heap_setCell_other _ _ _ _ hb
  have hs0 : (newY0 c p).s 0 = some (crV (newDev (needN (newH c p))) (newH c p)) := rfl
  have hsn : ∀ i, i ≠ 0 → (newY0 c p).s i = none := fun i hi => by
    have e : (newY0 c p).s i = if i = 0 then some (crV (newDev (needN (newH c p))) (newH c p)) else none := rfl
    rw [e, if_neg hi]
  have hfx : ∀ b, x.fp b → (hs 0).fp b ∨ w.heap.size ≤ b := fun b e => hm.new b e
  have hxy : ∀ b, x.fp b → b ≠ yp := fun b e e2 => by
    rcases hfx b e with e3 | e3
    · exact hyp (by rw [← e2]; exact e3)
    · have := h.lt; omega
  have hkeep : ∀ i, i < 5 → i ≠ 0 → ∀ b, (hs i).fp b → (w1.setCell ⟨yp, 6, none⟩ (.pointer (some ⟨x.p, 0, none⟩))).heap[b]? = w.heap[b]? := fun i hi h0 b hf => by
    rw [hset b (by have := h.past i hi b hf; omega)]
    exact hm.block ((h.dev i hi).lt b hf).2 (fun e => h.apart i 0 hi (by omega) h0 b hf e)
  refine ⟨⟨⟨_, heap_setCell_same w1 yp 6 _ _ _ (hblk.trans b1), fun i hi => ?_, ?_, fun i hi => ?_, ?_, ?_⟩, fun i v hi hv => ?_, fun i hi hv => ?_, ?_, fun i j hi hj hij b hf hf2 => ?_, fun i hi b hf hf2 => ?_, fun j hj => (by cases hj)⟩, fun b hf => ?_⟩
  · rw [Array.getElem?_setIfInBounds_ne (by omega), b3 i hi]
    by_cases e : i = 0
    · subst e; rw [Yh.dp_some hs0]; show some (Value.pointer (some ⟨(hs 0).p, 0, none⟩)) = some (Value.pointer (some ⟨x.h.p, 0, none⟩)); rw [hp]
    · rw [Yh.dp_none (hsn i e)]
  · rw [Array.getElem?_setIfInBounds_ne (by omega)]; exact b4
  · by_cases e : i = 0
    · subst e; rw [Array.getElem?_setIfInBounds_self_of_lt (by omega), hs0]; rfl
    · rw [Array.getElem?_setIfInBounds_ne (by omega), b5 i hi, hsn i e]; rfl
  · rw [Array.getElem?_setIfInBounds_ne (by omega)]; exact b6
  · rw [Array.getElem?_setIfInBounds_ne (by omega)]; exact b7
  · by_cases e : i = 0
    · subst e
      rw [hs0] at hv
      cases hv
      exact hx.keepAll fun b hf => hset b (hxy b hf)
    · rw [hsn i e] at hv; cases hv
  · by_cases e : i = 0
    · subst e; rw [hs0] at hv; cases hv
    · exact (h.dev i hi).keep fun b hf => hkeep i hi e b hf
  · exact ht.keep fun b hf => by
      rw [hset b (by have := htp b hf; omega)]
      exact hm.block (ht.lt b hf).2 (hta 0 (by omega) b hf)
  · have key : ∀ i, i < 5 → i ≠ 0 → (hs i).fp b → ¬ x.fp b := fun i hi h0 e e2 => by
      rcases hfx b e2 with e3 | e3
      · exact h.apart i 0 hi (by omega) h0 b e e3
      · have := ((h.dev i hi).lt b e).2; omega
    by_cases ei : i = 0
    · have ej : j ≠ 0 := fun e => hij (by rw [ei, e])
      subst ei
      rw [Yh.fpF_some hs0] at hf
      rw [Yh.fpF_none (hsn j ej)] at hf2
      exact key j hj ej hf2 hf
    · rw [Yh.fpF_none (hsn i ei)] at hf
      by_cases ej : j = 0
      · subst ej; rw [Yh.fpF_some hs0] at hf2; exact key i hi ei hf hf2
      · rw [Yh.fpF_none (hsn j ej)] at hf2; exact h.apart i j hi hj hij b hf hf2
  · by_cases ei : i = 0
    · subst ei
      rw [Yh.fpF_some hs0] at hf2
      rcases hfx b hf2 with e3 | e3
      · exact hta 0 (by omega) b hf e3
      · have := (ht.lt b hf).2; omega
    · rw [Yh.fpF_none (hsn i ei)] at hf2; exact hta i hi b hf hf2
  · rcases hf with e | ⟨i, hi, e⟩ | e | e
    · exact .inl e
    · by_cases ei : i = 0
      · subst ei
        rw [Yh.fpF_some hs0] at e
        rcases hfx b e with e3 | e3
        · exact .inr (.inl ⟨0, by omega, e3⟩)
        · exact .inr (.inr (.inr e3))
      · rw [Yh.fpF_none (hsn i ei)] at e; exact .inr (.inl ⟨i, hi, e⟩)
    · exact .inr (.inr (.inl e))
    · exact absurd rfl e.1
end Go.Proofs.YtonhoahnieoebabGreatDoor

namespace Go.Proofs.YtonhoahnieoebabGreatDoor
open Go.RowKit Go.Maps
attribute [local go_sem ↓] Go.wp_at_zero Go.wp_at_succ

def headC (c p b : Int) : Obj := .cells #[.int .i64 c, .int .i64 p, .int .i64 b] 103 (0, 0)
def yardC : Obj := .cells #[.pointer none, .pointer none, .pointer none, .pointer none, .pointer none, .pointer none, .pointer none, .pointer none, .pointer none, .pointer none, .pointer none, .int .i64 0, .pointer none] 168 (0, 0)

theorem YNew.start (w : World) (D : DV) : YNew (w.alloc yardC) w.heap.size 0 (fun _ => ⟨0, 0, 0, 0, 0, .nilIface⟩) D (.pointer none) := by
  refine ⟨⟨_, heap_alloc_new w _, rfl, fun i hi => (by omega), rfl, fun i hi => ?_, rfl, rfl⟩, fun i hi => (by omega), fun i hi => (by omega), fun i _ hi => (by omega)⟩
  match i, hi with
  | 0, _ => rfl
  | 1, _ => rfl
  | 2, _ => rfl
  | 3, _ => rfl
  | 4, _ => rfl

/- What the loop holds: the yard so far, and the head's box. -/
structure Making (w : World) (c p : Int) (yp k : Nat) (tv : Value) (wr : World) : Prop where
  yard : ∃ hs, YNew wr yp k hs (newDev (needN (newH c p))) tv
  yp : w.heap.size < yp
  box : wr.heap[w.heap.size]? = some (headC c p (-1))
  bel : Below w.heap.size w wr

theorem Making.boxes {w wr : World} {c p : Int} {yp k : Nat} {tv : Value} (h : Making w c p yp k tv wr) : wr.cell? ⟨w.heap.size, 0, none⟩ = some (.int .i64 c) ∧ wr.cell? ⟨w.heap.size, 1, none⟩ = some (.int .i64 p) ∧ wr.cell? ⟨w.heap.size, 2, none⟩ = some (.int .i64 (-1)) := by
  have hb := h.box
  unfold headC at hb
  refine ⟨?_, ?_, ?_⟩ <;> (rw [cell_of_row _ _ _ _ _ _ hb]; rfl)
theorem Making.below {w wr w' : World} {c p : Int} {yp k : Nat} {tv : Value} (h : Making w c p yp k tv wr) (hb : Below wr.heap.size wr w') : Making w c p yp k tv w' := by
  obtain ⟨hs, h1⟩ := h.yard
  exact ⟨⟨hs, h1.below hb⟩, h.yp, (hb.block _ (lt_of_some h.box)).trans h.box, h.bel.trans (hb.mono h.bel.size)⟩

/- With the desk's device. -/
structure Topped (w : World) (c p : Int) (yp : Nat) (wr : World) : Prop where
  yard : ∃ (hs : Nat → Hd) (t : Hd), YNew wr yp 5 hs (newDev (needN (newH c p))) (.pointer (some ⟨t.p, 0, none⟩)) ∧ IsDevG Gd.no wr t (newDev 1) ∧ (∀ b, t.fp b → yp < b) ∧ ∀ i, i < 5 → ∀ b, t.fp b → ¬ (hs i).fp b
  yp : w.heap.size < yp
  box : wr.heap[w.heap.size]? = some (headC c p (-1))
  bel : Below w.heap.size w wr

theorem Making.top {w W w' : World} {c p : Int} {yp : Nat} (h : Making w c p yp 5 (.pointer none) W) (hb : Below W.heap.size W w') {t : Hd} (ht : IsDev W.heap.size w' t (newDev 1)) : Topped w c p yp (w'.setCell ⟨yp, 5, none⟩ (.pointer (some ⟨t.p, 0, none⟩))) := by
  obtain ⟨hs, hy⟩ := h.yard
  have hyp := h.yp
  have hyl := hy.lt
  have h' := h.below hb
  refine ⟨⟨hs, t, hy.topped hb, ⟨ht.base0.keep fun b hf => heap_setCell_other _ _ _ _ (fun e => by have := (ht.lt b hf).1; have e2 : b = yp := e; omega), fun _ _ e => e⟩, fun b hf => by have := (ht.lt b hf).1; omega, fun i hi b hf hf2 => ?_⟩, h.yp, ?_, h'.bel.setCell (by show w.heap.size ≤ yp; omega) _⟩
  · have q1 := (ht.lt b hf).1
    have q2 := ((hy.dev i hi).lt b hf2).2
    omega
  · rw [heap_setCell_other _ _ _ _ (by show w.heap.size ≠ yp; omega)]; exact h'.box

theorem newDev_put (n : Nat) : (newDev n).putF = 0 := by unfold DV.putF; rw [newDev_nf]; rfl

/- The file 0 is made. -/
theorem Topped.create {w W : World} {c p : Int} {yp : Nat} (hk : (newH c p).ok = true) (hn : needN (newH c p) ≤ 200) (h : Topped w c p yp W) : ∃ dp : Nat, W.cell? ⟨yp, 11, none⟩ = some (.int .i64 0) ∧ W.cell? ⟨yp, 0, none⟩ = some (.pointer (some ⟨dp, 0, none⟩)) ∧
    ∀ W' : World, Below W.heap.size W W' → Calls Tryz.prog 60 #[.pointer (some ⟨dp, 0, none⟩), .agg #[.int .i64 c, .int .i64 p, .int .i64 (-1)]] W' fun e w' => ∃ xp : Nat, e = .returned (.tuple #[.pointer (some ⟨xp, 0, none⟩), .nilIface]) ∧
      (w'.cell? ⟨yp, 11, none⟩ = some (.int .i64 0) ∧ w'.cell? ⟨yp, 0, none⟩ = some (.pointer (some ⟨dp, 0, none⟩)) ∧ w'.cell? ⟨w.heap.size, 0, none⟩ = some (.int .i64 c) ∧ w'.cell? ⟨w.heap.size, 1, none⟩ = some (.int .i64 p) ∧ w'.cell? ⟨w.heap.size, 2, none⟩ = some (.int .i64 (-1))) ∧ (∃ v, w'.cell? ⟨yp, 6, none⟩ = some v) ∧ w'.frozen? ⟨yp, 6, none⟩ = false ∧
      ((w'.setCell ⟨yp, 6, none⟩ (.pointer (some ⟨xp, 0, none⟩))).cell? ⟨yp, 11, none⟩ = some (.int .i64 0) ∧ (w'.setCell ⟨yp, 6, none⟩ (.pointer (some ⟨xp, 0, none⟩))).cell? ⟨yp, 0, none⟩ = some (.pointer (some ⟨dp, 0, none⟩)) ∧ (w'.setCell ⟨yp, 6, none⟩ (.pointer (some ⟨xp, 0, none⟩))).cell? ⟨w.heap.size, 0, none⟩ = some (.int .i64 c) ∧ (w'.setCell ⟨yp, 6, none⟩ (.pointer (some ⟨xp, 0, none⟩))).cell? ⟨w.heap.size, 1, none⟩ = some (.int .i64 p) ∧ (w'.setCell ⟨yp, 6, none⟩ (.pointer (some ⟨xp, 0, none⟩))).cell? ⟨w.heap.size, 2, none⟩ = some (.int .i64 (-1))) ∧
      ∃ Y : Yh, IsYard (w'.setCell ⟨yp, 6, none⟩ (.pointer (some ⟨xp, 0, none⟩))) yp Y (newY0 c p) ∧ (∀ b, fpY yp Y (newY0 c p) b → w.heap.size ≤ b) ∧ Below w.heap.size w (w'.setCell ⟨yp, 6, none⟩ (.pointer (some ⟨xp, 0, none⟩))) := by
  obtain ⟨hs, t, hy, ht, htp, hta⟩ := h.yard
  have hyp := h.yp
  refine ⟨(hs 0).p, hy.root, hy.devCell (by omega), fun W' hb => ?_⟩
  have hy' := hy.below hb
  have ht' : IsDevG Gd.no W' t (newDev 1) := ht.keep fun b hf => hb.block b (ht.lt b hf).2
  have hd0 := hy'.dev 0 (by omega)
  have hfine := newDev_fine (n := needN (newH c p)) (by unfold needN beginN; omega) hn
  have hlen : (newDev (needN (newH c p))).fl.length = needN (newH c p) := List.length_replicate
  refine (create_all c p (-1) W' hd0.butG hfine (by omega) (Nat.le_refl _)).mono ?_
  rintro e w' ⟨x, hxp, _, hkp, h4 | h4⟩
  · obtain ⟨_, rfl, hi, _, _⟩ := h4
    have hm : Moved (hs 0).fp W' x.fp w' := but_moved hkp (fun _ e => e.1) hi.out
    have hyn : ¬ (hs 0).fp yp := fun e => by have := hy'.past 0 (by omega) yp e; omega
    have hxn : ¬ (hs 0).fp w.heap.size := fun e => by have := hy'.past 0 (by omega) _ e; omega
    have hby : w'.heap[yp]? = W'.heap[yp]? := hm.block hy'.lt hyn
    have hbx : w'.heap[w.heap.size]? = some (headC c p (-1)) := by rw [hm.block (by have := hy'.lt; omega) hxn, hb.block _ (lt_of_some h.box)]; exact h.box
    obtain ⟨⟨v, q1⟩, q2⟩ := hy'.cell 6 (by omega)
    obtain ⟨hY, hf⟩ := hy'.yard ht' htp hta hm (hi.re fun _ _ e => e) hxp
    have hbx2 := hbx
    unfold headC at hbx2
    have s11 := (World.cell?_of_block hby).trans hy'.root
    have s0 := (World.cell?_of_block hby).trans (hy'.devCell (show 0 < 5 by omega))
    have z0 : w'.cell? ⟨w.heap.size, 0, none⟩ = some (.int .i64 c) := by rw [cell_of_row _ _ _ _ _ _ hbx2]; rfl
    have z1 : w'.cell? ⟨w.heap.size, 1, none⟩ = some (.int .i64 p) := by rw [cell_of_row _ _ _ _ _ _ hbx2]; rfl
    have z2 : w'.cell? ⟨w.heap.size, 2, none⟩ = some (.int .i64 (-1)) := by rw [cell_of_row _ _ _ _ _ _ hbx2]; rfl
    have hne : ∀ i, (⟨yp, 6, none⟩ : Addr) ≠ ⟨w.heap.size, i, none⟩ := fun i e => by injection e; omega
    refine ⟨x.p, rfl, ⟨s11, s0, z0, z1, z2⟩, ⟨v, (World.cell?_of_block hby).trans q1⟩, (World.frozen?_of_block hby).trans q2, ⟨?_, ?_, ?_, ?_, ?_⟩, _, hY, fun b hb2 => ?_, ?_⟩
    · rw [World.cell?_setCell_other _ _ _ _ (by intro e; injection e with _ e; omega)]; exact s11
    · rw [World.cell?_setCell_other _ _ _ _ (by intro e; injection e with _ e; omega)]; exact s0
    · rw [World.cell?_setCell_other _ _ _ _ (hne 0)]; exact z0
    · rw [World.cell?_setCell_other _ _ _ _ (hne 1)]; exact z1
    · rw [World.cell?_setCell_other _ _ _ _ (hne 2)]; exact z2
    · rcases hf b hb2 with e | ⟨i, hi, e⟩ | e | e
      · omega
      · have := hy.past i hi b e; omega
      · have := htp b e; omega
      · have := h.bel.size; have := hb.size; omega
    · have hbW := h.bel.trans (hb.mono h.bel.size)
      exact (hbW.trans (hm.below hbW.size fun b e => by have := hy'.past 0 (by omega) b e; omega)).setCell (by show w.heap.size ≤ yp; omega) _
  · exact absurd (newCr hk (Nat.le_refl _)) h4.1

set_option maxRecDepth 100000 in
set_option maxHeartbeats 2000000 in
theorem ynew_good (c p : Int) (w : World) (hk : (newH c p).ok = true) (hn : needN (newH c p) ≤ 200) :
    Calls Tryz.prog 30 #[.int .i64 c, .int .i64 p] w fun e w' => ∃ (yp : Nat) (Y : Yh), e = .returned (.tuple #[.pointer (some ⟨yp, 0, none⟩), .nilIface]) ∧ IsYard w' yp Y (newY c p) ∧ (∀ b, fpY yp Y (newY c p) b → w.heap.size ≤ b) ∧ Below w.heap.size w w' := by
  have HB0 : Hid (Below w.heap.size w (w.alloc (headC c p (-1)))) := (Below.refl _ _).alloc (Nat.le_refl _) _
  have HCH : Hid (Calls Tryz.prog 100 #[.agg #[.int .i64 c, .int .i64 p, .int .i64 (-1)]] (w.alloc (headC c p (-1))) fun e w' => e = .returned .nilIface ∧ ∀ N, N = w'.heap.size → Making w c p N 0 (.pointer none) (w'.alloc yardC)) := by
    have := checkHead_any c p (-1) (w.alloc (headC c p (-1)))
    rw [show HV.fault ⟨c, p, -1⟩ = 0 by unfold HV.fault; rw [show HV.ok ⟨c, p, -1⟩ = true from hk]; rfl, erV_0] at this
    refine this.mono ?_
    rintro e w' ⟨rfl, hb⟩
    refine ⟨rfl, fun N hN => ?_⟩
    subst hN
    have hz : w.heap.size < w'.heap.size := by have := hb.size; simp at this; omega
    exact ⟨⟨_, YNew.start w' _⟩, hz, (Below.heap_alloc w' _ _ hz).trans ((hb.block _ (by simp)).trans (heap_alloc_new w _)), (HB0.out.trans (hb.mono HB0.out.size)).alloc (Nat.le_of_lt hz) _⟩
  have HND : Hid (∀ W : World, Calls Tryz.prog 101 #[.agg #[.int .i64 c, .int .i64 p, .int .i64 (-1)]] W fun e w' => e = .returned (.int .i64 (needN (newH c p) : Int)) ∧ Below W.heap.size W w') := fun W => need_any c p (-1) W hk
  have hn1 : 1 ≤ needN (newH c p) := by unfold needN beginN; omega
  have HDN : Hid (∀ (k yp : Nat) (W : World), k < 5 → Making w c p yp k (.pointer none) W → Calls Tryz.prog 59 #[.int .i64 (needN (newH c p) : Int)] W fun e w' => ∃ dp : Nat, e = .returned (.tuple #[.pointer (some ⟨dp, 0, none⟩), .nilIface]) ∧ (∃ v, w'.cell? ⟨yp, k, none⟩ = some v) ∧ w'.frozen? ⟨yp, k, none⟩ = false ∧ (w'.cell? ⟨w.heap.size, 0, none⟩ = some (.int .i64 c) ∧ w'.cell? ⟨w.heap.size, 1, none⟩ = some (.int .i64 p) ∧ w'.cell? ⟨w.heap.size, 2, none⟩ = some (.int .i64 (-1))) ∧ Making w c p yp (k + 1) (.pointer none) (w'.setCell ⟨yp, k, none⟩ (.pointer (some ⟨dp, 0, none⟩)))) := fun k yp W hk5 hM => by
    obtain ⟨hs, hy⟩ := hM.yard
    refine (new_yes (needN (newH c p)) W hn1 hn).mono ?_
    rintro e w' ⟨d, rfl, hd, hb⟩
    obtain ⟨⟨v, q1⟩, q2⟩ := (hy.below hb).cell k (by omega)
    have hM' := hM.below hb
    have hyp := hM.yp
    refine ⟨d.p, rfl, ⟨v, q1⟩, q2, hM'.boxes, ⟨_, hy.step hk5 hb (Nat.le_refl _) hd⟩, hM.yp, ?_, hM'.bel.setCell (by show w.heap.size ≤ yp; omega) _⟩
    rw [heap_setCell_other _ _ _ _ (by show w.heap.size ≠ yp; omega)]; exact hM'.box
  have HTN : Hid (∀ (yp : Nat) (W : World), Making w c p yp 5 (.pointer none) W → Calls Tryz.prog 59 #[.int .i64 1] W fun e w' => ∃ tp : Nat, e = .returned (.tuple #[.pointer (some ⟨tp, 0, none⟩), .nilIface]) ∧ (∃ v, w'.cell? ⟨yp, 5, none⟩ = some v) ∧ w'.frozen? ⟨yp, 5, none⟩ = false ∧ Topped w c p yp (w'.setCell ⟨yp, 5, none⟩ (.pointer (some ⟨tp, 0, none⟩)))) := fun yp W hM => by
    refine (new_yes 1 W (by omega) (by omega)).mono ?_
    rintro e w' ⟨t, rfl, ht, hb⟩
    obtain ⟨hs, hy⟩ := hM.yard
    obtain ⟨⟨v, q1⟩, q2⟩ := (hy.below hb).cell 5 (by omega)
    exact ⟨t.p, rfl, ⟨v, q1⟩, q2, hM.top hb ht⟩
  have HCR : Hid (∀ (yp : Nat) (W : World), Topped w c p yp W → _) := fun yp W hT => hT.create hk hn
  have HBX : Hid (∀ (yp : Nat) (W : World), Topped w c p yp W → W.cell? ⟨w.heap.size, 0, none⟩ = some (.int .i64 c) ∧ W.cell? ⟨w.heap.size, 1, none⟩ = some (.int .i64 p) ∧ W.cell? ⟨w.heap.size, 2, none⟩ = some (.int .i64 (-1))) := fun yp W hT => by
    have hb := hT.box
    unfold headC at hb
    refine ⟨?_, ?_, ?_⟩ <;> (rw [cell_of_row _ _ _ _ _ _ hb]; rfl)
  have HDK : Hid (∀ (yp : Nat) (Y : Yh) (W W' : World), IsYard W yp Y (newY0 c p) → (∀ b, fpY yp Y (newY0 c p) b → w.heap.size ≤ b) → Below w.heap.size w W → Below W.heap.size W W' → Calls Tryz.prog 102 #[.pointer (some ⟨yp, 0, none⟩), .agg #[.int .i64 (bareK 0).root, .int .i64 (bareK 0).kind, .int .i64 (bareK 0).file, .int .i64 (bareK 0).rate, .int .i64 (bareK 0).burst]] W' fun e w' => e = .returned .nilIface ∧ ∃ Y', IsYard w' yp Y' (newY c p) ∧ (∀ b, fpY yp Y' (newY c p) b → w.heap.size ≤ b) ∧ Below w.heap.size w w') := fun yp Y W W' hY hf hb hb2 => by
    have := ydesk_any (m := 0) (bareK 0) W' (hY.below hb2) (newDev_fine (n := 1) (by omega) (by omega)) (bareK_fault (by omega) (by omega)) (by omega)
    rw [show (newY0 c p).deskF = 0 from newDev_put 1, erV_0] at this
    refine this.mono ?_
    rintro e w' ⟨rfl, Y', _, h1, h2⟩
    refine ⟨rfl, Y', h1, fun b hb3 => ?_, ?_⟩
    · rcases h2.new b hb3 with e | e
      · exact hf b e
      · have := hb.size; have := hb2.size; omega
    · have hbW := hb.trans (hb2.mono hb.size)
      exact hbW.trans (h2.below hbW.size hf)
  have HID : Hid (∀ W : World, Calls Tryz.prog 103 #[.int .i64 0] W fun e w' => e = .returned (.agg #[.int .i64 (bareK 0).root, .int .i64 (bareK 0).kind, .int .i64 (bareK 0).file, .int .i64 (bareK 0).rate, .int .i64 (bareK 0).burst]) ∧ Below W.heap.size W w') := fun W => yidle_any 0 W
  clear hk hn hn1
  generalize needN (newH c p) = nn at HND HDN
  unfold headC at HB0 HCH
  unfold yardC at HCH
  go_enter Tryz.func30, Tryz.ntmps30
  go_wp2_with fail
  refine HCH.out.mono ?_
  rintro e w1 ⟨rfl, hM0⟩
  have HM0 := toHid (hM0 _ rfl)
  clear hM0 HCH
  go_wp2
  generalize hyp : w1.heap.size = yp at HM0 ⊢
  generalize hWW : w1.alloc _ = W2 at HM0 ⊢
  clear hWW hyp HB0
  go_loopw [9, 21] (fun e i wr => e = .nilIface ∧ ∃ k : Nat, k ≤ 5 ∧ i = .int .i64 (k : Int) ∧ Making w c p yp k (.pointer none) wr) (fun _ i _ => 5 - (intOf i).toNat)
  case atStart => exact ⟨rfl, 0, by omega, rfl, HM0.out⟩
  case round =>
    clear HM0
    obtain ⟨rfl, k, hk, rfl, hM⟩ := hrel
    by_cases hlt : k < 5
    · have HMD : Hid (Making w c p yp k (.pointer none) wr.drew) := hM.below (Below.refl _ _).drew
      have HBD := toHid HMD.out.boxes
      clear hM
      have k0 : (0 : Int) ≤ (k : Int) := by omega
      have k5 : (k : Int) < 5 := by omega
      have k2 : ((k : Int)).toNat = k := by omega
      have k3 : IntKind.i64.wrap ((k : Int) + 1) = (k : Int) + 1 := IntWalk.i64_in _ (by omega)
      go_wp2
      go_region_held3 (fun W => W.cell? ⟨w.heap.size, 0, none⟩ = some (.int .i64 c) ∧ W.cell? ⟨w.heap.size, 1, none⟩ = some (.int .i64 p) ∧ W.cell? ⟨w.heap.size, 2, none⟩ = some (.int .i64 (-1)))
        (first | (exact HBD.out) | assumption)
        (first
          | (go_at_call 101; refine (HND.out _).mono ?_; rintro e w3 ⟨rfl, hb3⟩; have hM3 := HMD.out.below hb3; have hS3 := hM3.boxes; have HD3 := toHid (HDN.out k yp w3 hlt hM3); clear hb3 hM3)
          | (go_at_call 59; refine HD3.out.mono ?_; rintro e w4 ⟨dp, rfl, ⟨v, q1⟩, q2, hS4, hM4⟩; have HM4 := toHid hM4; have hS5 := hM4.boxes; clear hM4))
      go_wp2
      refine ⟨⟨rfl, k + 1, by omega, by simp, HM4.out⟩, ?_⟩
      simp only [intOf]
      omega
    · have hke : k = 5 := by omega
      subst hke
      have HT := toHid (HTN.out yp wr hM)
      clear hM HTN HDN HND
      go_wp2_with fail
      refine HT.out.mono ?_
      rintro e w4 ⟨tp, rfl, ⟨v, q1⟩, q2, hT⟩
      have HT5 := toHid hT
      clear hT HT
      go_upto_region 17 with fail
      generalize hW5 : w4.setCell ⟨yp, 5, none⟩ (.pointer (some ⟨tp, 0, none⟩)) = W5 at HT5 ⊢
      clear hW5 q1 q2
      obtain ⟨dp, r11, r0, hcr⟩ := HCR.out yp W5 HT5.out
      obtain ⟨x0, x1, x2⟩ := HBX.out yp W5 HT5.out
      have HC := toHid (hcr W5.drew (Below.refl _ _).drew)
      have HS5 : Hid (W5.drew.cell? ⟨yp, 11, none⟩ = some (.int .i64 0) ∧ W5.drew.cell? ⟨yp, 0, none⟩ = some (.pointer (some ⟨dp, 0, none⟩)) ∧ W5.drew.cell? ⟨w.heap.size, 0, none⟩ = some (.int .i64 c) ∧ W5.drew.cell? ⟨w.heap.size, 1, none⟩ = some (.int .i64 p) ∧ W5.drew.cell? ⟨w.heap.size, 2, none⟩ = some (.int .i64 (-1))) := ⟨r11, r0, x0, x1, x2⟩
      clear hcr HCR HBX HT5
      go_region_held3 (fun W => W.cell? ⟨yp, 11, none⟩ = some (.int .i64 0) ∧ W.cell? ⟨yp, 0, none⟩ = some (.pointer (some ⟨dp, 0, none⟩)) ∧ W.cell? ⟨w.heap.size, 0, none⟩ = some (.int .i64 c) ∧ W.cell? ⟨w.heap.size, 1, none⟩ = some (.int .i64 p) ∧ W.cell? ⟨w.heap.size, 2, none⟩ = some (.int .i64 (-1)))
        (first | (exact HS5.out) | assumption)
        (first
          | (go_at_call 60; refine HC.out.mono ?_; rintro e w6 ⟨xp, rfl, hS6, ⟨v6, q6⟩, qf6, hS7, Y, hY, hfp, hb6⟩; have HY := toHid hY; have HF := toHid hfp; have HB6 := toHid hb6; have c11 : (w6.setCell ⟨yp, 6, none⟩ (.pointer (some ⟨xp, 0, none⟩))).cell? ⟨yp, 11, none⟩ = some (.int .i64 0) := hY.blk.cells.2.2.2.1; clear hY hfp hb6))
      go_upto_region 20 with fail
      generalize hW7 : w6.setCell ⟨yp, 6, none⟩ (.pointer (some ⟨xp, 0, none⟩)) = W7 at HY HB6 c11 ⊢
      go_wp2_with fail
      refine (HID.out _).mono ?_
      rintro e w8 ⟨rfl, hb8⟩
      have HK := toHid (HDK.out yp Y _ w8 HY.out HF.out HB6.out hb8)
      clear hb8 HDK HID
      go_wp2_with fail
      refine HK.out.mono ?_
      rintro e w9 ⟨rfl, Y', h1, h2, h3⟩
      have H1 := toHid h1
      have H2 := toHid h2
      have H3 := toHid h3
      clear h1 h2 h3 HK
      go_wp2
      go_ret2
      exact ⟨yp, Y', rfl, H1.out, H2.out, H3.out⟩
end Go.Proofs.YtonhoahnieoebabGreatDoor
