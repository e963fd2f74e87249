/-
A new guest: the walk.
A yard and its guest are made.
Acts that came in: their second number is one of the language's.
TopGuest: its rounds.
An act of a top: what it leaves of what a guest saw, and that nothing is armed (but by 'fail').
What `did` does, in full: its contract stands for every yard of 1 to 32 clusters.
TopGuest's whole walk, without a condition on `did`.
-/
import Derived.Test.YtonhoahnieoebabGreatDoorQGuestP4
import Derived.Test.YtonhoahnieoebabGreatDoorQActs
import Derived.Deep.CutRange
import Derived.OwnWalk
import Derived.Test.YtonhoahnieoebabGreatDoorQGuestP2
import Derived.Test.YtonhoahnieoebabGreatDoorQYardN1
import Derived.Test.YtonhoahnieoebabGreatDoorQShapeDesk
import Derived.Test.YtonhoahnieoebabGreatDoorQYardGuest
import Derived.Test.YtonhoahnieoebabGreatDoorQYardWalk
import Derived.Test.YtonhoahnieoebabGreatDoorQYardGuest4
import Derived.Test.YtonhoahnieoebabGreatDoorQShowPlain
namespace Go.Proofs.YtonhoahnieoebabGreatDoor
open Go.RowKit Go.Maps
attribute [local go_sem ↓] Go.wp_at_zero Go.wp_at_succ

theorem Fresh.start (w : World) : Fresh w w.heap.size 0 0 (w.alloc (.cells #[.slice none 0 0, .slice none 0 0] 200)) :=
  ⟨⟨⟨.slice none 0 0, .slice none 0 0, fun _ => .nilIface, fun _ => .nilIface⟩, heap_alloc_new w _, IsT.nil _ _ _, IsT.nil _ _ _, fun k e => (fpT_nil e).elim, fun k e => (by rcases e with e | e <;> exact (fpT_nil e).elim)⟩, Nat.le_refl _, (Below.refl _ _).alloc (Nat.le_refl _) _⟩

theorem Fresh.done {w wr : World} {gp n : Nat} (h : Fresh w gp n n wr) : ∃ G : Gh, IsG wr gp G n ⟨fun _ => [noughts], fun _ => [noughts]⟩ ∧ (∀ k, fpG gp G n k → w.heap.size ≤ k) ∧ Below w.heap.size w wr := by
  obtain ⟨G, b1, b2, b3, b4, b5⟩ := h.ex
  refine ⟨G, ⟨b1, b2, b3, b4⟩, fun k e => ?_, h.bel⟩
  rcases e with e | e | e
  · rw [e]; exact h.gp
  · exact b5 k (.inl e)
  · exact b5 k (.inr e)

/- What an append to a table reads, and what it leaves. -/
structure Snoc (gp c n : Nat) (W : World) (v : Value) (xs : List Value) (P : World → Prop) : Prop where
  cell : W.cell? ⟨gp, c, none⟩ = some v
  lt : gp < W.heap.size
  row : W.ownsRow 0 202 1 v n xs
  fin : ∀ (w1 w2 : World) (u : Value) (g cap : Nat), Below W.heap.size W w1 → w1.ownsRow 0 9 1 u 1 (flS [noughts]) → (∀ k, u.ownBlock = some k → W.heap.size ≤ k) → w1.grownBy w2 v.ownBlock → w2.ownsRow 0 202 1 (.slice (some ⟨g, 0, none⟩) (n + 1) cap) (n + 1) (xs ++ [u]) → (v.ownBlock = some g ∨ W.heap.size ≤ g) →
      w2.cell? ⟨gp, c, none⟩ = some v ∧ w2.frozen? ⟨gp, c, none⟩ = false ∧ P (w2.setCell ⟨gp, c, none⟩ (.slice (some ⟨g, 0, none⟩) (n + 1) cap))

set_option maxRecDepth 100000 in
set_option maxHeartbeats 2000000 in
theorem fresh_any (n : Nat) (w : World) (hn : n ≤ 1000) :
    Calls Tryz.prog 49 #[.int .i64 (n : Int)] w fun e w' => ∃ (gp : Nat) (G : Gh), e = .returned (.pointer (some ⟨gp, 0, none⟩)) ∧ IsG w' gp G n ⟨fun _ => [noughts], fun _ => [noughts]⟩ ∧ (∀ k, fpG gp G n k → w.heap.size ≤ k) ∧ Below w.heap.size w w' := by
  obtain ⟨i3, hi3, hw0, hw1, hw2⟩ := info_parts info_worth
  have HST := toHid (Fresh.start w)
  have HN : Hid (∀ (k : Nat) (W : World), Fresh w w.heap.size k k W → ∃ v xs, Snoc w.heap.size 0 k W v xs (Fresh w w.heap.size (k + 1) k)) := fun k W h => by
    obtain ⟨v, xs, h1, h2, h3, h4⟩ := h.now
    exact ⟨v, xs, h1, h2, h3, h4⟩
  have HC : Hid (∀ (k : Nat) (W : World), Fresh w w.heap.size (k + 1) k W → ∃ v xs, Snoc w.heap.size 1 k W v xs (Fresh w w.heap.size (k + 1) (k + 1))) := fun k W h => by
    obtain ⟨v, xs, h1, h2, h3, h4⟩ := h.cr
    exact ⟨v, xs, h1, h2, h3, h4⟩
  have HDN : Hid (∀ W : World, Fresh w w.heap.size n n W → _) := fun W h => h.done
  go_enter Tryz.func49, Tryz.ntmps49
  go_wp2
  generalize hgp : w.heap.size = gp at HST HN HC HDN ⊢
  generalize hW0 : w.alloc _ = W0 at HST ⊢
  clear hW0
  go_loopw [4] (fun i wr => ∃ k : Nat, k ≤ n ∧ i = .int .i64 (k : Int) ∧ Fresh w gp k k wr) (fun i _ => n - (intOf i).toNat)
  case atStart => exact ⟨0, Nat.zero_le _, rfl, HST.out⟩
  case round =>
    clear HST
    obtain ⟨k, hk, rfl, hF⟩ := hrel
    by_cases hlt : k < n
    · obtain ⟨vN, xsN, hSN⟩ := HN.out k wr hF
      have HSN := toHid hSN
      clear hSN hF
      have k0 : (k : Int) < (n : Int) := by omega
      have k3 : IntKind.i64.wrap ((k : Int) + 1) = (k : Int) + 1 := IntWalk.i64_in _ (by omega)
      have HM : Hid (k + 1 ≤ maxLen) := by unfold Hid maxLen; omega
      go_upto_region 5 with fail
      go_cut [] from 7 to 33 (fun wx => Fresh w gp (k + 1) k wx)
      case first =>
        clear HN HC HDN
        have cN := HSN.out.cell
        have lN := HSN.out.lt
        have HFI := toHid HSN.out.fin
        have HRO := toHid HSN.out.row
        have dN : wr.drew.cell? ⟨gp, 0, none⟩ = some vN := cN
        clear HSN
        go_region_law (first
          | (refine step_append_lies _ (by rfl) _ _ 198 (by rfl) 0 202 i3 (.slice none 0 0) 1 24 Tryz.underlying198 hi3 hw0 hw1 hw2 rfl (by decide) vN k xsN (by rfl) HOW.out ⟨wn.heap.size + 1, 0, none⟩ 1 1 [.slice (some ⟨wn.heap.size, 0, none⟩) 1 1] (by rfl) (by rfl) HNW.out (fun u hu => by simp at hu; subst hu; rfl) (by decide) HM.out (by omega) (Nat.zero_le _) (wn.heap.size + 2) (by simp) ?_; intro g cap w2 hown hgrow hat hlt2; obtain ⟨p0, p1, hx⟩ := HFI.out _ w2 _ g cap HBN.out HRW.out HUB.out hgrow hown (by rcases hat with e | e; exact .inl e; exact .inr (by have := HSZ.out; omega)); have HX := toHid hx; clear hx hown hgrow hat hlt2)
          | (go_simp; go_at_call 72; refine (noughts_any _).mono ?_; rintro e wn ⟨rfl, hbn⟩
             have hbn2 : Below wr.heap.size wr wn := ⟨hbn.os, hbn.tape, hbn.output, hbn.size, hbn.block⟩
             have HSZ : Hid (wr.heap.size ≤ wn.heap.size) := hbn2.size
             have hwn : gp < wn.heap.size := Nat.lt_of_lt_of_le lN hbn2.size
             have cn : wn.cell? ⟨gp, 0, none⟩ = some vN := (hbn2.cell (p := ⟨gp, 0, none⟩) lN).trans cN
             have cna : (wn.alloc (.cells #[.string (bytesOf noughts)] 9)).cell? ⟨gp, 0, none⟩ = some vN := by rw [World.cell?_alloc_past _ _ _ hwn]; exact cn
             have cnb : ((wn.alloc (.cells #[.string (bytesOf noughts)] 9)).alloc (.cells #[.slice (some ⟨wn.heap.size, 0, none⟩) 1 1] 202)).cell? ⟨gp, 0, none⟩ = some vN := by rw [World.cell?_alloc_past _ _ _ (by simp; omega)]; exact cna
             have HBN : Hid (Below wr.heap.size wr ((wn.alloc (.cells #[.string (bytesOf noughts)] 9)).alloc (.cells #[.slice (some ⟨wn.heap.size, 0, none⟩) 1 1] 202))) := (hbn2.alloc hbn2.size _).alloc (by simp; have := hbn2.size; omega) _
             have HOW : Hid (((wn.alloc (.cells #[.string (bytesOf noughts)] 9)).alloc (.cells #[.slice (some ⟨wn.heap.size, 0, none⟩) 1 1] 202)).ownsRow 0 202 1 vN k xsN) := ownsRow_keep HRO.out (fun r e => HBN.out.block r (HRO.out.lt r e).2)
             have HRW : Hid (((wn.alloc (.cells #[.string (bytesOf noughts)] 9)).alloc (.cells #[.slice (some ⟨wn.heap.size, 0, none⟩) 1 1] 202)).ownsRow 0 9 1 (.slice (some ⟨wn.heap.size, 0, none⟩) 1 1) 1 (flS [noughts])) := (one_row wn noughts).alloc _
             have HUB : Hid (∀ q, (Value.slice (some ⟨wn.heap.size, 0, none⟩) 1 1).ownBlock = some q → wr.heap.size ≤ q) := fun q e => by
               have e2 : wn.heap.size = q := by simpa [Value.ownBlock] using e
               rw [← e2]; exact hbn2.size
             have HNW : Hid (∀ j u, ([.slice (some ⟨wn.heap.size, 0, none⟩) 1 1] : List Value)[j]? = some u → ((wn.alloc (.cells #[.string (bytesOf noughts)] 9)).alloc (.cells #[.slice (some ⟨wn.heap.size, 0, none⟩) 1 1] 202)).cell? ((⟨wn.heap.size + 1, 0, none⟩ : Addr).add j) = some u) := by
               have := cell_one_newG (wn.alloc (.cells #[.string (bytesOf noughts)] 9)) (.slice (some ⟨wn.heap.size, 0, none⟩) 1 1) 202
               rw [show (wn.alloc (.cells #[.string (bytesOf noughts)] 9)).heap.size = wn.heap.size + 1 by simp] at this
               exact this
             clear hbn hbn2))
        all_goals
          go_wp2
          go_meet
          case rel => exact HX.out
      case rest =>
        obtain ⟨vC, xsC, hSC⟩ := HC.out k wc hcut
        have HSC := toHid hSC
        clear hSC hcut HN HC HDN HSN
        go_upto_region 6 with fail
        have cC := HSC.out.cell
        have lC := HSC.out.lt
        have HFI := toHid HSC.out.fin
        have HRO := toHid HSC.out.row
        have dC : wc.drew.cell? ⟨gp, 1, none⟩ = some vC := cC
        clear HSC
        go_region_law (first
          | (refine step_append_lies _ (by rfl) _ _ 198 (by rfl) 0 202 i3 (.slice none 0 0) 1 24 Tryz.underlying198 hi3 hw0 hw1 hw2 rfl (by decide) vC k xsC (by rfl) HOW.out ⟨wn.heap.size + 1, 0, none⟩ 1 1 [.slice (some ⟨wn.heap.size, 0, none⟩) 1 1] (by rfl) (by rfl) HNW.out (fun u hu => by simp at hu; subst hu; rfl) (by decide) HM.out (by omega) (Nat.zero_le _) (wn.heap.size + 2) (by simp) ?_; intro g cap w2 hown hgrow hat hlt2; obtain ⟨p0, p1, hx⟩ := HFI.out _ w2 _ g cap HBN.out HRW.out HUB.out hgrow hown (by rcases hat with e | e; exact .inl e; exact .inr (by have := HSZ.out; omega)); have HX := toHid hx; clear hx hown hgrow hat hlt2)
          | (go_simp; go_at_call 72; refine (noughts_any _).mono ?_; rintro e wn ⟨rfl, hbn⟩
             have hbn2 : Below wc.heap.size wc wn := ⟨hbn.os, hbn.tape, hbn.output, hbn.size, hbn.block⟩
             have HSZ : Hid (wc.heap.size ≤ wn.heap.size) := hbn2.size
             have hwn : gp < wn.heap.size := Nat.lt_of_lt_of_le lC hbn2.size
             have cn : wn.cell? ⟨gp, 1, none⟩ = some vC := (hbn2.cell (p := ⟨gp, 1, none⟩) lC).trans cC
             have cna : (wn.alloc (.cells #[.string (bytesOf noughts)] 9)).cell? ⟨gp, 1, none⟩ = some vC := by rw [World.cell?_alloc_past _ _ _ hwn]; exact cn
             have cnb : ((wn.alloc (.cells #[.string (bytesOf noughts)] 9)).alloc (.cells #[.slice (some ⟨wn.heap.size, 0, none⟩) 1 1] 202)).cell? ⟨gp, 1, none⟩ = some vC := by rw [World.cell?_alloc_past _ _ _ (by simp; omega)]; exact cna
             have HBN : Hid (Below wc.heap.size wc ((wn.alloc (.cells #[.string (bytesOf noughts)] 9)).alloc (.cells #[.slice (some ⟨wn.heap.size, 0, none⟩) 1 1] 202))) := (hbn2.alloc hbn2.size _).alloc (by simp; have := hbn2.size; omega) _
             have HOW : Hid (((wn.alloc (.cells #[.string (bytesOf noughts)] 9)).alloc (.cells #[.slice (some ⟨wn.heap.size, 0, none⟩) 1 1] 202)).ownsRow 0 202 1 vC k xsC) := ownsRow_keep HRO.out (fun r e => HBN.out.block r (HRO.out.lt r e).2)
             have HRW : Hid (((wn.alloc (.cells #[.string (bytesOf noughts)] 9)).alloc (.cells #[.slice (some ⟨wn.heap.size, 0, none⟩) 1 1] 202)).ownsRow 0 9 1 (.slice (some ⟨wn.heap.size, 0, none⟩) 1 1) 1 (flS [noughts])) := (one_row wn noughts).alloc _
             have HUB : Hid (∀ q, (Value.slice (some ⟨wn.heap.size, 0, none⟩) 1 1).ownBlock = some q → wc.heap.size ≤ q) := fun q e => by
               have e2 : wn.heap.size = q := by simpa [Value.ownBlock] using e
               rw [← e2]; exact hbn2.size
             have HNW : Hid (∀ j u, ([.slice (some ⟨wn.heap.size, 0, none⟩) 1 1] : List Value)[j]? = some u → ((wn.alloc (.cells #[.string (bytesOf noughts)] 9)).alloc (.cells #[.slice (some ⟨wn.heap.size, 0, none⟩) 1 1] 202)).cell? ((⟨wn.heap.size + 1, 0, none⟩ : Addr).add j) = some u) := by
               have := cell_one_newG (wn.alloc (.cells #[.string (bytesOf noughts)] 9)) (.slice (some ⟨wn.heap.size, 0, none⟩) 1 1) 202
               rw [show (wn.alloc (.cells #[.string (bytesOf noughts)] 9)).heap.size = wn.heap.size + 1 by simp] at this
               exact this
             clear hbn hbn2))
        all_goals
          go_wp2
          go_roundw
          case rel =>
            have fin : ∃ k' : Nat, k' ≤ n ∧ Value.int .i64 ((k : Int) + 1) = .int .i64 k' ∧ Fresh w gp k' k' (w2.setCell ⟨gp, 1, none⟩ (.slice (some ⟨g, 0, none⟩) (k + 1) cap)) := ⟨k + 1, by omega, by go_num, HX.out⟩
            first | exact fin | ((repeat apply Exists.intro); exact ⟨fin, rfl⟩)
          case measure => simp [intOf]; omega
    · have hkn : k = n := by omega
      have k0 : ¬ (k : Int) < (n : Int) := by omega
      rw [hkn] at hF
      obtain ⟨G, h1, h2, h3⟩ := HDN.out _ hF
      have H1 := toHid h1
      have H2 := toHid h2
      have H3 := toHid h3
      clear hF h1 h2 h3 HN HC HDN
      go_wp2
      go_ret
      first | exact ⟨gp, G, rfl, H1.out, H2.out, H3.out⟩ | exact ⟨gp, rfl, G, H1.out, H2.out, H3.out⟩
end Go.Proofs.YtonhoahnieoebabGreatDoor

namespace Go.Proofs.YtonhoahnieoebabGreatDoor
open Go.RowKit Go.Maps
attribute [local go_sem ↓] Go.wp_at_zero Go.wp_at_succ

/- A yard without a job: where a job would lie is nothing to it. -/
theorem IsYard.noJob {w : World} {yp : Nat} {Y : Yh} {y : YV} (h : IsYard w yp Y y) (hj : y.j = none) (b : Jh) : IsYard w yp ⟨Y.ds, Y.tp, Y.xs, b⟩ y := by
  refine ⟨?_, h.img, h.dev, h.top, h.apart, h.apTop, fun j e => by rw [hj] at e; cases e⟩
  have := h.blk
  rw [hj] at this ⊢
  exact ⟨this.is⟩
theorem fpY_noJob {yp : Nat} {Y : Yh} {y : YV} (hj : y.j = none) {b : Jh} {k : Nat} (h : fpY yp ⟨Y.ds, Y.tp, Y.xs, b⟩ y k) : fpY yp Y y k := by
  rcases h with e | e | e | e
  · exact .inl e
  · exact .inr (.inl e)
  · exact .inr (.inr (.inl e))
  · exact absurd hj e.1

def gv0 : GV := ⟨fun _ => [noughts], fun _ => [noughts]⟩
/- May a yard be made? -/
def madeB (c p : Int) : Bool := decide (1 ≤ c ∧ c ≤ 32 ∧ 0 ≤ p ∧ p ≤ 40)

theorem need_le (c p : Int) (h : 1 ≤ c ∧ c ≤ 32 ∧ 0 ≤ p ∧ p ≤ 40) : (newH c p).ok = true ∧ needN (newH c p) ≤ 200 := by
  refine ⟨?_, ?_⟩
  · show decide (1 ≤ c ∧ c ≤ 32 ∧ 0 ≤ p ∧ p ≤ 40 ∧ (-1 : Int) ≤ -1 ∧ (-1 : Int) ≤ 4) = true
    exact decide_eq_true (by omega)
  · unfold needN beginN newH
    simp only []
    unfold rowsN
    show 1 + (c.toNat + 7) / 8 + 4 * p.toNat ≤ 200
    omega

set_option maxRecDepth 100000 in
set_option maxHeartbeats 1000000 in
theorem made_no (c p : Int) (w : World) (h : madeB c p = false) :
    Calls Tryz.prog 41 #[.int .i64 c, .int .i64 p] w fun e w' => e = .returned (.tuple #[.pointer none, .pointer none, .bool false]) ∧ w' = w := by
  have h' : ¬ (1 ≤ c ∧ c ≤ 32 ∧ 0 ≤ p ∧ p ≤ 40) := of_decide_eq_false h
  clear h
  by_cases h1 : c < 1
  · have f1 : decide (c < 1) = true := decide_eq_true h1
    clear h'
    go_enter Tryz.func41, Tryz.ntmps41
    go_wp2
    go_ret3
    exact ⟨rfl, rfl⟩
  by_cases h2 : 32 < c
  · have f1 : decide (c < 1) = false := decide_eq_false h1
    have f2 : decide (32 < c) = true := decide_eq_true h2
    clear h'
    go_enter Tryz.func41, Tryz.ntmps41
    go_wp2
    go_ret3
    exact ⟨rfl, rfl⟩
  by_cases h3 : p < 0
  · have f1 : decide (c < 1) = false := decide_eq_false h1
    have f2 : decide (32 < c) = false := decide_eq_false h2
    have f3 : decide (p < 0) = true := decide_eq_true h3
    clear h'
    go_enter Tryz.func41, Tryz.ntmps41
    go_wp2
    go_ret3
    exact ⟨rfl, rfl⟩
  · have f1 : decide (c < 1) = false := decide_eq_false h1
    have f2 : decide (32 < c) = false := decide_eq_false h2
    have f3 : decide (p < 0) = false := decide_eq_false h3
    have f4 : decide (40 < p) = true := decide_eq_true (by omega)
    clear h'
    go_enter Tryz.func41, Tryz.ntmps41
    go_wp2
    go_ret3
    exact ⟨rfl, rfl⟩

set_option maxRecDepth 100000 in
set_option maxHeartbeats 1000000 in
theorem made_yes (c p : Int) (w : World) (h : madeB c p = true) :
    Calls Tryz.prog 41 #[.int .i64 c, .int .i64 p] w fun e w' => ∃ (yp gp : Nat) (Y : Yh) (G : Gh), e = .returned (.tuple #[.pointer (some ⟨yp, 0, none⟩), .pointer (some ⟨gp, 0, none⟩), .bool true]) ∧ YGd w.heap.size w w' yp Y (newY c p) gp G (4 * c.toNat) gv0 := by
  have h' : 1 ≤ c ∧ c ≤ 32 ∧ 0 ≤ p ∧ p ≤ 40 := of_decide_eq_true h
  clear h
  obtain ⟨q1, q2, q3, q4⟩ := h'
  have f1 : decide (c < 1) = false := decide_eq_false (by omega)
  have f2 : decide (32 < c) = false := decide_eq_false (by omega)
  have f3 : decide (p < 0) = false := decide_eq_false (by omega)
  have f4 : decide (40 < p) = false := decide_eq_false (by omega)
  have HY := toHid (ynew_good c p w (need_le c p ⟨q1, q2, q3, q4⟩).1 (need_le c p ⟨q1, q2, q3, q4⟩).2)
  have k4 : IntKind.i64.wrap (4 * c) = 4 * c := IntWalk.i64_in _ (by omega)
  go_enter Tryz.func41, Tryz.ntmps41
  go_wp2_with fail
  refine HY.out.mono ?_
  rintro e w1 ⟨yp, Y, rfl, hY, hf, hb⟩
  have HI : Hid (IsYard w1 yp Y (newY c p)) := hY
  have HF : Hid (∀ b, fpY yp Y (newY c p) b → w.heap.size ≤ b) := hf
  have HB : Hid (Below w.heap.size w w1) := hb
  clear hY hf hb
  go_wp2_with fail
  have e4 : 4 * c = ((4 * c.toNat : Nat) : Int) := by omega
  rw [e4]
  refine (fresh_any (4 * c.toNat) w1 (by omega)).mono ?_
  rintro e w2 ⟨gp, G, rfl, hG, hf2, hb2⟩
  have HG : Hid (IsG w2 gp G (4 * c.toNat) gv0) := hG
  have HF2 : Hid (∀ k, fpG gp G (4 * c.toNat) k → w1.heap.size ≤ k) := hf2
  have HB2 : Hid (Below w1.heap.size w1 w2) := hb2
  clear hG hf2 hb2
  go_wp2
  go_ret3
  have hj : (newY c p).j = none := rfl
  refine ⟨yp, gp, ⟨Y.ds, Y.tp, Y.xs, ⟨0, 0, 0, none, 0⟩⟩, G, rfl, (HI.out.noJob hj _).below HB2.out, HG.out, fun k hk hg => ?_, (fun q o e => by cases e), (fun q o e => by cases e), fun k hk => HF.out k (fpY_noJob hj hk), fun k hk => Nat.le_trans HB.out.size (HF2.out k hk), HB.out.trans (HB2.out.mono HB.out.size), Nat.le_refl _⟩
  have h1 := HI.out.fp_lt (fpY_noJob hj hk)
  have h2 := HF2.out k hg
  omega
end Go.Proofs.YtonhoahnieoebabGreatDoor

namespace Go.Proofs.YtonhoahnieoebabGreatDoor
open Go.RowKit Go.ChangeShapes Go.WideShapes
section
variable {H : Type} {enc : TypeId × Value → H}

set_option maxRecDepth 100000 in
theorem open_actB {w : World} {fuel : Nat} {cs : List Value} {x : DataW H × List MemPlace} (h : DataW.trod enc Tryz.prog w 0 (fun _ => true) true fuel 43 cs = some x) :
    ∃ b : Int, cs[2]? = some (.int .i64 b) ∧ -9223372036854775808 ≤ b ∧ b ≤ 9223372036854775807 := by
  obtain ⟨xs, n, _, _, hl, hlen, hf⟩ := DataW.trod_struct Tryz.underlying43 h
  have h7 : cs.length = 7 := by rw [hl]; kernel_rfl
  have c3 : Tryz.prog.cellsOf 3 = 1 := by kernel_rfl
  have c9 : Tryz.prog.cellsOf 9 = 1 := by kernel_rfl
  match cs, h7, xs, hlen with
  | [v0, v1, v2, v3, v4, v5, v6], _, [y0, y1, y2, y3, y4, y5, y6], _ =>
    have f2 : DataW.trod enc Tryz.prog w 0 (fun _ => true) true n 3 [v2] = some y2 := by simpa [c3, c9] using hf 2 _ rfl
    obtain ⟨a2, e2, _, w2⟩ := DataW.trod_int Tryz.underlying3 f2
    simp only [List.cons.injEq, and_true] at e2
    subst e2
    have b2 := bounds_i64 w2
    exact ⟨a2, rfl, b2.1, b2.2⟩

def ActsB (xs : List ActV) : Prop := ∀ k, k < xs.length → -9223372036854775808 ≤ (xs.getD k ActV.none_).b ∧ (xs.getD k ActV.none_).b ≤ 9223372036854775807

theorem open_actsB {w : World} {la : Option Addr} {len cap fuel : Nat} {x : DataW H × List MemPlace} (h : DataW.trod enc Tryz.prog w 0 (fun _ => true) true fuel 23 [.slice la len cap] = some x) :
    ∃ xs, Acts w la len xs ∧ len ≤ maxLen ∧ ActsB xs := by
  obtain ⟨xs, hT, hl0⟩ := open_acts h
  refine ⟨xs, hT, hl0, fun k hk => ?_⟩
  have hkl : k < len := by have := hT.1; omega
  obtain ⟨b, off, e, hr, _⟩ := hT.2 k hkl
  rcases Go.Deep.open_slice Tryz.underlying23 h with ⟨hcs, _⟩ | ⟨a, len', cap', m, n, D, Pl, hcs, _, hl, hm, hmm, _, hx⟩
  · simp at hcs
    obtain ⟨rfl, rfl, rfl⟩ := hcs
    omega
  · simp at hcs
    obtain ⟨rfl, rfl, rfl⟩ := hcs
    cases e
    have c47 : Tryz.prog.cellsOf 43 = 7 := by kernel_rfl
    simp only [if_true] at hmm
    subst hmm
    obtain ⟨cs', h1, h2⟩ := hx k (by omega)
    obtain ⟨b2, e2, e3⟩ := open_actB h2
    obtain ⟨_, _, hc⟩ := World.cells?_some h1
    rw [c47] at hc
    have h3 := hc 2 (by omega)
    rw [e2, Go.Deep.add_add, Go.WideShapes.add_plain] at h3
    have h4 := hr 2 (.int .i64 (xs.getD k ActV.none_).b) rfl
    rw [show off + k * 7 + 2 = off + (k * 7 + 2) by omega, h3] at h4
    cases h4
    exact e3
end
end Go.Proofs.YtonhoahnieoebabGreatDoor

namespace Go.Proofs.YtonhoahnieoebabGreatDoor
open Go.RowKit Go.Maps
attribute [local go_sem ↓] Go.wp_at_zero Go.wp_at_succ

theorem size_actG : (Tryz.prog.info? 43).map (·.size) = some 7 := by kernel_rfl

/- What `did` does to a yard and its guest, of C clusters. -/
def DidSaw (C : Nat) : Prop := ∀ (B : Nat) (w0 : World) (yp gp m L : Nat) (Y : Yh) (y : YV) (G : Gh) (g : GV) (x : ActV) (w : World), YGd B w0 w yp Y y gp G (4 * C) g → Saw y C m g L → ActIn x → S4.Tab w → m + 8000 < 1000000000 → L ≤ 1000 →
  Calls Tryz.prog 42 #[.pointer (some ⟨yp, 0, none⟩), .pointer (some ⟨gp, 0, none⟩), actG x] w fun e w' => e = .returned (.tuple #[]) ∧ ∃ Y' G' y' g', YGd B w0 w' yp Y' y' gp G' (4 * C) g' ∧ Saw y' C (m + 2000) g' (L + 1)

/- A yard and its guest behind q acts. -/
def GSt (B : Nat) (w0 : World) (yp gp C q : Nat) (W : World) : Prop := ∃ Y y G g, YGd B w0 W yp Y y gp G (4 * C) g ∧ Saw y C (20 + 2000 * q) g (1 + q)

theorem GSt.below {B yp gp C q : Nat} {w0 W : World} (h : GSt B w0 yp gp C q W) : Below B w0 W := by
  obtain ⟨Y, y, G, g, h1, _⟩ := h
  exact h1.bel
theorem GSt.next {B yp gp C q : Nat} {w0 W : World} (h : GSt B w0 yp gp C q W) : GSt B w0 yp gp C (q + 1) W := by
  obtain ⟨Y, y, G, g, h1, h2⟩ := h
  exact ⟨Y, y, G, g, h1, h2.more (by omega) (by omega)⟩
theorem GSt.did {B yp gp C q : Nat} {w0 W : World} (HD : DidSaw C) (h : GSt B w0 yp gp C q W) (hq : q ≤ 100) (x : ActV) (hx : ActIn x) (hT : S4.Tab W) :
    Calls Tryz.prog 42 #[.pointer (some ⟨yp, 0, none⟩), .pointer (some ⟨gp, 0, none⟩), .agg #[.string x.kind, .int .i64 x.a, .int .i64 x.b, .int .i64 x.c, .int .i64 x.d, .string x.s, .slice x.ka x.kl x.kc]] W fun e w' => e = .returned (.tuple #[]) ∧ GSt B w0 yp gp C (q + 1) w' := by
  obtain ⟨Y, y, G, g, h1, h2⟩ := h
  refine (HD B w0 yp gp _ _ Y y G g x W h1 h2 hx hT (by omega) (by omega)).mono fun e w' ⟨he, Y', G', y', g', h3, h4⟩ => ⟨he, Y', y', G', g', h3, ?_⟩
  exact h4.more (by omega) (by omega)
/- What is looked at behind an act. -/
theorem GSt.looks {B yp gp C q : Nat} {w0 W : World} (h : GSt B w0 yp gp C q W) (hC : C ≤ 32) (hq : q ≤ 100) : ∃ T : ByteArray,
    Calls Tryz.prog 44 #[.pointer (some ⟨yp, 0, none⟩)] W fun e w1 => e = .returned (.int .i64 ((4 * C : Nat) : Int)) ∧
      Calls Tryz.prog 43 #[.pointer (some ⟨yp, 0, none⟩), .int .i64 0, .int .i64 ((4 * C : Nat) : Int)] w1 fun e w2 => e = .returned (.tuple #[.string T, .nilIface]) ∧
        Calls Tryz.prog 45 #[.pointer (some ⟨gp, 0, none⟩), .string T] w2 fun e w3 => e = .returned (.bool true) ∧ GSt B w0 yp gp C q w3 := by
  obtain ⟨Y, y, G, g, h1, h2⟩ := h
  obtain ⟨t1, t2, t3⟩ := h2.text
  refine ⟨y.s.getS y.l 0 ((4 * C : Nat) : Int), (ysectors_any W h1.yard h2.yg.ok).mono fun e w1 ⟨e1, b1⟩ => ⟨e1, ?_⟩⟩
  have h1' := h1.below b1
  refine (yread_any 0 ((4 * C : Nat) : Int) w1 h1'.yard h2.yg.ok (by omega) (by omega)).mono fun e w2 ⟨e2, b2⟩ => ⟨?_, ?_⟩
  · rw [e2, t1, erV_0]
  · have h1'' := h1'.below b2
    refine (sees_any _ w2 h1''.guest (by omega) t2 (fun k hk => by rw [t3 k hk]; exact h2.now k hk) (fun k hk => by have := (h2.len k hk).1; omega)).mono fun e w3 ⟨e3, hg⟩ => ⟨e3, ?_⟩
    obtain ⟨G', h3⟩ := h1''.guest_acts hg
    exact ⟨Y, y, G', _, h3, h2.seen (by omega)⟩

set_option maxRecDepth 100000 in
set_option maxHeartbeats 4000000 in
theorem guest_rounds (c p : Int) (la : Option Addr) (len cap : Nat) (xs : List ActV) (w : World) (hA : Acts w la len xs) (hlen : len ≤ maxLen) (hB : ActsB xs) (hl : lightB xs 60 = true) (hM : madeB c p = true) (hT : S4.Tab w) (HDS : DidSaw c.toNat) :
    Calls Tryz.prog 7 #[.int .i64 c, .int .i64 p, .slice la len cap] w fun e w' => e = .returned (.bool true) ∧ Below w.heap.size w w' := by
  have hM' : 1 ≤ c ∧ c ≤ 32 ∧ 0 ≤ p ∧ p ≤ 40 := of_decide_eq_true hM
  have hC : c.toNat ≤ 32 := by omega
  have HLA : Hid (Calls Tryz.prog 13 #[.slice la len cap, .int .i64 60] w fun e w' => e = .returned (.bool true) ∧ w' = w) := by
    have := light_any la len cap 60 xs w hA hlen (by omega)
    rw [hl] at this; exact this
  have hli : len ≤ 60 ∧ ∀ k, k < len → (xs.getD k ActV.none_).s.size ≤ 700 := by
    unfold lightB at hl
    simp only [decide_eq_true_eq] at hl
    have := hA.1
    exact ⟨by omega, fun k hk => (hl.2 k (by omega)).1⟩
  have h60 : len ≤ 60 := hli.1
  have h0 : 0 < w.heap.size := World.block_lt_of_cell? w _ (hT 0 (by decide))
  have HMD : Hid (Calls Tryz.prog 41 #[.int .i64 c, .int .i64 p] w fun e w' => ∃ (yp gp : Nat), e = .returned (.tuple #[.pointer (some ⟨yp, 0, none⟩), .pointer (some ⟨gp, 0, none⟩), .bool true]) ∧ GSt w.heap.size w yp gp c.toNat 0 w') :=
    (made_yes c p w hM).mono fun e w' ⟨yp, gp, Y, G, he, hy⟩ => ⟨yp, gp, he, Y, _, G, _, hy, Saw.made (need_le c p hM').1 (need_le c p hM').2⟩
  have HIN : Hid (∀ k, k < len → ∀ W : World, Below w.heap.size w W → ∃ blk off, la = some ⟨blk, off, none⟩ ∧ W.rangeAt blk (off + k * 7) (xs.getD k ActV.none_).cells ∧ ActIn (xs.getD k ActV.none_)) := fun k hk W hb => by
    obtain ⟨blk, off, e, hr, hok⟩ := (hA.below hb).2 k hk
    exact ⟨blk, off, e, hr, hok.a1, hli.2 k hk, hB k (by have := hA.1; omega)⟩
  have HDD : Hid (∀ (yp gp q : Nat) (x : ActV) (W : World), GSt w.heap.size w yp gp c.toNat q W → q ≤ 100 → ActIn x → Calls Tryz.prog 42 #[.pointer (some ⟨yp, 0, none⟩), .pointer (some ⟨gp, 0, none⟩), .agg #[.string x.kind, .int .i64 x.a, .int .i64 x.b, .int .i64 x.c, .int .i64 x.d, .string x.s, .slice x.ka x.kl x.kc]] W fun e w' => e = .returned (.tuple #[]) ∧ GSt w.heap.size w yp gp c.toNat (q + 1) w') := fun yp gp q x W h hq hx => h.did HDS hq x hx (hT.below h.below h0)
  generalize hCn : c.toNat = C at HMD HDD hC
  clear hA hlen hB hl hM hT hli HDS hM' hCn
  go_enter Tryz.func7, Tryz.ntmps7
  go_wp2_with fail
  refine HLA.out.mono ?_
  rintro e w' ⟨rfl, hw⟩
  have hw' := hw.symm
  subst hw'
  clear hw HLA
  go_wp2_with fail
  refine HMD.out.mono ?_
  rintro e w1 ⟨yp, gp, rfl, hS⟩
  have HS := toHid hS
  clear hS HMD
  go_wp2
  go_loopw [10] (fun i wr => ∃ q : Nat, q ≤ len ∧ i = .int .i64 (q : Int) ∧ GSt w.heap.size w yp gp C q wr) (fun i _ => len - (intOf i).toNat)
  case atStart => exact ⟨0, Nat.zero_le _, rfl, HS.out⟩
  case round =>
    clear HS
    obtain ⟨q, hq, rfl, hy⟩ := hrel
    have HYK := toHid hy
    have HBK := toHid hy.below
    clear hy
    by_cases hlt : q < len
    · obtain ⟨blk, off, hla, hrg, hin⟩ := HIN.out q hlt _ HBK.out
      generalize xs.getD q ActV.none_ = y at hrg hin
      subst hla
      have HRG := toHid hrg
      have c0 : wr.cell? ⟨blk, off + q * 7, none⟩ = some (.string y.kind) := hrg 0 _ rfl
      have HI2 : Hid ((Tryz.prog.info? 43).map (·.size) = some y.cells.length) := size_actG
      have HCK := toHid (HDD.out _ _ _ y wr HYK.out (by omega) hin)
      have HNX := toHid HYK.out.next
      clear hrg hin HDD HIN
      have j0 : (0 : Int) ≤ (q : Int) := by omega
      have j1 : (q : Int) < (len : Int) := by omega
      by_cases e4 : y.kind.toList = [99, 114, 97, 115, 104]
      · have g4 : (y.kind.toList == [99, 114, 97, 115, 104]) = true := beq_iff_eq.2 e4
        clear e4 HCK HRG
        go_wp2
        go_roundw
        case rel =>
          have fin : ∃ q1 : Nat, q1 ≤ len ∧ Value.int .i64 ((q : Int) + 1) = .int .i64 (q1 : Int) ∧ GSt w.heap.size w yp gp C q1 _ := ⟨q + 1, by omega, by go_num, HNX.out⟩
          first | exact fin | ((repeat apply Exists.intro); exact ⟨fin, rfl⟩)
        case measure => simp [intOf]; omega
      · have g4 : (y.kind.toList == [99, 114, 97, 115, 104]) = false := beq_eq_false_iff_ne.2 e4
        clear e4 HNX
        go_wp2_with (refine wpList_load_mid (by rfl) 43 (.tmp 55) (by rfl) blk (off + q * 7) (by rfl) y.cells _ HRG.out Tryz.underlying43 rfl HI2.out ?_)
        refine HCK.out.mono ?_
        rintro e w6 ⟨rfl, hy6⟩
        obtain ⟨T, hlk⟩ := hy6.looks hC (by omega)
        have HLK6 := toHid hlk
        clear hy6 hlk HCK HYK HBK HRG c0
        go_wp2_with fail
        refine HLK6.out.mono ?_
        rintro e w7 ⟨rfl, h7⟩
        have H7 := toHid h7
        clear h7 HLK6
        go_wp2_with fail
        refine H7.out.mono ?_
        rintro e w8 ⟨rfl, h8⟩
        have H8 := toHid h8
        clear h8 H7
        go_wp2_with fail
        refine H8.out.mono ?_
        rintro e w9 ⟨rfl, h9⟩
        have H9 := toHid h9
        clear h9 H8
        go_wp2
        go_roundw
        case rel =>
          have fin : ∃ q1 : Nat, q1 ≤ len ∧ Value.int .i64 ((q : Int) + 1) = .int .i64 (q1 : Int) ∧ GSt w.heap.size w yp gp C q1 _ := ⟨q + 1, by omega, by go_num, H9.out⟩
          first | exact fin | ((repeat apply Exists.intro); exact ⟨fin, rfl⟩)
        case measure => simp [intOf]; omega
    · have gk : decide ((q : Int) < (len : Int)) = false := decide_eq_false (by omega)
      go_wp2
      go_ret
      exact ⟨rfl, HBK.out⟩

set_option maxRecDepth 100000 in
set_option maxHeartbeats 1000000 in
theorem guest_heavy (c p : Int) (la : Option Addr) (len cap : Nat) (xs : List ActV) (w : World) (hA : Acts w la len xs) (hlen : len ≤ maxLen) (hl : lightB xs 60 = false) :
    Calls Tryz.prog 7 #[.int .i64 c, .int .i64 p, .slice la len cap] w fun e w' => e = .returned (.bool true) ∧ Below w.heap.size w w' := by
  have HLA : Hid (Calls Tryz.prog 13 #[.slice la len cap, .int .i64 60] w fun e w' => e = .returned (.bool false) ∧ w' = w) := by
    have := light_any la len cap 60 xs w hA hlen (by omega)
    rw [hl] at this; exact this
  clear hA hl hlen
  go_enter Tryz.func7, Tryz.ntmps7
  go_wp2_with fail
  refine HLA.out.mono ?_
  rintro e w' ⟨rfl, hw⟩
  have hw' := hw.symm
  subst hw'
  clear hw HLA
  go_wp2
  go_ret
  exact ⟨rfl, Below.refl _ _⟩

set_option maxRecDepth 100000 in
set_option maxHeartbeats 2000000 in
theorem guest_none (c p : Int) (la : Option Addr) (len cap : Nat) (xs : List ActV) (w : World) (hA : Acts w la len xs) (hlen : len ≤ maxLen) (hl : lightB xs 60 = true) (hM : madeB c p = false) :
    Calls Tryz.prog 7 #[.int .i64 c, .int .i64 p, .slice la len cap] w fun e w' => e = .returned (.bool true) ∧ Below w.heap.size w w' := by
  have HLA : Hid (Calls Tryz.prog 13 #[.slice la len cap, .int .i64 60] w fun e w' => e = .returned (.bool true) ∧ w' = w) := by
    have := light_any la len cap 60 xs w hA hlen (by omega)
    rw [hl] at this; exact this
  have HMD := toHid (made_no c p w hM)
  have hM' : ¬ (1 ≤ c ∧ c ≤ 32 ∧ 0 ≤ p ∧ p ≤ 40) := of_decide_eq_false hM
  clear hA hl hlen hM
  by_cases h1 : c < 1
  · have f1 : decide (c < 1) = true := decide_eq_true h1
    clear hM'
    go_enter Tryz.func7, Tryz.ntmps7
    go_wp2_with fail
    refine HLA.out.mono ?_
    rintro e w' ⟨rfl, hw⟩
    have hw' := hw.symm
    subst hw'
    clear hw HLA
    go_wp2_with fail
    refine HMD.out.mono ?_
    rintro e w' ⟨rfl, hw⟩
    have hw' := hw.symm
    subst hw'
    clear hw HMD
    go_wp2
    go_ret
    exact ⟨rfl, Below.refl _ _⟩
  have f1 : decide (c < 1) = false := decide_eq_false h1
  by_cases h2 : 32 < c
  · have f2 : decide (32 < c) = true := decide_eq_true h2
    clear hM'
    go_enter Tryz.func7, Tryz.ntmps7
    go_wp2_with fail
    refine HLA.out.mono ?_
    rintro e w' ⟨rfl, hw⟩
    have hw' := hw.symm
    subst hw'
    clear hw HLA
    go_wp2_with fail
    refine HMD.out.mono ?_
    rintro e w' ⟨rfl, hw⟩
    have hw' := hw.symm
    subst hw'
    clear hw HMD
    go_wp2
    go_ret
    exact ⟨rfl, Below.refl _ _⟩
  have f2 : decide (32 < c) = false := decide_eq_false h2
  by_cases h3 : p < 0
  · have f3 : decide (p < 0) = true := decide_eq_true h3
    clear hM'
    go_enter Tryz.func7, Tryz.ntmps7
    go_wp2_with fail
    refine HLA.out.mono ?_
    rintro e w' ⟨rfl, hw⟩
    have hw' := hw.symm
    subst hw'
    clear hw HLA
    go_wp2_with fail
    refine HMD.out.mono ?_
    rintro e w' ⟨rfl, hw⟩
    have hw' := hw.symm
    subst hw'
    clear hw HMD
    go_wp2
    go_ret
    exact ⟨rfl, Below.refl _ _⟩
  · have f3 : decide (p < 0) = false := decide_eq_false h3
    have f4 : decide (40 < p) = true := decide_eq_true (by omega)
    clear hM'
    go_enter Tryz.func7, Tryz.ntmps7
    go_wp2_with fail
    refine HLA.out.mono ?_
    rintro e w' ⟨rfl, hw⟩
    have hw' := hw.symm
    subst hw'
    clear hw HLA
    go_wp2_with fail
    refine HMD.out.mono ?_
    rintro e w' ⟨rfl, hw⟩
    have hw' := hw.symm
    subst hw'
    clear hw HMD
    go_wp2
    go_ret
    exact ⟨rfl, Below.refl _ _⟩

theorem guest_all (c p : Int) (la : Option Addr) (len cap : Nat) (xs : List ActV) (w : World) (hA : Acts w la len xs) (hlen : len ≤ maxLen) (hB : ActsB xs) (hT : S4.Tab w) (HDS : ∀ C, 1 ≤ C → C ≤ 32 → DidSaw C) :
    Calls Tryz.prog 7 #[.int .i64 c, .int .i64 p, .slice la len cap] w fun e w' => e = .returned (.bool true) ∧ Below w.heap.size w w' := by
  cases h1 : lightB xs 60 with
  | false => exact guest_heavy c p la len cap xs w hA hlen h1
  | true =>
    cases h2 : madeB c p with
    | false => exact guest_none c p la len cap xs w hA hlen h1 h2
    | true =>
      have h3 : 1 ≤ c ∧ c ≤ 32 ∧ 0 ≤ p ∧ p ≤ 40 := of_decide_eq_true h2
      exact guest_rounds c p la len cap xs w hA hlen hB h1 h2 hT (HDS c.toNat (by omega) (by omega))
end Go.Proofs.YtonhoahnieoebabGreatDoor

namespace Go.Proofs.YtonhoahnieoebabGreatDoor
open Go.RowKit Go.Maps

/- What `did` does, in full. -/
def DidTop (C : Nat) : Prop := ∀ (B : Nat) (w0 : World) (yp gp m : Nat) (Y : Yh) (y : YV) (G : Gh) (g : GV) (x : ActV) (w : World), YGd B w0 w yp Y y gp G (4 * C) g → YOk y C m → ActIn x → S4.Tab w → m + 8000 < 1000000000 → (∀ k, k < 4 * C → g.now k ≠ [] ∧ (g.now k).length ≤ 1000 ∧ (g.cr k).length ≤ 1000) →
  Calls Tryz.prog 42 #[.pointer (some ⟨yp, 0, none⟩), .pointer (some ⟨gp, 0, none⟩), actG x] w fun e w' => e = .returned (.tuple #[]) ∧ ∃ Y' G' y' g', TopR (4 * C) y g x y' g' ∧ YGd B w0 w' yp Y' y' gp G' (4 * C) g'

theorem Saw.lens {y : YV} {C m L : Nat} {g : GV} (h : Saw y C m g L) (hL : L ≤ 1000) : ∀ k, k < 4 * C → g.now k ≠ [] ∧ (g.now k).length ≤ 1000 ∧ (g.cr k).length ≤ 1000 := fun k hk =>
  ⟨(fun e => by have := h.now k hk; rw [e] at this; cases this), by have := (h.len k hk).1; omega, by have := (h.len k hk).2; omega⟩

theorem DidTop.saw {C : Nat} (h : DidTop C) (hC : C ≤ 32) : DidSaw C := fun B w0 yp gp m _ Y y G g x w h1 h2 h3 h4 h5 h6 =>
  (h B w0 yp gp m Y y G g x w h1 h2.yg.ok h3 h4 h5 (h2.lens h6)).mono fun _ _ ⟨he, Y', G', y', g', hr, hy⟩ => ⟨he, Y', G', y', g', hy, h2.act hr h3 hC h5⟩

end Go.Proofs.YtonhoahnieoebabGreatDoor

namespace Go.Proofs.YtonhoahnieoebabGreatDoor
open Go.RowKit Go.Maps

theorem did_top (C : Nat) (h1 : 1 ≤ C) (h2 : C ≤ 32) : DidTop C := fun _ _ _ _ _ _ _ _ _ x w hg hY hx hT hm hl => did_any x w hg hY ⟨h1, h2⟩ rfl hx hT hm hl
theorem did_saw (C : Nat) (h1 : 1 ≤ C) (h2 : C ≤ 32) : DidSaw C := DidTop.saw (did_top C h1 h2) h2
end Go.Proofs.YtonhoahnieoebabGreatDoor

namespace Go.Proofs.YtonhoahnieoebabGreatDoor
open Go.RowKit Go.Maps

theorem guest_told (c p : Int) (la : Option Addr) (len cap : Nat) (xs : List ActV) (w : World) (hA : Acts w la len xs) (hlen : len ≤ maxLen) (hB : ActsB xs) (hT : S4.Tab w) :
    Calls Tryz.prog 7 #[.int .i64 c, .int .i64 p, .slice la len cap] w fun e w' => e = .returned (.bool true) ∧ Below w.heap.size w w' :=
  guest_all c p la len cap xs w hA hlen hB hT did_saw
end Go.Proofs.YtonhoahnieoebabGreatDoor
