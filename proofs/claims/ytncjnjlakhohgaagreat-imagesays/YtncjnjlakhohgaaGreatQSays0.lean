/-
ImageSays: both images made anew, both opened, both devices crashed: what holds of the pair.
-/
import Derived.Test.YtncjnjlakhohgaaGreatQImgCreate2
import Derived.Test.YtncjnjlakhohgaaGreatQOpens1
import Derived.Test.YtncjnjlakhohgaaGreatQRimCreate
import Derived.Test.YtncjnjlakhohgaaGreatQRimCreate2
namespace Go.Proofs.YtncjnjlakhohgaaGreat
open Go.RowKit Go.Maps
attribute [local go_sem ↓] Go.wp_at_zero Go.wp_at_succ

theorem crF_bad {d : DV} {h : HV} (hn : ¬ (h.ok = true ∧ needN h ≤ d.fl.length)) : crF d h = 1 := by
  unfold crF
  by_cases hk : h.ok = true
  · rw [if_pos hk, if_pos (Nat.lt_of_not_le fun e => hn ⟨hk, e⟩)]
  · rw [if_neg hk]

theorem crF_pos (d : DV) (h : HV) : 0 ≤ crF d h := by
  unfold crF
  split
  · split
    · decide
    · split
      · exact putF_pos _
      · next h0 =>
        have : ∀ k, 0 ≤ (d.rowsP (crT h) k).2 := fun k => by
          induction k with
          | zero => exact Int.le_refl 0
          | succ k ih =>
            by_cases e : (d.rowsP (crT h) k).2 = 0
            · rw [DV.rowsP_yes e]; exact putF_pos _
            · rw [DV.rowsP_no e (k + 1) (by omega)]; exact ih
        exact this _
  · decide

theorem create_all {B m : Nat} {h : Hd} {d : DV} (c p b : Int) (w : World) (hd : IsDev B w h d) (hf : d.fine d.fl.length m) (hm : m + 20 < 1000000000) (hB : B ≤ w.heap.size) :
    Calls Tryz.prog 9 #[.pointer (some ⟨h.p, 0, none⟩), .agg #[.int .i64 c, .int .i64 p, .int .i64 b]] w fun e w' =>
      ∃ x : Ih, x.h.p = h.p ∧ w.heap.size ≤ x.tb ∧ KeptP B x.tb w w' ∧ ((crF d ⟨c, p, b⟩ = 0 ∧ e = .returned (.tuple #[.pointer (some ⟨x.p, 0, none⟩), .nilIface]) ∧ IsImg B w' x (crV d ⟨c, p, b⟩) ∧ HV.ok ⟨c, p, b⟩ = true ∧ needN ⟨c, p, b⟩ ≤ d.fl.length) ∨
        (crF d ⟨c, p, b⟩ ≠ 0 ∧ e = .returned (.tuple #[.pointer none, erV (crF d ⟨c, p, b⟩)]))) := by
  by_cases hn : HV.ok ⟨c, p, b⟩ = true ∧ needN ⟨c, p, b⟩ ≤ d.fl.length
  · have hb := HV.of_ok hn.1
    simp only at hb
    obtain ⟨nc, rfl⟩ : ∃ nc : Nat, c = (nc : Int) := ⟨c.toNat, by omega⟩
    refine (create_good nc p b w hd hf hm hB hn.1 hn.2).mono ?_
    rintro e w' ⟨x, h1, h2, h3, h4 | h4⟩
    · exact ⟨x, h1, h2, h3, .inl ⟨h4.1, h4.2.1, h4.2.2, hn.1, hn.2⟩⟩
    · exact ⟨x, h1, h2, h3, .inr ⟨h4.1, h4.2.1⟩⟩
  · refine (create_bad c p b w hd hn).mono ?_
    rintro e w' ⟨rfl, hb⟩
    rw [crF_bad hn]
    exact ⟨⟨0, h, w.heap.size, 0, 0⟩, rfl, Nat.le_refl _, KeptP.of_below hb, .inr ⟨by decide, by rw [erV_1]⟩⟩

theorem created_all {B m : Nat} {q : Rh} {d : DV} (c p b : Int) (w : World) (hd : IsRef B w q d) (hf : d.fine d.fl.length m) (hm : m + 20 < 1000000000) (hB : B ≤ w.heap.size) :
    Calls Tryz.prog 10 #[.pointer (some ⟨q.p, 0, none⟩), .agg #[.int .i64 c, .int .i64 p, .int .i64 b]] w fun e w' =>
      ∃ r : Qh, r.d.p = q.p ∧ (∀ k, r.vt.ownBlock = some k → w.heap.size ≤ k) ∧ KeptR B w w' ∧ ((crF d ⟨c, p, b⟩ = 0 ∧ e = .returned (.tuple #[.pointer (some ⟨r.p, 0, none⟩), .int .i64 0]) ∧ IsRim B w' r (crV d ⟨c, p, b⟩)) ∨
        (crF d ⟨c, p, b⟩ ≠ 0 ∧ e = .returned (.tuple #[.pointer none, .int .i64 (crF d ⟨c, p, b⟩)]))) := by
  by_cases hn : HV.ok ⟨c, p, b⟩ = true ∧ needN ⟨c, p, b⟩ ≤ d.fl.length
  · have hb := HV.of_ok hn.1
    simp only at hb
    obtain ⟨nc, rfl⟩ : ∃ nc : Nat, c = (nc : Int) := ⟨c.toNat, by omega⟩
    refine (created_good nc p b w hd hf hm hB hn.1 hn.2).mono ?_
    rintro e w' ⟨x, h1, h2, h3, h4 | h4⟩
    · exact ⟨x, h1, h2, h3, .inl h4⟩
    · exact ⟨x, h1, h2, h3, .inr ⟨h4.1, h4.2.1⟩⟩
  · refine (created_bad c p b w hd hn).mono ?_
    rintro e w' ⟨rfl, hb⟩
    rw [crF_bad hn]
    exact ⟨⟨0, q, .slice none 0 0, .slice none 0 0⟩, rfl, fun k e => (by cases e), KeptR.of_below hb, .inr ⟨by decide, rfl⟩⟩

theorem IsRef.keptNew {B B' tb : Nat} {w w' : World} {q : Rh} {d : DV} (hd : IsRef B w q d) (hk : KeptP B' tb w w') (ht : w.heap.size ≤ tb) : IsRef B w' q d :=
  hd.keep fun k hf => by
    obtain ⟨c2, t, e1, p⟩ := hd.kinds k hf
    have hl := (hd.lt k hf).2
    rw [hk.box e1 (by rcases p with rfl | rfl | rfl <;> decide) (by omega)]; exact e1.symm

/- Both made anew. -/
theorem create_two {B m : Nat} {w : World} {h : Hd} {q : Rh} {d : DV} (c p b : Int) (hd : IsDev B w h d) (hr : IsRef B w q d) (hf : d.fine d.fl.length m) (hm : m + 20 < 1000000000) (hB : B ≤ w.heap.size) :
    Calls Tryz.prog 9 #[.pointer (some ⟨h.p, 0, none⟩), .agg #[.int .i64 c, .int .i64 p, .int .i64 b]] w fun e w1 =>
      ∃ (vi : Value) (tb : Nat), e = .returned (.tuple #[vi, erV (crF d ⟨c, p, b⟩)]) ∧ w.heap.size ≤ tb ∧ KeptP B tb w w1 ∧
        Calls Tryz.prog 10 #[.pointer (some ⟨q.p, 0, none⟩), .agg #[.int .i64 c, .int .i64 p, .int .i64 b]] w1 fun e w2 =>
          ∃ vm : Value, e = .returned (.tuple #[vm, .int .i64 (crF d ⟨c, p, b⟩)]) ∧ KeptR B w1 w2 ∧
            ((crF d ⟨c, p, b⟩ ≠ 0 ∧ vi = .pointer none ∧ vm = .pointer none) ∨
             (crF d ⟨c, p, b⟩ = 0 ∧ HV.ok ⟨c, p, b⟩ = true ∧ ∃ x r, vi = .pointer (some ⟨x.p, 0, none⟩) ∧ vm = .pointer (some ⟨r.p, 0, none⟩) ∧ x.h.p = h.p ∧ r.d.p = q.p ∧ Pair B w2 x r (crV d ⟨c, p, b⟩) (m + 20) ∧ Safe (crV d ⟨c, p, b⟩) (crT ⟨c, p, b⟩))) := by
  refine (create_all c p b w hd hf hm hB).mono ?_
  rintro e w1 ⟨x, hx1, hx2, hx3, hor⟩
  have hr1 := hr.keptNew hx3 hx2
  have hB1 : B ≤ w1.heap.size := Nat.le_trans hB hx3.size
  have hrest := created_all c p b w1 hr1 hf hm hB1
  rcases hor with ⟨h0, rfl, hi, hk, hn⟩ | ⟨h0, rfl⟩
  · refine ⟨_, x.tb, by rw [h0, erV_0], hx2, hx3, hrest.mono ?_⟩
    rintro e w2 ⟨r, hr2, hr3, hr4, hor2⟩
    rcases hor2 with ⟨_, rfl, hm2⟩ | ⟨h1, _⟩
    · refine ⟨_, by rw [h0], hr4, .inr ⟨h0, hk, x, r, rfl, rfl, hx1, hr2, ⟨hi.keptR hr4, hm2, (crV_ok hf hk hn hm).more (by omega), fun k hk2 => ?_, Nat.le_trans hB1 hr4.size⟩, crV_safe hf hk hn hm h0⟩⟩
      have h5 := hr3 k hk2
      have h6 := hi.lts.2.2
      omega
    · exact absurd h0 h1
  · refine ⟨_, x.tb, rfl, hx2, hx3, hrest.mono ?_⟩
    rintro e w2 ⟨r, hr2, hr3, hr4, hor2⟩
    rcases hor2 with ⟨h1, _⟩ | ⟨_, rfl⟩
    · exact absurd h1 h0
    · exact ⟨_, rfl, hr4, .inl ⟨h0, rfl, rfl⟩⟩

/- Both opened. -/
theorem open_two {B m : Nat} {w : World} {h : Hd} {q : Rh} {d : DV} (hd : IsDev B w h d) (hr : IsRef B w q d) (hf : d.fine d.fl.length m) (hB : B ≤ w.heap.size) (h0 : openF d = 0) :
    Calls Tryz.prog 16 #[.pointer (some ⟨h.p, 0, none⟩)] w fun e w1 =>
      ∃ x : Ih, e = .returned (.tuple #[.pointer (some ⟨x.p, 0, none⟩), .nilIface]) ∧ x.h.p = h.p ∧
        Calls Tryz.prog 17 #[.pointer (some ⟨q.p, 0, none⟩)] w1 fun e w2 =>
          ∃ r : Qh, e = .returned (.tuple #[.pointer (some ⟨r.p, 0, none⟩), .int .i64 0]) ∧ r.d.p = q.p ∧ Pair B w2 x r (openV d) m ∧ Below w.heap.size w w2 := by
  refine (open_img w hd hB).mono ?_
  rintro e w1 ⟨hb1, ⟨h1, _⟩ | ⟨_, x, hx1, hx2, rfl, hi⟩⟩
  · exact absurd h0 h1
  · have hr1 : IsRef B w1 q d := hr.keep fun k hk => hb1.block k (hr.lt k hk).2
    refine ⟨x, rfl, by rw [hx1], (opened_rim w1 hr1 hf (Nat.le_trans hB hb1.size)).mono ?_⟩
    rintro e w2 ⟨hb2, ⟨h1, _⟩ | ⟨_, r, hr2, hr3, rfl, hm2⟩⟩
    · exact absurd h0 h1
    · refine ⟨r, rfl, by rw [hr2], ⟨hi.below hb2, hm2, (open_ok hf h0).1, fun k hk => ?_, Nat.le_trans hB (Nat.le_trans hb1.size hb2.size)⟩, hb1.trans (hb2.mono hb1.size)⟩
      have h5 := hr3 k hk
      have h6 := hi.lts.2.2
      omega

theorem crash_fine {d : DV} {m : Nat} (hd : d.fine d.fl.length m) (ks : List Bool) : (DV.made (keepTo d.pend ks d.fl d.pend.length) d.wr).fine (DV.made (keepTo d.pend ks d.fl d.pend.length) d.wr).fl.length m :=
  ⟨DV.made_ok (by rw [keepTo_len]; exact hd.ok.n1) (by rw [keepTo_len]; exact hd.ok.n2) (keepTo_16 _ _ _ _ (Nat.le_refl _) hd.ok.l1 (fun x hx => (hd.ok.l3 x hx).2)) hd.ok.few2, made_sn _ _, rfl, hd.wr⟩

/- What a round leaves. -/
def Went (w : World) (k : Nat) (vd vn vi vm : Value) (wr : World) : Prop :=
  ∃ x q V U, vd = .pointer (some ⟨x.h.p, 0, none⟩) ∧ vn = .pointer (some ⟨q.d.p, 0, none⟩) ∧ vi = .pointer (some ⟨x.p, 0, none⟩) ∧ vm = .pointer (some ⟨q.p, 0, none⟩) ∧ Pair w.heap.size wr x q V (k * 10 + 20) ∧ Safe V U ∧ Below w.heap.size w wr
end Go.Proofs.YtncjnjlakhohgaaGreat
