/-
JobsSays: where it ends early, and its rounds.
JobsSays: its rounds.
Files that came in, as they are read.
-/
import Derived.Test.YtjegaljdindfaabGreatDoorQJobP5
import Derived.Test.YtjegaljdindfaabGreatDoorQRjN1
import Derived.Test.YtjegaljdindfaabGreatDoorQRjN2
import Derived.Test.YtjegaljdindfaabGreatDoorQLawAsShelf
import Derived.Test.YtjegaljdindfaabGreatDoorQLawLaid0
import Derived.ChangeSlices
namespace Go.Proofs.YtjegaljdindfaabGreatDoor
open Go.RowKit Go.Maps
attribute [local go_sem ↓] Go.wp_at_zero Go.wp_at_succ

theorem rnew_any {mp m : Nat} {qs : Nat → Qh} {s : SV} (d : KDesk) (w : World) (h : IsRshelf w mp qs s m) :
    Calls Tryz.prog 17 #[.pointer (some ⟨mp, 0, none⟩), .agg #[.int .i64 d.root, .int .i64 d.kind, .int .i64 d.file, .int .i64 d.rate, .int .i64 d.burst]] w (NewPost w mp m qs s d) := by
  by_cases h1 : (s.walk d.root).2 ≠ 0 ∨ (s.walk d.root).1 = [] ∨ (S4.inB d.rate 1000 && S4.inB d.burst 1000) = false
  · refine (rnew_early d w h h1).mono fun e w' ⟨h2, h3⟩ => ⟨h3, .inl ⟨?_, h2⟩⟩
    unfold newF
    rcases h1 with h1 | h1 | h1
    · rw [if_pos h1]; exact h1
    · split
      · next e => exact e
      · first | decide | (rw [if_pos h1]; decide)
    · split
      · next e => exact e
      · split
        · decide
        · first | decide | (rw [if_pos h1]; decide)
  · have h0 : (s.walk d.root).2 = 0 := Classical.byContradiction fun e => h1 (.inl e)
    have hl : (s.walk d.root).1 ≠ [] := fun e => h1 (.inr (.inl e))
    have hb : (S4.inB d.rate 1000 && S4.inB d.burst 1000) = true := by
      cases hx : (S4.inB d.rate 1000 && S4.inB d.burst 1000) with
      | true => rfl
      | false => exact absurd (.inr (.inr hx)) h1
    rw [Bool.and_eq_true] at hb
    exact rnew_rest d w h h0 hl hb.1 hb.2

theorem newF_pos (s : SV) (d : KDesk) : 0 ≤ newF s d := by
  unfold newF
  split
  · exact (s.walk_good d.root).2.2.1
  · split
    · decide
    · split
      · decide
      · unfold chkJ targetF
        split
        · split
          · decide
          · split <;> decide
        · split
          · split <;> decide
          · decide

/- Two new jobs stand side by side. -/
theorem Work.new {B m : Nat} {w0 w2 w3 w4 : World} {sp mp jp lp bp xp cap bcap C : Nat} {a b : Option Addr} {xs : Nat → Ih} {qs : Nat → Qh} {s : SV} {j : JV} (hL : Lay B w0 w2 sp mp xs qs s m) (hP : PJ w3 sp jp lp bp a cap xs s m C j) (hn : w2.heap.size ≤ jp ∧ w2.heap.size ≤ lp ∧ w2.heap.size ≤ bp ∧ ∀ g o, a = some ⟨g, o, none⟩ → w2.heap.size ≤ g) (hb3 : Below w2.heap.size w2 w3) (hR : RJ w4 mp xp b bcap qs s m C j j.state) (hx : w3.heap.size ≤ xp) (hxb : ∀ g o, b = some ⟨g, o, none⟩ → w3.heap.size ≤ g) (hb4 : Below w3.heap.size w3 w4) :
    Work B w0 w4 ⟨sp, jp, lp, bp, a, cap, mp, xp, b, bcap, C⟩ xs qs s m j := by
  have hz := hL.sizes
  have s3 := hb3.size
  refine ⟨hP.below hb4, hR, ?_, ?_, ?_, ?_, ?_, hL.bsp, (hL.bel.trans (hb3.mono hz)).trans (hb4.mono (Nat.le_trans hz s3)), hL.size⟩
  · intro i hi hr
    have hi3 := hP.fpLt hi
    rcases hr with hr | hr
    · have hq := hL.ref.fpLt hr
      rcases hi with hi | hi | hi | hi
      · exact hL.apart i hi hr
      · have : i = jp := hi; omega
      · have : i = lp := hi; omega
      · have : i = bp := hi; omega
    · have : i = xp := hr
      omega
  · intro g o e hr
    have hg := hn.2.2.2 g o e
    have hg3 := hP.nums.lt hP.ok.ne e
    rcases hr with hr | hr
    · have := hL.ref.fpLt hr; omega
    · have : g = xp := hr; omega
  · intro g o e hi
    have := hP.fpLt hi
    have := hxb g o e
    omega
  · intro i hi
    rcases hi with hi | hi | hi | hi
    · exact hL.bS i hi
    · have : i = jp := hi; omega
    · have : i = lp := hi; omega
    · have : i = bp := hi; omega
  · intro i hi
    rcases hi with hi | hi
    · exact hL.bQ i hi
    · have : i = xp := hi; omega

theorem goes_eq (j : JV) : decide (j.state < 4) = decide (j.stage < 4) := by
  rcases j.state_cases with ⟨h1, hs | hs⟩ | ⟨_, hs⟩
  · rw [hs, h1]
  · rw [hs, h1]; rfl
  · rw [hs]

set_option maxRecDepth 100000 in
set_option maxHeartbeats 1000000 in
theorem jobs_early (la : Option Addr) (len cap : Nat) (fs : List FileV) (d : KDesk) (lb : Option Addr) (blen bcap : Nat) (xs : List ActV) (w : World) (hF : Files w la len fs) (hlen : len ≤ maxLen) (hA : Acts w lb blen xs) (hbl : blen ≤ maxLen) (hf : lightF fs = false ∨ lightB xs 50 = false) (hT : S4.Tab w) :
    Calls Tryz.prog 4 #[.slice la len cap, .agg #[.int .i64 d.root, .int .i64 d.kind, .int .i64 d.file, .int .i64 d.rate, .int .i64 d.burst], .slice lb blen bcap] w fun e w' => e = .returned (.bool true) ∧ Below w.heap.size w w' := by
  have HLF : Hid (∀ W : World, Below w.heap.size w W → Calls Tryz.prog 6 #[.slice la len cap] W fun e w' => e = .returned (.bool (lightF fs)) ∧ w' = W) := fun W hb => lightFiles_any la len cap fs W (hF.below hb) hlen
  have HLA : Hid (∀ W : World, Below w.heap.size w W → Calls Tryz.prog 7 #[.slice lb blen bcap, .int .i64 50] W fun e w' => e = .returned (.bool (lightB xs 50)) ∧ w' = W) := fun W hb => light_any lb blen bcap 50 xs W (hA.below hb) hbl (by omega)
  have h0 : 0 < w.heap.size := World.block_lt_of_cell? w _ (hT 0 (by decide))
  have HB0 : Hid (Below w.heap.size w (w.alloc (deskC d))) := (Below.refl _ _).alloc (Nat.le_refl _) _
  have HMV := toHid (moves_any (w.alloc (deskC d)) (S4.Tab.below hT HB0.out h0) (Nat.lt_of_lt_of_le h0 HB0.out.size))
  clear hF hA hlen hbl hT
  generalize lightF fs = b1 at HLF hf
  generalize lightB xs 50 = b2 at HLA hf
  unfold deskC at HB0 HMV
  go_enter Tryz.func4, Tryz.ntmps4
  go_wp2_with fail
  refine HMV.out.mono ?_
  rintro e w1 ⟨rfl, hb1⟩
  have HB1 := toHid (HB0.out.trans (hb1.mono HB0.out.size))
  clear hb1 HMV
  go_wp2_with fail
  refine (HLF.out _ HB1.out).mono ?_
  rintro e w' ⟨rfl, hw⟩
  have hw' := hw.symm
  subst hw'
  clear hw
  cases b1 with
  | false =>
    go_wp2
    go_ret
    exact ⟨rfl, HB1.out⟩
  | true =>
    have hb2 : b2 = false := by simpa using hf
    subst hb2
    clear hf
    go_wp2_with fail
    refine (HLA.out _ HB1.out).mono ?_
    rintro e w' ⟨rfl, hw⟩
    have hw' := hw.symm
    subst hw'
    clear hw
    go_wp2
    go_ret
    exact ⟨rfl, HB1.out⟩

theorem size_actJ : (Tryz.prog.info? 43).map (·.size) = some 7 := by kernel_rfl

/- What a round looks at, behind the act. -/
theorem work_looks {B m : Nat} {w0 w : World} {k : Wk} (h : Worked B w0 k m w) : ∃ (kd fl st : Int) (ct : Nat) (gb : Bool),
    Calls Tryz.prog 19 #[.pointer (some ⟨k.jp, 0, none⟩)] w fun e w1 => e = .returned (.agg #[.int .i64 kd, .int .i64 fl, .int .i64 st, .int .i64 (ct : Int)]) ∧
      Calls Tryz.prog 20 #[.pointer (some ⟨k.xp, 0, none⟩)] w1 fun e w2 => e = .returned (.agg #[.int .i64 kd, .int .i64 fl, .int .i64 st, .int .i64 (ct : Int)]) ∧
        Calls Tryz.prog 21 #[.pointer (some ⟨k.jp, 0, none⟩)] w2 fun e w3 => e = .returned (.bool gb) ∧ w3 = w2 ∧
          Calls Tryz.prog 22 #[.pointer (some ⟨k.xp, 0, none⟩)] w2 fun e w4 => e = .returned (.bool gb) ∧ w4 = w2 ∧ Worked B w0 k m w2 := by
  obtain ⟨xs, qs, s, j, hW⟩ := h
  refine ⟨j.kind, j.file, j.state, S4.cnt j.x 64, decide (j.stage < 4), ?_⟩
  refine (status_any w hW.p.job hW.p.ok.set).mono ?_
  rintro e w1 ⟨rfl, hb1⟩
  have h1 := hW.below hb1
  refine ⟨rfl, (rstatus_any w1 h1.r.job).mono ?_⟩
  rintro e w2 ⟨rfl, hb2⟩
  have h2 := h1.below hb2
  refine ⟨rfl, (goes_any w2 h2.p.job).mono ?_⟩
  rintro e w3 ⟨rfl, rfl⟩
  have hg := rgoes_any w3 h2.r.job
  rw [goes_eq j] at hg
  refine ⟨rfl, rfl, hg.mono ?_⟩
  rintro e w4 ⟨rfl, rfl⟩
  exact ⟨rfl, rfl, xs, qs, s, j, h2⟩
end Go.Proofs.YtjegaljdindfaabGreatDoor

namespace Go.Proofs.YtjegaljdindfaabGreatDoor
open Go.RowKit Go.Maps
attribute [local go_sem ↓] Go.wp_at_zero Go.wp_at_succ

set_option maxRecDepth 100000 in
set_option maxHeartbeats 4000000 in
theorem jobs_rounds (la : Option Addr) (len cap : Nat) (fs : List FileV) (d : KDesk) (lb : Option Addr) (blen bcap : Nat) (xs : List ActV) (w : World) (hF : Files w la len fs) (hlen : len ≤ maxLen) (hA : Acts w lb blen xs) (hbl : blen ≤ maxLen) (hf1 : lightF fs = true) (hf2 : lightB xs 50 = true) (hT : S4.Tab w) :
    Calls Tryz.prog 4 #[.slice la len cap, .agg #[.int .i64 d.root, .int .i64 d.kind, .int .i64 d.file, .int .i64 d.rate, .int .i64 d.burst], .slice lb blen bcap] w fun e w' => e = .returned (.bool true) ∧ Below w.heap.size w w' := by
  have HLF : Hid (∀ W : World, Below w.heap.size w W → Calls Tryz.prog 6 #[.slice la len cap] W fun e w' => e = .returned (.bool true) ∧ w' = W) := fun W hb => by
    have := lightFiles_any la len cap fs W (hF.below hb) hlen
    rw [hf1] at this; exact this
  have HLA : Hid (∀ W : World, Below w.heap.size w W → Calls Tryz.prog 7 #[.slice lb blen bcap, .int .i64 50] W fun e w' => e = .returned (.bool true) ∧ w' = W) := fun W hb => by
    have := light_any lb blen bcap 50 xs W (hA.below hb) hbl (by omega)
    rw [hf2] at this; exact this
  have hb50 : blen ≤ 50 := by
    unfold lightB at hf2
    simp only [decide_eq_true_eq] at hf2
    have := hA.1
    omega
  have HLD : Hid (∀ W : World, Below w.heap.size w W → Calls Tryz.prog 8 #[.slice la len cap] W fun e w' => ∃ (sp mp : Nat) (xs : Nat → Ih) (qs : Nat → Qh), e = .returned (.tuple #[.pointer (some ⟨sp, 0, none⟩), .pointer (some ⟨mp, 0, none⟩), .bool true]) ∧ Lay W.heap.size W w' sp mp xs qs (filesS fs) 500) := fun W hb => by
    unfold lightF at hf1
    simp only [decide_eq_true_eq] at hf1
    have h1 := hF.1
    exact laid_any la len cap fs W (hF.below hb) (by omega) (fun k hk => hf1.2 k (by omega))
  have HAC : Hid (Acts w lb blen xs) := hA
  have h0 : 0 < w.heap.size := World.block_lt_of_cell? w _ (hT 0 (by decide))
  have HTB := toHid hT
  have HB0 : Hid (Below w.heap.size w (w.alloc (deskC d))) := (Below.refl _ _).alloc (Nat.le_refl _) _
  have HMV := toHid (moves_any (w.alloc (deskC d)) (S4.Tab.below hT HB0.out h0) (Nat.lt_of_lt_of_le h0 HB0.out.size))
  have HDR := toHid (desk_range d w)
  have HI : Hid ((Tryz.prog.info? 47).map (·.size) = some ([.int .i64 d.root, .int .i64 d.kind, .int .i64 d.file, .int .i64 d.rate, .int .i64 d.burst] : List Value).length) := size_desk
  clear hF hA hlen hbl hf1 hf2 hT
  generalize filesS fs = s at HLD
  unfold deskC at HB0 HMV HDR
  go_enter Tryz.func4, Tryz.ntmps4
  go_wp2_with fail
  refine HMV.out.mono ?_
  rintro e w1 ⟨rfl, hb1⟩
  have HB1 := toHid (HB0.out.trans (hb1.mono HB0.out.size))
  have HD1 := toHid hb1
  clear hb1 HMV
  go_wp2_with fail
  refine (HLF.out _ HB1.out).mono ?_
  rintro e w' ⟨rfl, hw⟩
  have hw' := hw.symm
  subst hw'
  clear hw
  go_wp2_with fail
  refine (HLA.out _ HB1.out).mono ?_
  rintro e w' ⟨rfl, hw⟩
  have hw' := hw.symm
  subst hw'
  clear hw
  go_wp2_with fail
  refine (HLD.out _ HB1.out).mono ?_
  rintro e w2 ⟨sp, mp, ys, qs, rfl, hL⟩
  have HL := toHid hL
  have HD2 := toHid (HD1.out.trans (hL.bel.mono HD1.out.size))
  have HR2 := toHid (HDR.out _ HD2.out)
  have HB2 : Hid (Below w.heap.size w w2) := HB1.out.trans (hL.bel.mono HB1.out.size)
  clear hL HLF HLA HLD
  have hnf := newF_pos s d
  by_cases hn : newF s d = 0
  · have HNP := toHid (new_good d w2 HL.out.prog hn)
    go_wp2_with (refine wpList_load_mid (by rfl) 47 (.tmp 4) (by rfl) w.heap.size 0 (by rfl) [.int .i64 d.root, .int .i64 d.kind, .int .i64 d.file, .int .i64 d.rate, .int .i64 d.burst] _ HR2.out Tryz.underlying47 rfl HI.out ?_)
    refine HNP.out.mono ?_
    rintro e w3 ⟨jp, lp, bp, C, a, cp, rfl, hP3, hq3, hb3, hJ⟩
    have HP3 := toHid hP3
    have HQ3 := toHid hq3
    have HBB3 := toHid hb3
    have HJ := toHid hJ
    have HR3 := toHid (HDR.out _ (HD2.out.trans (hb3.mono HD2.out.size)))
    have HRN := toHid (rnew_any d w3 (HL.out.ref.below hb3))
    clear hP3 hq3 hb3 hJ HNP HR2
    go_wp2_with (refine wpList_load_mid (by rfl) 47 (.tmp 4) (by rfl) w.heap.size 0 (by rfl) [.int .i64 d.root, .int .i64 d.kind, .int .i64 d.file, .int .i64 d.rate, .int .i64 d.burst] _ HR3.out Tryz.underlying47 rfl HI.out ?_)
    refine HRN.out.mono ?_
    rintro e w4 ⟨hb4, hor⟩
    obtain ⟨xp, bc, b, rfl, hx, hxb, hRJ⟩ : ∃ (xp bc : Nat) (b : Option Addr), e = .returned (.tuple #[.pointer (some ⟨xp, 0, none⟩), .int .i64 0]) ∧ w3.heap.size ≤ xp ∧ (∀ g o, b = some ⟨g, o, none⟩ → w3.heap.size ≤ g) ∧ ∀ C, JOk s C (newJ s d) → RJ w4 mp xp b bc qs s 500 C (newJ s d) 2 := by
      rcases hor with ⟨e1, _⟩ | ⟨_, xp, bc, b, e2, e3, e4, e5⟩
      · exact absurd hn e1
      · exact ⟨xp, bc, b, e2, e3, e4, e5⟩
    have hst : (newJ s d).state = 2 := rfl
    have hR4 := hRJ C HJ.out
    rw [← hst] at hR4
    have hW := Work.new HL.out HP3.out HQ3.out HBB3.out hR4 hx hxb hb4
    have HBk : Hid (w1.heap.size ≤ w2.heap.size) := HL.out.bel.size
    have HWK : Hid (Worked w1.heap.size w1 ⟨sp, jp, lp, bp, a, cp, mp, xp, b, bc, C⟩ (500 + 10 * 0) w4) := ⟨_, _, _, _, hW⟩
    have HT1 : Hid (S4.Tab w1) := S4.Tab.below HTB.out HB1.out h0
    have hB1 : 0 < w1.heap.size := Nat.lt_of_lt_of_le h0 HB1.out.size
    have HCH : Hid (∀ (m : Nat) (x : ActV) (W : World), Worked w1.heap.size w1 ⟨sp, jp, lp, bp, a, cp, mp, xp, b, bc, C⟩ m W → m + 10 < 1000000000 → Calls Tryz.prog 18 #[.pointer (some ⟨jp, 0, none⟩), .pointer (some ⟨xp, 0, none⟩), .agg #[.string x.kind, .int .i64 x.a, .int .i64 x.b, .int .i64 x.c, .int .i64 x.d, .string x.s, .slice x.ka x.kl x.kc]] W fun e w' => e = .returned (.bool true) ∧ Worked w1.heap.size w1 ⟨sp, jp, lp, bp, a, cp, mp, xp, b, bc, C⟩ (m + 10) w') := fun m x W hw hm => worked_any (k := ⟨sp, jp, lp, bp, a, cp, mp, xp, b, bc, C⟩) x W hw HT1.out hB1 hm
    have HLK : Hid (∀ (m : Nat) (W : World), Worked w1.heap.size w1 ⟨sp, jp, lp, bp, a, cp, mp, xp, b, bc, C⟩ m W → ∃ (kd fl st : Int) (ct : Nat) (gb : Bool),
        Calls Tryz.prog 19 #[.pointer (some ⟨jp, 0, none⟩)] W fun e w1' => e = .returned (.agg #[.int .i64 kd, .int .i64 fl, .int .i64 st, .int .i64 (ct : Int)]) ∧
          Calls Tryz.prog 20 #[.pointer (some ⟨xp, 0, none⟩)] w1' fun e w2' => e = .returned (.agg #[.int .i64 kd, .int .i64 fl, .int .i64 st, .int .i64 (ct : Int)]) ∧
            Calls Tryz.prog 21 #[.pointer (some ⟨jp, 0, none⟩)] w2' fun e w3' => e = .returned (.bool gb) ∧ w3' = w2' ∧
              Calls Tryz.prog 22 #[.pointer (some ⟨xp, 0, none⟩)] w2' fun e w4' => e = .returned (.bool gb) ∧ w4' = w2' ∧ Worked w1.heap.size w1 ⟨sp, jp, lp, bp, a, cp, mp, xp, b, bc, C⟩ m w2') := fun m W hw => work_looks hw
    have HWB : Hid (∀ (m : Nat) (W : World), Worked w1.heap.size w1 ⟨sp, jp, lp, bp, a, cp, mp, xp, b, bc, C⟩ m W → Below w.heap.size w W) := fun m W ⟨_, _, _, _, hw⟩ => HB1.out.trans (hw.bel.mono HB1.out.size)
    have HAS0 : Hid (∀ (m : Nat) (W : World), Worked w1.heap.size w1 ⟨sp, jp, lp, bp, a, cp, mp, xp, b, bc, C⟩ m W → m ≤ 1000000000 → Calls Tryz.prog 14 #[.pointer (some ⟨sp, 0, none⟩), .pointer (some ⟨mp, 0, none⟩)] W fun e w' => e = .returned (.bool true) ∧ Below W.heap.size W w') := fun m W ⟨_, _, _, _, hw⟩ hm => asShelf_any W hw.lay hm
    clear hb4 hor hx hxb hRJ hst hR4 hW HP3 HQ3 HBB3 HJ HRN HR3 HL HD2 HD1 HDR HB2 HI HTB HT1 HBk
    generalize (⟨sp, jp, lp, bp, a, cp, mp, xp, b, bc, C⟩ : Wk) = K at HWK HCH HLK HWB HAS0
    have HS0 : Hid (∀ W : World, Calls Tryz.prog 11 #[.nilIface, .int .i64 0] W fun e w' => e = .returned (.bool true) ∧ w' = W) := fun W => errSame_nil 0 W
    go_wp2_with fail
    refine (HS0.out _).mono ?_
    rintro e w' ⟨rfl, hw⟩
    have hw' := hw.symm
    subst hw'
    clear hw
    go_wp2
    go_loopw [14] (fun i wr => ∃ q : Nat, q ≤ blen ∧ i = .int .i64 (q : Int) ∧ Worked w1.heap.size w1 K (500 + 10 * q) wr) (fun i _ => blen - (intOf i).toNat)
    case atStart => exact ⟨0, Nat.zero_le _, rfl, HWK.out⟩
    case round =>
      clear HWK
      obtain ⟨q, hq, rfl, hy⟩ := hrel
      have HYK := toHid hy
      have HBK := toHid (HWB.out _ _ hy)
      clear hy
      by_cases hlt : q < blen
      · obtain ⟨blk, off, hla, hrg, hok⟩ := (HAC.out.below HBK.out).2 q hlt
        generalize xs.getD q ActV.none_ = y at hrg hok
        subst hla
        have HRG := toHid hrg
        have HI2 : Hid ((Tryz.prog.info? 43).map (·.size) = some y.cells.length) := size_actJ
        have HCK := toHid (HCH.out _ y wr HYK.out (by omega))
        clear hrg hok HCH
        have j0 : (0 : Int) ≤ (q : Int) := by omega
        have j1 : (q : Int) < (blen : Int) := by omega
        go_wp2_with (refine wpList_load_mid (by rfl) 43 (.tmp 73) (by rfl) blk (off + q * 7) (by rfl) y.cells _ HRG.out Tryz.underlying43 rfl HI2.out ?_)
        refine HCK.out.mono ?_
        rintro e w6 ⟨rfl, hy6⟩
        obtain ⟨kd, fl, st, ct, gb, hlk⟩ := HLK.out _ _ hy6
        have HLK6 := toHid hlk
        clear hy6 hlk HCK HYK HBK HRG HLK
        have gg : (gb == gb) = true := by simp
        go_wp2_with fail
        refine HLK6.out.mono ?_
        rintro e w7 ⟨rfl, h7⟩
        have H7 := toHid h7
        clear h7 HLK6
        go_wp2_with fail
        refine H7.out.mono ?_
        rintro e w8 ⟨rfl, h8⟩
        have H8 := toHid h8
        clear h8 H7
        go_wp2_with fail
        refine H8.out.mono ?_
        rintro e w9 ⟨rfl, hw9, h9⟩
        have H9 := toHid h9
        have hw9' := hw9.symm
        subst hw9'
        clear hw9 h9 H8
        go_wp2_with fail
        refine H9.out.mono ?_
        rintro e w10 ⟨rfl, hw10, hy10⟩
        have HY10 := toHid hy10
        have hw10' := hw10.symm
        subst hw10'
        clear hw10 hy10 H9
        go_wp2
        go_roundw
        case rel =>
          have fin : ∃ q1 : Nat, q1 ≤ blen ∧ Value.int .i64 ((q : Int) + 1) = .int .i64 (q1 : Int) ∧ Worked w1.heap.size w1 K (500 + 10 * q1) _ := ⟨q + 1, by omega, by go_num, by rw [show 500 + 10 * (q + 1) = 500 + 10 * q + 10 by omega]; exact HY10.out⟩
          first | exact fin | ((repeat apply Exists.intro); exact ⟨fin, rfl⟩)
        case measure => simp [intOf]; omega
      · have hke : q = blen := by omega
        have HAS := toHid (HAS0.out _ _ HYK.out (by omega))
        have gk : decide ((q : Int) < (blen : Int)) = false := decide_eq_false (by omega)
        go_wp2_with fail
        refine HAS.out.mono ?_
        rintro e w6 ⟨rfl, hb6⟩
        have HB6 : Hid (Below w.heap.size w w6) := HBK.out.trans (hb6.mono HBK.out.size)
        clear hb6
        go_wp2
        go_ret
        exact ⟨rfl, HB6.out⟩
  · have HNP := toHid (new_bad d w2 HL.out.prog hn)
    go_wp2_with (refine wpList_load_mid (by rfl) 47 (.tmp 4) (by rfl) w.heap.size 0 (by rfl) [.int .i64 d.root, .int .i64 d.kind, .int .i64 d.file, .int .i64 d.rate, .int .i64 d.burst] _ HR2.out Tryz.underlying47 rfl HI.out ?_)
    refine HNP.out.mono ?_
    rintro e w3 ⟨rfl, hb3⟩
    have HB3 : Hid (Below w.heap.size w w3) := HB2.out.trans (hb3.mono HB2.out.size)
    have HR3 := toHid (HDR.out _ (HD2.out.trans (hb3.mono HD2.out.size)))
    have HRN := toHid (rnew_any d w3 (HL.out.ref.below hb3))
    clear hb3 HNP HR2
    go_wp2_with (refine wpList_load_mid (by rfl) 47 (.tmp 4) (by rfl) w.heap.size 0 (by rfl) [.int .i64 d.root, .int .i64 d.kind, .int .i64 d.file, .int .i64 d.rate, .int .i64 d.burst] _ HR3.out Tryz.underlying47 rfl HI.out ?_)
    refine HRN.out.mono ?_
    rintro e w4 ⟨hb4, hor⟩
    obtain rfl : e = .returned (.tuple #[.pointer none, .int .i64 (newF s d)]) := by
      rcases hor with ⟨_, e1⟩ | ⟨e1, _⟩
      · exact e1
      · exact absurd e1 hn
    have HB4 : Hid (Below w.heap.size w w4) := HB3.out.trans (hb4.mono HB3.out.size)
    have HSM : Hid (∀ W : World, Calls Tryz.prog 11 #[erV (newF s d), .int .i64 (newF s d)] W fun e w' => e = .returned (.bool true) ∧ w' = W) := fun W => errSame _ W hnf
    clear hb4 hor HRN HR3 HB3 HL HD2 HDR
    generalize erV (newF s d) = ef at HSM ⊢
    generalize newF s d = nf at HSM hn hnf ⊢
    go_wp2_with fail
    refine (HSM.out _).mono ?_
    rintro e w' ⟨rfl, hw⟩
    have hw' := hw.symm
    subst hw'
    clear hw
    go_wp2
    go_ret
    exact ⟨rfl, HB4.out⟩

theorem jobs_all (la : Option Addr) (len cap : Nat) (fs : List FileV) (d : KDesk) (lb : Option Addr) (blen bcap : Nat) (xs : List ActV) (w : World) (hF : Files w la len fs) (hlen : len ≤ maxLen) (hA : Acts w lb blen xs) (hbl : blen ≤ maxLen) (hT : S4.Tab w) :
    Calls Tryz.prog 4 #[.slice la len cap, .agg #[.int .i64 d.root, .int .i64 d.kind, .int .i64 d.file, .int .i64 d.rate, .int .i64 d.burst], .slice lb blen bcap] w fun e w' => e = .returned (.bool true) ∧ Below w.heap.size w w' := by
  cases h1 : lightF fs with
  | false => exact jobs_early la len cap fs d lb blen bcap xs w hF hlen hA hbl (.inl h1) hT
  | true =>
    cases h2 : lightB xs 50 with
    | false => exact jobs_early la len cap fs d lb blen bcap xs w hF hlen hA hbl (.inr h2) hT
    | true => exact jobs_rounds la len cap fs d lb blen bcap xs w hF hlen hA hbl h1 h2 hT
end Go.Proofs.YtjegaljdindfaabGreatDoor

namespace Go.Proofs.YtjegaljdindfaabGreatDoor
open Go.RowKit Go.ChangeShapes Go.WideShapes

section
variable {H : Type} {enc : TypeId × Value → H}

theorem open_nums {w : World} {fuel : Nat} {v : Value} {x : DataW H × List MemPlace} (h : DataW.trod enc Tryz.prog w 0 (fun _ => true) true fuel 31 [v] = some x) :
    ∃ ia il ic is, v = .slice ia il ic ∧ il ≤ maxLen ∧ Nums w ia is ∧ is.length = il := by
  rcases open_ints Tryz.underlying31 Tryz.underlying3 (by kernel_rfl) h with ⟨hcs, _⟩ | ⟨a, len, cap, zs, hcs, _, hl, hm, hz, _, hcell, _⟩
  · have : v = .slice none 0 0 := by simpa using hcs
    exact ⟨none, 0, 0, [], this, Nat.zero_le _, Nums.nil _ _, rfl⟩
  · have : v = .slice (some a) len cap := by simpa using hcs
    simp only [if_true] at hz
    refine ⟨some a, len, cap, zs.take len, this, by omega, fun j hj => ?_, by rw [List.length_take]; omega⟩
    have hj' : j < len := by rw [List.length_take] at hj; omega
    obtain ⟨b, off, spot⟩ := a
    have h0 := hcell 0 (by omega)
    have hspot : spot = none := by simpa [Addr.add] using World.cell?_spot h0
    subst hspot
    refine ⟨b, off, rfl, ?_⟩
    rw [← Go.WideShapes.add_plain, hcell j (by omega)]
    simp [List.getD, hj']

set_option maxRecDepth 100000 in
theorem open_headC {w : World} {fuel : Nat} {cs : List Value} {x : DataW H × List MemPlace} (h : DataW.trod enc Tryz.prog w 0 (fun _ => true) true fuel 60 cs = some x) :
    ∃ c p b : Int, cs = [.int .i64 c, .int .i64 p, .int .i64 b] := by
  obtain ⟨xs, n, _, _, hl, hlen, hf⟩ := DataW.trod_struct Tryz.underlying60 h
  have h7 : cs.length = 3 := by rw [hl]; kernel_rfl
  have c3 : Tryz.prog.cellsOf 3 = 1 := by kernel_rfl
  match cs, h7, xs, hlen with
  | [v0, v1, v2], _, [y0, y1, y2], _ =>
    have f0 : DataW.trod enc Tryz.prog w 0 (fun _ => true) true n 3 [v0] = some y0 := by simpa [c3] using hf 0 _ rfl
    have f1 : DataW.trod enc Tryz.prog w 0 (fun _ => true) true n 3 [v1] = some y1 := by simpa [c3] using hf 1 _ rfl
    have f2 : DataW.trod enc Tryz.prog w 0 (fun _ => true) true n 3 [v2] = some y2 := by simpa [c3] using hf 2 _ rfl
    obtain ⟨a0, e0, _, _⟩ := DataW.trod_int Tryz.underlying3 f0
    obtain ⟨a1, e1, _, _⟩ := DataW.trod_int Tryz.underlying3 f1
    obtain ⟨a2, e2, _, _⟩ := DataW.trod_int Tryz.underlying3 f2
    simp only [List.cons.injEq, and_true] at e0 e1 e2
    subst e0 e1 e2
    exact ⟨a0, a1, a2, rfl⟩

set_option maxRecDepth 100000 in
theorem open_file {w : World} {fuel : Nat} {cs : List Value} {x : DataW H × List MemPlace} (h : DataW.trod enc Tryz.prog w 0 (fun _ => true) true fuel 62 cs = some x) :
    ∃ y : FileV, cs = y.cells ∧ FileOk w y := by
  obtain ⟨xs, n, _, _, hl, hlen, hf⟩ := DataW.trod_struct Tryz.underlying62 h
  have h5 : cs.length = 5 := by rw [hl]; kernel_rfl
  have cb : Tryz.prog.cellsOf 4 = 1 := by kernel_rfl
  have ch : Tryz.prog.cellsOf 60 = 3 := by kernel_rfl
  have ci : Tryz.prog.cellsOf 31 = 1 := by kernel_rfl
  match cs, h5, xs, hlen with
  | [v0, v1, v2, v3, v4], _, [y0, y1, y2], _ =>
    have f0 : DataW.trod enc Tryz.prog w 0 (fun _ => true) true n 4 [v0] = some y0 := by simpa [cb] using hf 0 _ rfl
    have f1 : DataW.trod enc Tryz.prog w 0 (fun _ => true) true n 60 [v1, v2, v3] = some y1 := by simpa [ch] using hf 1 _ rfl
    have f2 : DataW.trod enc Tryz.prog w 0 (fun _ => true) true n 31 [v4] = some y2 := by simpa [ci] using hf 2 _ rfl
    obtain ⟨b0, e0, _⟩ := DataW.trod_bool Tryz.underlying4 f0
    obtain ⟨c, p, b, e1⟩ := open_headC f1
    obtain ⟨ia, il, ic, is, e2, m2, hn, hi⟩ := open_nums f2
    simp only [List.cons.injEq, and_true] at e0 e1
    obtain ⟨rfl, rfl, rfl⟩ := e1
    subst e0 e2
    exact ⟨⟨b0, c, p, b, ia, il, ic, is⟩, rfl, hn, hi, m2⟩

theorem open_files {w : World} {la : Option Addr} {len cap fuel : Nat} {x : DataW H × List MemPlace} (h : DataW.trod enc Tryz.prog w 0 (fun _ => true) true fuel 22 [.slice la len cap] = some x) :
    ∃ xs, Files w la len xs ∧ len ≤ maxLen := by
  rcases Go.Deep.open_slice Tryz.underlying22 h with ⟨hcs, _⟩ | ⟨a, len', cap', m, n, D, Pl, hcs, _, hl, hm, hmm, _, hx⟩
  · simp at hcs
    obtain ⟨rfl, rfl, rfl⟩ := hcs
    exact ⟨[], ⟨rfl, fun k hk => by omega⟩, by unfold maxLen; omega⟩
  · simp at hcs
    obtain ⟨rfl, rfl, rfl⟩ := hcs
    have c47 : Tryz.prog.cellsOf 62 = 5 := by kernel_rfl
    simp only [if_true] at hmm
    subst hmm
    have : ∀ i, i < len → ∃ y : FileV, (∀ j, j < 5 → w.cell? (a.add (i * 5 + j)) = y.cells[j]?) ∧ FileOk w y := fun i hi => by
      obtain ⟨cs', h1, h2⟩ := hx i (by omega)
      obtain ⟨y, rfl, hok⟩ := open_file h2
      obtain ⟨_, _, hc⟩ := World.cells?_some h1
      rw [c47] at hc
      exact ⟨y, fun j hj => by rw [← Go.Deep.add_add]; exact hc j hj, hok⟩
    refine ⟨(List.range len).attach.map fun i => Classical.choose (this i.1 (List.mem_range.1 i.2)), ⟨by simp, fun k hk => ?_⟩, by omega⟩
    have hk' := this k hk
    have e : ((List.range len).attach.map fun i => Classical.choose (this i.1 (List.mem_range.1 i.2))).getD k FileV.none_ = Classical.choose (this k hk) := by
      simp [List.getD, hk]
    rw [e]
    obtain ⟨hc, hok⟩ := Classical.choose_spec (this k hk)
    obtain ⟨b, off, spot⟩ := a
    have hc0 := (Classical.choose_spec (this 0 (by omega))).1 0 (by omega)
    have hspot : spot = none := by
      have h0 : w.cell? ((⟨b, off, spot⟩ : Addr).add (0 * 5 + 0)) = some (.bool (Classical.choose (this 0 (by omega))).there) := hc0.trans rfl
      simpa [Addr.add] using World.cell?_spot h0
    subst hspot
    refine ⟨b, off, rfl, fun j v hv => ?_, hok⟩
    have hj : j < 5 := by
      rcases Nat.lt_or_ge j 5 with q | q
      · exact q
      · rw [List.getElem?_eq_none (by exact q)] at hv; cases hv
    have := hc j hj
    rw [Go.WideShapes.add_plain, hv] at this
    rw [show off + k * 5 + j = off + (k * 5 + j) by omega]; exact this
end
end Go.Proofs.YtjegaljdindfaabGreatDoor
