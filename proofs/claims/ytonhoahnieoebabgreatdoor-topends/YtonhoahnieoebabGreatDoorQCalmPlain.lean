/-
A yard and its guest are made.
Acts that came in: their second number is one of the language's.
TopGuest: its rounds.
Nothing is armed: no device of a yard is to fail, behind each act; then what fails is not for a device's sake.
-/
import Derived.Test.YtonhoahnieoebabGreatDoorQYardN2
import Derived.OwnWalk
import Derived.Test.YtonhoahnieoebabGreatDoorQGuestP5
import Derived.Test.YtonhoahnieoebabGreatDoorQGuestP2
import Derived.Test.YtonhoahnieoebabGreatDoorQActs
import Derived.Test.YtonhoahnieoebabGreatDoorQYardP1
import Derived.Test.YtonhoahnieoebabGreatDoorQYardGuest
import Derived.Test.YtonhoahnieoebabGreatDoorQYardWalk
namespace Go.Proofs.YtonhoahnieoebabGreatDoor
open Go.RowKit Go.Maps
attribute [local go_sem ↓] Go.wp_at_zero Go.wp_at_succ

/- A yard without a job: where a job would lie is nothing to it. -/
theorem IsYard.noJob {w : World} {yp : Nat} {Y : Yh} {y : YV} (h : IsYard w yp Y y) (hj : y.j = none) (b : Jh) : IsYard w yp ⟨Y.ds, Y.tp, Y.xs, b⟩ y := by
  refine ⟨?_, h.img, h.dev, h.top, h.apart, h.apTop, fun j e => by rw [hj] at e; cases e⟩
  have := h.blk
  rw [hj] at this ⊢
  exact ⟨this.is⟩
theorem fpY_noJob {yp : Nat} {Y : Yh} {y : YV} (hj : y.j = none) {b : Jh} {k : Nat} (h : fpY yp ⟨Y.ds, Y.tp, Y.xs, b⟩ y k) : fpY yp Y y k := by
  rcases h with e | e | e | e
  · exact .inl e
  · exact .inr (.inl e)
  · exact .inr (.inr (.inl e))
  · exact absurd hj e.1

def gv0 : GV := ⟨fun _ => [noughts], fun _ => [noughts]⟩
/- May a yard be made? -/
def madeB (c p : Int) : Bool := decide (1 ≤ c ∧ c ≤ 32 ∧ 0 ≤ p ∧ p ≤ 40)

theorem need_le (c p : Int) (h : 1 ≤ c ∧ c ≤ 32 ∧ 0 ≤ p ∧ p ≤ 40) : (newH c p).ok = true ∧ needN (newH c p) ≤ 200 := by
  refine ⟨?_, ?_⟩
  · show decide (1 ≤ c ∧ c ≤ 32 ∧ 0 ≤ p ∧ p ≤ 40 ∧ (-1 : Int) ≤ -1 ∧ (-1 : Int) ≤ 4) = true
    exact decide_eq_true (by omega)
  · unfold needN beginN newH
    simp only []
    unfold rowsN
    show 1 + (c.toNat + 7) / 8 + 4 * p.toNat ≤ 200
    omega

set_option maxRecDepth 100000 in
set_option maxHeartbeats 1000000 in
theorem made_no (c p : Int) (w : World) (h : madeB c p = false) :
    Calls Tryz.prog 41 #[.int .i64 c, .int .i64 p] w fun e w' => e = .returned (.tuple #[.pointer none, .pointer none, .bool false]) ∧ w' = w := by
  have h' : ¬ (1 ≤ c ∧ c ≤ 32 ∧ 0 ≤ p ∧ p ≤ 40) := of_decide_eq_false h
  clear h
  by_cases h1 : c < 1
  · have f1 : decide (c < 1) = true := decide_eq_true h1
    clear h'
    go_enter Tryz.func41, Tryz.ntmps41
    go_wp2
    go_ret3
    exact ⟨rfl, rfl⟩
  by_cases h2 : 32 < c
  · have f1 : decide (c < 1) = false := decide_eq_false h1
    have f2 : decide (32 < c) = true := decide_eq_true h2
    clear h'
    go_enter Tryz.func41, Tryz.ntmps41
    go_wp2
    go_ret3
    exact ⟨rfl, rfl⟩
  by_cases h3 : p < 0
  · have f1 : decide (c < 1) = false := decide_eq_false h1
    have f2 : decide (32 < c) = false := decide_eq_false h2
    have f3 : decide (p < 0) = true := decide_eq_true h3
    clear h'
    go_enter Tryz.func41, Tryz.ntmps41
    go_wp2
    go_ret3
    exact ⟨rfl, rfl⟩
  · have f1 : decide (c < 1) = false := decide_eq_false h1
    have f2 : decide (32 < c) = false := decide_eq_false h2
    have f3 : decide (p < 0) = false := decide_eq_false h3
    have f4 : decide (40 < p) = true := decide_eq_true (by omega)
    clear h'
    go_enter Tryz.func41, Tryz.ntmps41
    go_wp2
    go_ret3
    exact ⟨rfl, rfl⟩

set_option maxRecDepth 100000 in
set_option maxHeartbeats 1000000 in
theorem made_yes (c p : Int) (w : World) (h : madeB c p = true) :
    Calls Tryz.prog 41 #[.int .i64 c, .int .i64 p] w fun e w' => ∃ (yp gp : Nat) (Y : Yh) (G : Gh), e = .returned (.tuple #[.pointer (some ⟨yp, 0, none⟩), .pointer (some ⟨gp, 0, none⟩), .bool true]) ∧ YGd w.heap.size w w' yp Y (newY c p) gp G (4 * c.toNat) gv0 := by
  have h' : 1 ≤ c ∧ c ≤ 32 ∧ 0 ≤ p ∧ p ≤ 40 := of_decide_eq_true h
  clear h
  obtain ⟨q1, q2, q3, q4⟩ := h'
  have f1 : decide (c < 1) = false := decide_eq_false (by omega)
  have f2 : decide (32 < c) = false := decide_eq_false (by omega)
  have f3 : decide (p < 0) = false := decide_eq_false (by omega)
  have f4 : decide (40 < p) = false := decide_eq_false (by omega)
  have HY := toHid (ynew_good c p w (need_le c p ⟨q1, q2, q3, q4⟩).1 (need_le c p ⟨q1, q2, q3, q4⟩).2)
  have k4 : IntKind.i64.wrap (4 * c) = 4 * c := IntWalk.i64_in _ (by omega)
  go_enter Tryz.func41, Tryz.ntmps41
  go_wp2_with fail
  refine HY.out.mono ?_
  rintro e w1 ⟨yp, Y, rfl, hY, hf, hb⟩
  have HI : Hid (IsYard w1 yp Y (newY c p)) := hY
  have HF : Hid (∀ b, fpY yp Y (newY c p) b → w.heap.size ≤ b) := hf
  have HB : Hid (Below w.heap.size w w1) := hb
  clear hY hf hb
  go_wp2_with fail
  have e4 : 4 * c = ((4 * c.toNat : Nat) : Int) := by omega
  rw [e4]
  refine (fresh_any (4 * c.toNat) w1 (by omega)).mono ?_
  rintro e w2 ⟨gp, G, rfl, hG, hf2, hb2⟩
  have HG : Hid (IsG w2 gp G (4 * c.toNat) gv0) := hG
  have HF2 : Hid (∀ k, fpG gp G (4 * c.toNat) k → w1.heap.size ≤ k) := hf2
  have HB2 : Hid (Below w1.heap.size w1 w2) := hb2
  clear hG hf2 hb2
  go_wp2
  go_ret3
  have hj : (newY c p).j = none := rfl
  refine ⟨yp, gp, ⟨Y.ds, Y.tp, Y.xs, ⟨0, 0, 0, none, 0⟩⟩, G, rfl, (HI.out.noJob hj _).below HB2.out, HG.out, fun k hk hg => ?_, (fun q o e => by cases e), (fun q o e => by cases e), fun k hk => HF.out k (fpY_noJob hj hk), fun k hk => Nat.le_trans HB.out.size (HF2.out k hk), HB.out.trans (HB2.out.mono HB.out.size), Nat.le_refl _⟩
  have h1 := HI.out.fp_lt (fpY_noJob hj hk)
  have h2 := HF2.out k hg
  omega
end Go.Proofs.YtonhoahnieoebabGreatDoor

namespace Go.Proofs.YtonhoahnieoebabGreatDoor
open Go.RowKit Go.ChangeShapes Go.WideShapes
section
variable {H : Type} {enc : TypeId × Value → H}

set_option maxRecDepth 100000 in
theorem open_actB {w : World} {fuel : Nat} {cs : List Value} {x : DataW H × List MemPlace} (h : DataW.trod enc Tryz.prog w 0 (fun _ => true) true fuel 43 cs = some x) :
    ∃ b : Int, cs[2]? = some (.int .i64 b) ∧ -9223372036854775808 ≤ b ∧ b ≤ 9223372036854775807 := by
  obtain ⟨xs, n, _, _, hl, hlen, hf⟩ := DataW.trod_struct Tryz.underlying43 h
  have h7 : cs.length = 7 := by rw [hl]; kernel_rfl
  have c3 : Tryz.prog.cellsOf 3 = 1 := by kernel_rfl
  have c9 : Tryz.prog.cellsOf 9 = 1 := by kernel_rfl
  match cs, h7, xs, hlen with
  | [v0, v1, v2, v3, v4, v5, v6], _, [y0, y1, y2, y3, y4, y5, y6], _ =>
    have f2 : DataW.trod enc Tryz.prog w 0 (fun _ => true) true n 3 [v2] = some y2 := by simpa [c3, c9] using hf 2 _ rfl
    obtain ⟨a2, e2, _, w2⟩ := DataW.trod_int Tryz.underlying3 f2
    simp only [List.cons.injEq, and_true] at e2
    subst e2
    have b2 := bounds_i64 w2
    exact ⟨a2, rfl, b2.1, b2.2⟩

def ActsB (xs : List ActV) : Prop := ∀ k, k < xs.length → -9223372036854775808 ≤ (xs.getD k ActV.none_).b ∧ (xs.getD k ActV.none_).b ≤ 9223372036854775807

theorem open_actsB {w : World} {la : Option Addr} {len cap fuel : Nat} {x : DataW H × List MemPlace} (h : DataW.trod enc Tryz.prog w 0 (fun _ => true) true fuel 23 [.slice la len cap] = some x) :
    ∃ xs, Acts w la len xs ∧ len ≤ maxLen ∧ ActsB xs := by
  obtain ⟨xs, hT, hl0⟩ := open_acts h
  refine ⟨xs, hT, hl0, fun k hk => ?_⟩
  have hkl : k < len := by have := hT.1; omega
  obtain ⟨b, off, e, hr, _⟩ := hT.2 k hkl
  rcases Go.Deep.open_slice Tryz.underlying23 h with ⟨hcs, _⟩ | ⟨a, len', cap', m, n, D, Pl, hcs, _, hl, hm, hmm, _, hx⟩
  · simp at hcs
    obtain ⟨rfl, rfl, rfl⟩ := hcs
    omega
  · simp at hcs
    obtain ⟨rfl, rfl, rfl⟩ := hcs
    cases e
    have c47 : Tryz.prog.cellsOf 43 = 7 := by kernel_rfl
    simp only [if_true] at hmm
    subst hmm
    obtain ⟨cs', h1, h2⟩ := hx k (by omega)
    obtain ⟨b2, e2, e3⟩ := open_actB h2
    obtain ⟨_, _, hc⟩ := World.cells?_some h1
    rw [c47] at hc
    have h3 := hc 2 (by omega)
    rw [e2, Go.Deep.add_add, Go.WideShapes.add_plain] at h3
    have h4 := hr 2 (.int .i64 (xs.getD k ActV.none_).b) rfl
    rw [show off + k * 7 + 2 = off + (k * 7 + 2) by omega, h3] at h4
    cases h4
    exact e3
end
end Go.Proofs.YtonhoahnieoebabGreatDoor

namespace Go.Proofs.YtonhoahnieoebabGreatDoor
open Go.RowKit Go.Maps
attribute [local go_sem ↓] Go.wp_at_zero Go.wp_at_succ

theorem size_actG : (Tryz.prog.info? 43).map (·.size) = some 7 := by kernel_rfl

end Go.Proofs.YtonhoahnieoebabGreatDoor

namespace Go.Proofs.YtonhoahnieoebabGreatDoor
open Go.RowKit

/- Devices. -/
theorem calm_put {d : DV} (h : d.fail = -1) (i : Nat) (s : List UInt8) : (d.put i s).fail = -1 := by
  unfold DV.put
  rw [if_neg (by rw [h]; decide)]
  unfold DV.ticked
  rw [if_pos h]
  exact h
theorem calm_putF {d : DV} (h : d.fail = -1) : d.putF = 0 := by
  unfold DV.putF
  rw [if_neg (by rw [h]; decide)]
theorem calm_puts {d : DV} (h : d.fail = -1) (a : Nat) (s : ByteArray) : ∀ k, (d.puts a s k).1.fail = -1 ∧ (d.puts a s k).2 = 0 := by
  intro k
  induction k with
  | zero => exact ⟨h, rfl⟩
  | succ k ih =>
    rw [DV.puts_yes ih.2]
    exact ⟨calm_put ih.1 _ _, calm_putF ih.1⟩
theorem calm_rows {d : DV} (h : d.fail = -1) (t : List (Int × Int)) : ∀ k, (d.rowsP t k).1.fail = -1 ∧ (d.rowsP t k).2 = 0 := by
  intro k
  induction k with
  | zero => exact ⟨h, rfl⟩
  | succ k ih =>
    show (if (d.rowsP t k).2 = 0 then _ else d.rowsP t k : DV × Int).1.fail = -1 ∧ (if (d.rowsP t k).2 = 0 then _ else d.rowsP t k : DV × Int).2 = 0
    rw [if_pos ih.2]
    exact ⟨calm_put ih.1 _ _, calm_putF ih.1⟩

/- Images. -/
theorem calm_set {v : IV} (h : v.d.fail = -1) (c : Nat) (e : Int × Int) : (v.set c e).d.fail = -1 := by
  unfold IV.set
  split <;> exact calm_put h _ _
theorem calm_head {v : IV} (h : v.d.fail = -1) (hd : HV) : (v.headV hd).d.fail = -1 := by
  unfold IV.headV
  split
  · exact calm_put (d := v.flush.d) h _ _
  · exact calm_put (d := v.flush.d) h _ _
theorem calm_write {v : IV} (h : v.d.fail = -1) (c f : Int) (s : ByteArray) : (v.write c f s).d.fail = -1 := by
  unfold IV.write
  split
  · exact (calm_puts h _ _ _).1
  · exact h
theorem calm_fill {v : IV} (h : v.d.fail = -1) (c : Int) (s : ByteArray) : (v.fill c s).d.fail = -1 := by
  unfold IV.fill
  split
  · split
    · exact h
    · split
      · exact h
      · split
        · exact calm_set (v := v.fillV _ s) (calm_puts h _ _ _).1 _ _
        · exact (calm_puts h _ _ _).1
  · exact h
theorem calm_clear {v : IV} (h : v.d.fail = -1) (c : Int) : (v.clear c).d.fail = -1 := by
  unfold IV.clear
  split
  · exact calm_set h _ _
  · exact h
theorem calm_link {v : IV} (h : v.d.fail = -1) (b : Int) : (v.link b).d.fail = -1 := by
  unfold IV.link
  split
  · exact calm_head h _
  · exact h
theorem calm_cr {d : DV} (h : d.fail = -1) (hd : HV) : (crV d hd).d.fail = -1 := calm_head (v := crV0 d hd) (calm_rows h _ _).1 _
theorem calm_left {d : DV} (h : d.fail = -1) (hd : HV) : (crLeft d hd).fail = -1 := by
  unfold crLeft
  split
  · split
    · exact calm_cr h hd
    · exact (calm_rows h _ _).1
  · exact h

/- Shelves. -/
def SCalm (s : SV) : Prop := ∀ i v, s i = some v → v.d.fail = -1
theorem SCalm.file {s : SV} (h : SCalm s) {n : Int} {v : IV} (hf : s.file n = some v) : v.d.fail = -1 := h _ _ (SV.file_of hf).2.2
theorem SCalm.upd {s : SV} (h : SCalm s) (i : Nat) {u : IV} (hu : u.d.fail = -1) : SCalm (s.upd i u) := fun k v e => by
  unfold SV.upd at e
  split at e
  · cases e; exact hu
  · exact h k v e
theorem SCalm.gone {s : SV} (h : SCalm s) (i : Nat) : SCalm (s.gone i) := fun k v e => by
  unfold SV.gone at e
  split at e
  · cases e
  · exact h k v e
theorem SCalm.lay {s : SV} (h : SCalm s) (l : List Int) (c f : Nat) (t : ByteArray) : SCalm (s.lay l c f t).1 := by
  unfold SV.lay
  split
  · exact h
  · split
    · exact h
    · next v hf =>
      split
      · exact h.upd _ (calm_write (h.file hf) _ _ _)
      · exact h.upd _ (calm_fill (h.file hf) _ _)
theorem SCalm.wipePt {s : SV} (h : SCalm s) (l : List Int) (p : Pt) : SCalm (SV.wipePt l s p).1 := by
  unfold SV.wipePt
  split
  · exact h
  · split
    · exact h
    · next v hf =>
      split
      · exact h.upd _ (calm_clear (h.file hf) _)
      · split
        · exact h
        · exact h.lay _ _ _ _
theorem SCalm.goPts {op : SV → Pt → SV × Int} (hop : ∀ (s : SV) p, SCalm s → SCalm (op s p).1) : ∀ (P : List Pt) (s : SV), SCalm s → SCalm (goPts op s P).1 := by
  intro P
  induction P with
  | nil => intro s h; exact h
  | cons p r ih =>
    intro s h
    rw [goPts_cons]
    split
    · exact ih _ (hop s p h)
    · exact hop s p h
theorem SCalm.put {s : SV} (h : SCalm s) (l : List Int) (fr : Int) (t : ByteArray) : SCalm (s.put l fr t).1 := by
  unfold SV.put
  split
  · split
    · exact SCalm.goPts (fun s p h => h.lay _ _ _ _) _ _ h
    · exact h
  · exact h
theorem SCalm.wipe {s : SV} (h : SCalm s) (l : List Int) (fr n : Int) : SCalm (s.wipe l fr n).1 := by
  unfold SV.wipe
  split
  · exact SCalm.goPts (fun s p h => h.wipePt _ _) _ _ h
  · exact h
theorem SCalm.move {s : SV} (h : SCalm s) (n c : Int) (t : ByteArray) : SCalm (s.move n c t).1 := by
  unfold SV.move
  split
  · exact h
  · next v hf =>
    split
    · exact h.upd _ (calm_clear (h.file hf) _)
    · split
      · exact h.upd _ (calm_write (h.file hf) _ _ _)
      · exact h.upd _ (calm_fill (h.file hf) _ _)
theorem SCalm.flush1 {s : SV} (h : SCalm s) (n : Int) : SCalm (s.flush1 n) := by
  unfold SV.flush1
  split
  · exact h
  · next v hf => exact h.upd _ (u := v.flush) (show v.d.fail = -1 from h.file hf)
theorem SCalm.flushL : ∀ (l : List Int) {s : SV}, SCalm s → SCalm (s.flushL l) := by
  intro l
  induction l with
  | nil => intro s h; exact h
  | cons n r ih => intro s h; exact ih (h.flush1 n)
theorem SCalm.link {s : SV} (h : SCalm s) (n b : Int) : SCalm (linkS s n b).1 := by
  unfold linkS
  split
  · exact h
  · next v hf => exact h.upd _ (calm_link (h.file hf) b)
theorem SCalm.step {s : SV} (h : SCalm s) (j : JV) : SCalm (stepS s j) := by
  unfold stepS
  split
  · exact h.move _ _ _
  · exact h
theorem SCalm.settle {s : SV} (h : SCalm s) (j : JV) : SCalm (settleS s j) := by
  unfold settleS
  split
  · split
    · exact h.link _ _
    · exact SCalm.flushL _ h
  · exact h

/- Yards. -/
structure YCalm (y : YV) : Prop where
  s : SCalm y.s
  dv : ∀ i, (y.dv i).fail = -1
  top : y.top.fail = -1
theorem YCalm.deskF {y : YV} (h : YCalm y) : y.deskF = 0 := calm_putF h.top
theorem YCalm.desk {y : YV} (h : YCalm y) (d : KDesk) : YCalm (y.desk d) := by
  unfold YV.desk
  split
  · exact ⟨h.s, h.dv, calm_put (d := y.top) h.top _ _⟩
  · exact ⟨h.s, h.dv, calm_put h.top _ _⟩
theorem YCalm.dev {y : YV} (h : YCalm y) (i : Nat) : (y.dev i).fail = -1 := by
  unfold YV.dev
  split
  · next v hv => exact h.s _ _ hv
  · exact h.dv i
theorem YCalm.blank {y : YV} (h : YCalm y) (f back : Int) : YCalm (y.blank f back) := by
  unfold YV.blank
  split
  · split
    · exact h
    · split
      · exact ⟨h.s.upd _ (calm_cr (h.dev _) _), h.dv, h.top⟩
      · refine ⟨h.s.gone _, fun i => ?_, h.top⟩
        show (if i = f.toNat then crLeft (y.dev f.toNat) (y.head f back) else y.dv i).fail = -1
        split
        · exact calm_left (h.dev _) _
        · exact h.dv i
  · exact h
theorem YCalm.snap {y : YV} (h : YCalm y) (f : Int) : YCalm (y.snap f) := by
  unfold YV.snap
  split
  · exact h
  · split
    · split
      · have := (h.blank f y.kd.root).desk (bareK f)
        exact ⟨this.s, this.dv, this.top⟩
      · exact (h.blank f y.kd.root).desk _
    · exact h.blank _ _
theorem YCalm.write {y : YV} (h : YCalm y) (fr : Int) (t : ByteArray) : YCalm (y.write fr t) := by
  unfold YV.write
  split
  · exact ⟨h.s.put _ _ _, h.dv, h.top⟩
  · exact h
theorem YCalm.wipe {y : YV} (h : YCalm y) (fr n : Int) : YCalm (y.wipe fr n) := by
  unfold YV.wipe
  split
  · exact ⟨h.s.wipe _ _ _, h.dv, h.top⟩
  · exact h
theorem YCalm.flush {y : YV} (h : YCalm y) : YCalm y.flush := ⟨SCalm.flushL _ h.s, h.dv, h.top⟩
theorem YCalm.start {y : YV} (h : YCalm y) (d : KDesk) : YCalm (y.start d) := by
  have := h.desk d
  unfold YV.start
  split
  · split
    · exact ⟨this.s, this.dv, this.top⟩
    · exact this
  · exact h
theorem YCalm.step {y : YV} (h : YCalm y) : YCalm y.step := by
  unfold YV.step
  split
  · exact h
  · next j hj =>
    have h1 : YCalm { y with s := stepS y.s j, j := some (stepJ y.s j) } := ⟨h.s.step j, h.dv, h.top⟩
    split
    · exact h
    · split
      · split
        · exact h1.desk _
        · exact h1
      · split
        · exact h1
        · split
          · exact YCalm.desk (y := { y with s := settleS (stepS y.s j) (stepJ y.s j), j := some (settleJ (stepS y.s j) (stepJ y.s j)) }) ⟨(h.s.step j).settle _, h.dv, h.top⟩ _
          · have := YCalm.desk (y := { y with s := settleS (stepS y.s j) (stepJ y.s j), l := ((settleS (stepS y.s j) (stepJ y.s j)).walk y.kd.root).1, j := some ((settleJ (stepS y.s j) (stepJ y.s j)).at 4) }) ⟨(h.s.step j).settle _, h.dv, h.top⟩ (bareK y.kd.root)
            exact ⟨this.s, this.dv, this.top⟩
theorem YCalm.over {y : YV} (h : YCalm y) (r st : Int) : YCalm (y.over r st) := by
  have := h.desk (bareK r)
  unfold YV.over
  split
  · exact ⟨this.s, this.dv, this.top⟩
  · exact this
theorem YCalm.pivot {y : YV} (h : YCalm y) : YCalm y.pivot := by
  unfold YV.pivot
  split
  · exact h
  · next j hj =>
    have h1 : YCalm { y with s := settleS y.s j, j := some (settleJ y.s j) } := ⟨h.s.settle j, h.dv, h.top⟩
    split
    · exact h
    · split
      · exact h1
      · exact h1.over _ _
theorem YCalm.cancel {y : YV} (h : YCalm y) : YCalm y.cancel := by
  unfold YV.cancel
  split
  · exact h.over _ _
  · exact h
theorem YCalm.pause {y : YV} (h : YCalm y) (on : Bool) : YCalm (y.pause on) := by
  unfold YV.pause
  split
  · exact ⟨h.s, h.dv, h.top⟩
  · exact h
theorem YCalm.tick {y : YV} (h : YCalm y) (n : Int) : YCalm (y.tick n) := by
  unfold YV.tick
  split
  · exact ⟨h.s, h.dv, h.top⟩
  · exact h
theorem YCalm.new (c p : Int) : YCalm (newY c p) := by
  refine YCalm.desk (y := newY0 c p) ⟨?_, fun _ => rfl, rfl⟩ _
  exact SCalm.upd (s := fun _ => none) (fun i v e => by cases e) 0 (calm_cr rfl _)
end Go.Proofs.YtonhoahnieoebabGreatDoor
