/-
A yard and what may be found behind a crash (W3), call by call.
-/
import Derived.Test.YtonhoahnieoebabGreatDoorQTellYard
import Derived.Test.YtonhoahnieoebabGreatDoorQActBox
namespace Go.Proofs.YtonhoahnieoebabGreatDoor
open Go.RowKit

structure YT (y : YV) (C m : Nat) (cr : Nat → List (List UInt8)) : Prop where
  yg : YG y C m
  tells : Tells y.s C y.l cr
  want : ∀ j, y.j = some j → j.stage < 4 → NoWant y.s C j
  desk : DeskAt y.top y.kd.root

/- What is no file's business. -/
theorem YT.as {y z : YV} {C m m' : Nat} {cr : Nat → List (List UInt8)} (h : YT y C m cr) (hz : YG z C m') (hs : z.s = y.s) (hl : z.l = y.l) (hw : ∀ j, z.j = some j → j.stage < 4 → NoWant z.s C j) (hd : DeskAt z.top z.kd.root) : YT z C m' cr :=
  ⟨hz, by rw [hs, hl]; exact h.tells, hw, hd⟩

theorem kind_flush1 (s : SV) (n k : Int) (c : Int) : kindO ((s.flush1 n).file k) c = kindO (s.file k) c := by
  unfold SV.flush1
  split
  · rfl
  · next v hf =>
    rw [SV.file_upd hf]
    by_cases e : k = n
    · rw [if_pos e, e, hf]; rfl
    · rw [if_neg e]
theorem kind_flushL (k : Int) (c : Int) : ∀ (l : List Int) (s : SV), kindO ((s.flushL l).file k) c = kindO (s.file k) c := by
  intro l
  induction l with
  | nil => intro s; rfl
  | cons n r ih => intro s; exact (ih (s.flush1 n)).trans (kind_flush1 s n k c)

theorem YT.write {y : YV} {C m : Nat} {cr cr' : Nat → List (List UInt8)} (h : YT y C m cr) {fr : Nat} {t : ByteArray} (ht : t.size % 16 = 0) (hf : y.s.chkF y.l (fr : Int) ((t.size / 16 : Nat) : Int) = 0) (hm : m + 10 * (t.size / 16) < 1000000000)
    (hc : ∀ k x, x ∈ cr k → x ∈ cr' k) (hx : ∀ k, fr ≤ k → k < fr + t.size / 16 → chunk t (k - fr) ∈ cr' k) : YT (y.write (fr : Int) t) C (m + 10 * (t.size / 16)) cr' := by
  obtain ⟨r, el, hT⟩ := h.yg.top
  obtain ⟨_, q2, q3⟩ := h.yg.write ht hf (by omega)
  have e1 : y.write (fr : Int) t = ({ y with s := (y.s.put y.l (fr : Int) t).1 } : YV).mark fr (t.size / 16) := by
    unfold YV.write
    rw [if_pos ⟨ht, hf⟩]
    rfl
  have es : (y.write (fr : Int) t).s = (y.s.put y.l (fr : Int) t).1 := by rw [e1]; rfl
  have ej : (y.write (fr : Int) t).j = y.j.map fun j => dirtyTo j fr (t.size / 16) := by rw [e1]; rfl
  have ed : (y.write (fr : Int) t).top = y.top ∧ (y.write (fr : Int) t).kd = y.kd := by rw [e1]; exact ⟨rfl, rfl⟩
  have hf' := hf
  rw [el] at hf'
  refine ⟨q2, ?_, fun a ha hg => ?_, by rw [ed.1, ed.2]; exact h.desk⟩
  · rw [q3, es, el]
    have h1 := h.tells
    rw [el] at h1
    exact h1.put hT ht hf' hm hc hx
  · rw [ej] at ha
    cases hj : y.j with
    | none => rw [hj] at ha; cases ha
    | some j =>
      rw [hj] at ha
      have e : dirtyTo j fr (t.size / 16) = a := Option.some.inj ha
      obtain ⟨d1, d2, d3, _⟩ := dirtyTo_is j fr (t.size / 16)
      have hgj : j.stage < 4 := by rw [← d3, e]; exact hg
      have hin := h.yg.ok.job j hj hgj
      by_cases h2 : j.kind = 2
      · rw [dirtyTo_2 h2] at e
        rw [← e, es, el]
        exact (h.want j hj hgj).up (h.yg.go hj hgj) (by rw [hin.lst, el]) (.put _ _ _ _ _)
      · refine .not2 fun e2 => h2 ?_
        have := congrArg KDesk.kind d2
        rw [← e] at e2
        exact this.symm.trans e2
theorem YT.wipe {y : YV} {C m : Nat} {cr cr' : Nat → List (List UInt8)} (h : YT y C m cr) {fr N : Nat} (hf : y.s.chkF y.l (fr : Int) (N : Int) = 0) (hm : m + 10 * N < 1000000000)
    (hc : ∀ k x, x ∈ cr k → x ∈ cr' k) (hx : ∀ k, fr ≤ k → k < fr + N → noughts ∈ cr' k) : YT (y.wipe (fr : Int) (N : Int)) C (m + 10 * N) cr' := by
  obtain ⟨r, el, hT⟩ := h.yg.top
  obtain ⟨_, q2, q3⟩ := h.yg.wipe hf (by omega)
  have hN : ((N : Int)).toNat = N := by omega
  have e1 : y.wipe (fr : Int) (N : Int) = ({ y with s := (y.s.wipe y.l (fr : Int) (N : Int)).1 } : YV).mark fr N := by
    unfold YV.wipe
    rw [if_pos hf]
    rfl
  have es : (y.wipe (fr : Int) (N : Int)).s = (y.s.wipe y.l (fr : Int) (N : Int)).1 := by rw [e1]; rfl
  have ej : (y.wipe (fr : Int) (N : Int)).j = y.j.map fun j => dirtyTo j fr N := by rw [e1]; rfl
  have ed : (y.wipe (fr : Int) (N : Int)).top = y.top ∧ (y.wipe (fr : Int) (N : Int)).kd = y.kd := by rw [e1]; exact ⟨rfl, rfl⟩
  have hf' := hf
  rw [el] at hf'
  refine ⟨q2, ?_, fun a ha hg => ?_, by rw [ed.1, ed.2]; exact h.desk⟩
  · rw [q3, es, el]
    have h1 := h.tells
    rw [el] at h1
    exact h1.wipe hT hf' hm hc hx
  · rw [ej] at ha
    cases hj : y.j with
    | none => rw [hj] at ha; cases ha
    | some j =>
      rw [hj] at ha
      have e : dirtyTo j fr N = a := Option.some.inj ha
      obtain ⟨d1, d2, d3, _⟩ := dirtyTo_is j fr N
      have hgj : j.stage < 4 := by rw [← d3, e]; exact hg
      have hin := h.yg.ok.job j hj hgj
      by_cases h2 : j.kind = 2
      · rw [dirtyTo_2 h2] at e
        rw [← e, es, el]
        exact (h.want j hj hgj).up (h.yg.go hj hgj) (by rw [hin.lst, el]) (.wipe _ _ _ _ _)
      · refine .not2 fun e2 => h2 ?_
        have := congrArg KDesk.kind d2
        rw [← e] at e2
        exact this.symm.trans e2

/- Flushed: what is seen is what is found. -/
theorem YT.flush {y : YV} {C m : Nat} {cr cr' : Nat → List (List UInt8)} (h : YT y C m cr) (hs : ∀ k, k < 4 * C → y.s.sec y.l k ∈ cr' k) : YT y.flush C m cr' :=
  ⟨h.yg.flush.1, Tells.flushed h.yg.ok.ch.good h.yg.ok.s h.yg.safe hs, fun j hj hg => (h.want j hj hg).cong fun n _ c _ => kind_flushL n c y.l y.s, h.desk⟩

theorem blank_other (y : YV) (f back : Int) : ∀ n ∈ y.l, (y.blank f back).s.file n = y.s.file n := fun n hm => by
  unfold YV.blank
  split
  · next hx =>
    split
    · rfl
    · next hu =>
      obtain ⟨hn, _⟩ := used_no hu
      split
      · show (y.s.upd f.toNat _).file n = _
        rw [file_set _ hx.1 hx.2, if_neg (fun (e : n = f) => hn (e ▸ hm))]
      · show (y.s.gone f.toNat).file n = _
        rw [file_gone _ hx.1 hx.2, if_neg (fun (e : n = f) => hn (e ▸ hm))]
  · rfl
theorem YT.blank {y : YV} {C m : Nat} {cr : Nat → List (List UInt8)} (h : YT y C m cr) (f back : Int) (hm : m + 20 < 1000000000) : YT (y.blank f back) C (m + 15) cr := by
  obtain ⟨b1, b2, b3, b4⟩ := blank_j y f back
  refine ⟨(h.yg.blank f back hm).1, by rw [b3]; exact h.tells.other (blank_other y f back), fun j hj hg => ?_, by rw [b4, b2]; exact h.desk⟩
  rw [b1] at hj
  have hin := h.yg.ok.job j hj hg
  exact (h.want j hj hg).cong fun n hn c _ => by rw [blank_other y f back n (by rw [← hin.lst]; exact hn)]

theorem YT.snap {y : YV} {C m : Nat} {cr : Nat → List (List UInt8)} (h : YT y C m cr) (f : Int) (hm : m + 20 < 1000000000) : YT (y.snap f) C (m + 16) cr := by
  obtain ⟨hg, _⟩ := h.yg.snap f hm
  have hb := h.blank f y.kd.root hm
  unfold YV.snap at hg ⊢
  split
  · next hx => rw [if_pos hx] at hg; exact ⟨hg, h.tells, h.want, h.desk⟩
  · next hx =>
    rw [if_neg hx] at hg
    rw [not_or] at hx
    have hbn := busy_no hx.1
    obtain ⟨b1, b2, b3, b4⟩ := blank_j y f y.kd.root
    obtain ⟨d1, _, d3, d4⟩ := ydesk_s (y.blank f y.kd.root) (bareK f)
    split
    · next hbf =>
      rw [if_pos hbf] at hg
      obtain ⟨h0, h5, hu, hc, eb⟩ := blankF_is hbf
      have hdk := hb.desk.desk hb.yg.ok.top (bareK_fault h0 (by omega))
      split
      · next hdf =>
        rw [if_pos hdf] at hg
        have hgo := hg.ok.ch.good
        have hso := hg.ok.s
        refine ⟨hg, ?_, fun j hj hgj => ?_, hdk⟩
        · show Tells (YV.desk _ _).s C (f :: y.l) cr
          rw [d1]
          obtain ⟨M, m1, m2⟩ := hb.tells.ex
          rw [b3] at m1 m2
          have hff : (y.blank f y.kd.root).s.file f = some (crV (y.dev f.toNat) (y.head f y.kd.root)) := by
            rw [eb]
            show (y.s.upd f.toNat _).file f = _
            rw [file_set _ h0 h5, if_pos rfl]
          obtain ⟨hn, _⟩ := used_no hu
          have hcr : Told (crV (y.dev f.toNat) (y.head f y.kd.root)) (fun _ => [[45]]) := by
            have hh := hc
            unfold crF at hh
            by_cases k1 : (y.head f y.kd.root).ok = true
            · rw [if_pos k1] at hh
              by_cases k2 : (y.dev f.toNat).fl.length < needN (y.head f y.kd.root)
              · rw [if_pos k2] at hh; cases hh
              · exact crV_told (h.yg.ok.dev _) k1 (by omega) hm hc
            · rw [if_neg k1] at hh; cases hh
          refine ⟨fun i => if i = f then fun _ => [[45]] else M i, fun i hi v hv => ?_, fun k hk => ⟨fun x hx h45 => ?_, fun _ => ?_⟩⟩
          · by_cases e : i = f
            · simp only [if_pos e]
              rw [e, hff] at hv
              cases hv
              exact hcr
            · simp only [if_neg e]
              rcases List.mem_cons.1 hi with e2 | e2
              · exact absurd e2 e
              · exact m1 i e2 v hv
          · simp only [if_true] at hx
            exact absurd (List.mem_singleton.1 hx) h45
          · refine (m2 k hk).re (fun _ e => e) fun i hi x hx1 => .inl ?_
            have hne : i ≠ f := fun e => hn (e ▸ hi)
            simp only [if_neg hne] at hx1
            exact hx1
        · have hj' : (YV.desk _ _).j = some j := hj
          rw [d4, b1] at hj'
          exact absurd (hbn j hj') (by omega)
      · next hdf =>
        rw [if_neg hdf] at hg
        refine ⟨hg, by rw [d1, d3]; exact hb.tells, fun j hj hgj => ?_, hdk⟩
        rw [d4, b1] at hj
        exact absurd (hbn j hj) (by omega)
    · next hbf =>
      rw [if_neg hbf] at hg
      exact ⟨hg, hb.tells, hb.want, hb.desk⟩

theorem YT.start {y : YV} {C m : Nat} {cr : Nat → List (List UInt8)} (h : YT y C m cr) {d : KDesk} (hr : d.root = y.kd.root) (hm : m < 1000000000) : YT (y.start d) C (m + 1) cr := by
  obtain ⟨hg, _⟩ := h.yg.start hr hm
  unfold YV.start at hg ⊢
  split
  · next h0 =>
    rw [if_pos h0] at hg
    obtain ⟨hn, hfl⟩ : newF y.s d = 0 ∧ d.kv.fault = 0 := by
      unfold YV.startF0 at h0
      split at h0
      · cases h0
      · split at h0
        · cases h0
        · split at h0
          · next hf => exact ⟨h0, hf⟩
          · next hf => exact absurd h0 hf
    obtain ⟨d1, _, d3, d4⟩ := ydesk_s y d
    have hdk := h.desk.desk h.yg.ok.top hfl
    split
    · next hd =>
      rw [if_pos hd] at hg
      refine h.as hg d1 d3 (fun b hb _ => ?_) hdk
      have hb' : some ((newJ y.s d).at 1) = some b := hb
      cases hb'
      show NoWant (y.desk d).s C _
      rw [d1]
      have hk := newF_ok h.yg.ok.s hn
      obtain ⟨C', k1, k2, _⟩ := hk.jok
      have hC : C' = C := by
        have hl : (y.s.walk d.root).1 = y.l := by rw [hr, h.yg.ok.ch.walk]
        rw [hl, h.yg.ok.ch.good.clusters h.yg.ok.ch.ne] at k2
        omega
      subst hC
      exact (NoWant.new k1).as rfl rfl rfl rfl
    · next hd =>
      rw [if_neg hd] at hg
      exact h.as hg d1 d3 (fun j hj hgj => by rw [d1]; exact h.want j (by rw [← d4]; exact hj) hgj) hdk
  · next h0 =>
    rw [if_neg h0] at hg
    exact ⟨hg, h.tells, h.want, h.desk⟩

theorem YT.cancel {y : YV} {C m : Nat} {cr : Nat → List (List UInt8)} (h : YT y C m cr) (hm : m < 1000000000) : YT y.cancel C (m + 1) cr := by
  obtain ⟨hg, _⟩ := h.yg.cancel hm
  obtain ⟨r0, r4⟩ := h.yg.ok.root
  unfold YV.cancel at hg ⊢
  split
  · next hb =>
    rw [if_pos hb] at hg
    unfold YV.over at hg ⊢
    obtain ⟨d1, _, d3, d4⟩ := ydesk_s y (bareK y.kd.root)
    have hdk := h.desk.desk h.yg.ok.top (bareK_fault r0 r4)
    split
    · next hd =>
      rw [if_pos hd] at hg
      refine h.as hg d1 (by show (y.s.walk y.kd.root).1 = _; rw [h.yg.ok.ch.walk]) (fun b hb' hgj => ?_) hdk
      have hb2 : (y.j.map fun j => j.at 5) = some b := hb'
      cases hj : y.j with
      | none => rw [hj] at hb2; cases hb2
      | some j =>
        rw [hj] at hb2
        have e : j.at 5 = b := Option.some.inj hb2
        rw [← e] at hgj
        exact absurd hgj (by show ¬ (5 : Int) < 4; decide)
    · next hd =>
      rw [if_neg hd] at hg
      exact h.as hg d1 d3 (fun j hj hgj => by rw [d1]; exact h.want j (by rw [← d4]; exact hj) hgj) hdk
  · next hb =>
    rw [if_neg hb] at hg
    exact ⟨hg, h.tells, h.want, h.desk⟩

theorem YT.pause {y : YV} {C m : Nat} {cr : Nat → List (List UInt8)} (h : YT y C m cr) (on : Bool) : YT (y.pause on) C m cr := by
  obtain ⟨hg, _⟩ := h.yg.pause on
  unfold YV.pause at hg ⊢
  split
  · next hb =>
    rw [if_pos hb] at hg
    refine ⟨hg, h.tells, fun a ha hga => ?_, h.desk⟩
    cases hj : y.j with
    | none =>
      have ha' : (y.j.map fun j => pauseJ j on) = some a := ha
      rw [hj] at ha'; cases ha'
    | some j =>
      have ha' : (y.j.map fun j => pauseJ j on) = some a := ha
      rw [hj] at ha'
      have e : pauseJ j on = a := Option.some.inj ha'
      have hgj : j.stage < 4 := by
        unfold YV.busy at hb
        rw [hj] at hb
        exact of_decide_eq_true hb
      have hp : (pauseJ j on).kind = j.kind ∧ (pauseJ j on).x = j.x ∧ (pauseJ j on).l = j.l ∧ (pauseJ j on).deep = j.deep := by
        unfold pauseJ
        split <;> split <;> exact ⟨rfl, rfl, rfl, rfl⟩
      rw [← e]
      exact (h.want j hj hgj).as hp.1 hp.2.1 hp.2.2.1 hp.2.2.2
  · next hb => rw [if_neg hb] at hg; exact h
theorem YT.tick {y : YV} {C m : Nat} {cr : Nat → List (List UInt8)} (h : YT y C m cr) (n : Int) : YT (y.tick n) C m cr := by
  obtain ⟨hg, _⟩ := h.yg.tick n
  unfold YV.tick at hg ⊢
  split
  · next hb =>
    rw [if_pos hb] at hg
    refine ⟨hg, h.tells, fun a ha hga => ?_, h.desk⟩
    cases hj : y.j with
    | none =>
      have ha' : (y.j.map fun j => tickJ j n) = some a := ha
      rw [hj] at ha'; cases ha'
    | some j =>
      have ha' : (y.j.map fun j => tickJ j n) = some a := ha
      rw [hj] at ha'
      have e : tickJ j n = a := Option.some.inj ha'
      have hgj : j.stage < 4 := by
        unfold YV.busy at hb
        rw [hj] at hb
        exact of_decide_eq_true hb
      have hp : (tickJ j n).kind = j.kind ∧ (tickJ j n).x = j.x ∧ (tickJ j n).l = j.l ∧ (tickJ j n).deep = j.deep := by
        unfold tickJ
        first
          | exact ⟨rfl, rfl, rfl, rfl⟩
          | (split <;> exact ⟨rfl, rfl, rfl, rfl⟩)
      rw [← e]
      exact (h.want j hj hgj).as hp.1 hp.2.1 hp.2.2.1 hp.2.2.2
  · next hb => rw [if_neg hb] at hg; exact h

theorem YT.arm {y : YV} {C m : Nat} {cr : Nat → List (List UInt8)} (h : YT y C m cr) (f n : Int) (hn : n ≤ 9223372036854775807) : YT (y.arm f n) C m cr := by
  obtain ⟨hg, _⟩ := h.yg.arm f n hn
  unfold YV.arm at hg ⊢
  split
  · next hx =>
    rw [if_pos hx] at hg
    split
    · next e => rw [if_pos e] at hg; exact ⟨hg, h.tells, h.want, h.desk.fail n⟩
    · next e =>
      rw [if_neg e] at hg
      cases hs : y.s f.toNat with
      | none => rw [hs] at hg; exact ⟨hg, h.tells, h.want, h.desk⟩
      | some v =>
        rw [hs] at hg
        simp only at hg ⊢
        have hfile : y.s.file f = some v := by
          unfold SV.file
          rw [if_pos ⟨by omega, hx.2.1⟩]; exact hs
        refine ⟨hg, h.tells.act hfile (fun hm => good_len h.yg.ok.ch.good h.yg.ok.s hm hfile) (fun _ => .fail v n) (fun _ _ e => e) (fun _ k _ => .inl rfl), fun j hj hgj => (h.want j hj hgj).cong fun i _ c _ => ?_, h.desk⟩
        show kindO ((y.s.upd f.toNat _).file i) (c : Int) = _
        rw [SV.file_upd hfile]
        by_cases e2 : i = f
        · rw [if_pos e2, e2, hfile]; rfl
        · rw [if_neg e2]
  · exact h

theorem chunk_16 {t : ByteArray} (h : t.size = 64) {j : Nat} (hj : j < 4) : chunk t j ≠ [45] := fun e => by
  have h1 : (chunk t j).length = 16 := by
    rw [chunk_ext, List.length_take, List.length_drop]
    have : t.data.toList.length = 64 := by rw [Array.length_toList]; exact h
    omega
  rw [e] at h1
  cases h1

/- A step of a job, on its files. -/
theorem YT.moved {y : YV} {C m : Nat} {cr : Nat → List (List UInt8)} (h : YT y C m cr) (hm : m + 10 < 1000000000) {j : JV} (hj : y.j = some j) (hg : j.stage < 4) : Tells (stepS y.s j) C y.l cr := by
  have hgo := h.yg.go hj hg
  have hin := h.yg.ok.job j hj hg
  unfold stepS
  split
  · next hx =>
    obtain ⟨k, e, hk, _⟩ := hgo.ok.pick hx.2.1
    obtain ⟨_, r2⟩ := hgo.ok.read hgo.sok hk
    rw [e]
    unfold JV.moved
    refine h.tells.move h.yg.ok.ch.good h.yg.ok.s h.yg.safe hm _ hk r2 fun i hi => ⟨chunk_16 r2 hi, ?_⟩
    rw [read_view hgo.ok.good hgo.sok hgo.ok.ne hk hi, hin.lst]
    have := h.tells.sec h.yg.ok.ch.good h.yg.ok.s (k := 4 * k + i) (by omega)
    unfold SV.sec at this
    rw [show (4 * k + i) / 4 = k by omega, show (4 * k + i) % 4 = i by omega] at this
    exact this
  · exact h.tells

theorem YT.step {y : YV} {C m : Nat} {cr : Nat → List (List UInt8)} (h : YT y C m cr) (hm : m + 30 < 1000000000) : YT y.step C (m + 21) cr := by
  obtain ⟨hg, _⟩ := h.yg.step hm
  obtain ⟨r0, r4⟩ := h.yg.ok.root
  cases hj : y.j with
  | none =>
    have e : y.step = y := by unfold YV.step; rw [hj]
    rw [e] at hg ⊢
    exact ⟨hg, h.tells, h.want, h.desk⟩
  | some j =>
    by_cases hx : 4 ≤ j.stage
    · have e : y.step = y := by unfold YV.step; rw [hj]; simp only; rw [if_pos hx]
      rw [e] at hg ⊢
      exact ⟨hg, h.tells, h.want, h.desk⟩
    · have hgj : j.stage < 4 := by omega
      have hgo := h.yg.go hj hgj
      have hin := h.yg.ok.job j hj hgj
      have hz := h.yg.safe.step h.yg.ok.s (show m + 10 ≤ 1000000000 by omega) j
      have hzok := h.yg.ok.s.step j (show m + 10 ≤ 1000000000 by omega)
      have ht := h.moved (by omega) hj hgj
      have hnw := fun hst => (h.want j hj hgj).step hgo (by omega) hst
      have est : y.step = (if stepF y.s j ≠ 0 then (if (stepJ y.s j).stage = 5 then ({ y with s := stepS y.s j, j := some (stepJ y.s j) } : YV).desk (bareK y.kd.root) else { y with s := stepS y.s j, j := some (stepJ y.s j) })
          else if y.kd.kind ≠ 2 ∨ (stepJ y.s j).state ≠ 3 then { y with s := stepS y.s j, j := some (stepJ y.s j) }
          else if settleF (stepS y.s j) (stepJ y.s j) ≠ 0 then ({ y with s := settleS (stepS y.s j) (stepJ y.s j), j := some (settleJ (stepS y.s j) (stepJ y.s j)) } : YV).desk (bareK y.kd.root)
          else { ({ y with s := settleS (stepS y.s j) (stepJ y.s j), l := ((settleS (stepS y.s j) (stepJ y.s j)).walk y.kd.root).1, j := some ((settleJ (stepS y.s j) (stepJ y.s j)).at 4) } : YV).desk (bareK y.kd.root) with kd := bareK y.kd.root }) := by
        unfold YV.step
        rw [hj]
        simp only
        rw [if_neg hx]
      have plain : ∀ (Y : YV), Y.s = stepS y.s j → Y.l = y.l → Y.j = some (stepJ y.s j) → DeskAt Y.top Y.kd.root → YG Y C (m + 21) → YT Y C (m + 21) cr := fun Y e1 e2 e3 hd hY => by
        refine ⟨hY, by rw [e1, e2]; exact ht, fun b hb hgb => ?_, hd⟩
        rw [e3] at hb
        cases hb
        rw [e1]; exact hnw hgb
      rw [est] at hg ⊢
      clear est
      split
      · next c1 =>
        rw [if_pos c1] at hg
        split
        · next c2 =>
          rw [if_pos c2] at hg
          obtain ⟨d1, _, d3, d4⟩ := ydesk_s { y with s := stepS y.s j, j := some (stepJ y.s j) } (bareK y.kd.root)
          exact plain _ d1 d3 d4 (DeskAt.desk (y := { y with s := stepS y.s j, j := some (stepJ y.s j) }) h.desk h.yg.ok.top (bareK_fault r0 r4)) hg
        · next c2 => rw [if_neg c2] at hg; exact plain _ rfl rfl rfl h.desk hg
      · next c1 =>
        rw [if_neg c1] at hg
        split
        · next c2 => rw [if_pos c2] at hg; exact plain _ rfl rfl rfl h.desk hg
        · next c2 =>
          rw [if_neg c2] at hg
          rw [not_or] at c2
          have hk2 : y.kd.kind = 2 := Classical.byContradiction c2.1
          have hs3 : (stepJ y.s j).state = 3 := Classical.byContradiction c2.2
          have hst : (stepJ y.s j).stage < 4 := by
            unfold JV.state at hs3
            split at hs3
            · next e => omega
            · omega
          have hla : (stepJ y.s j).l = y.l := (stepJ_is y.s j).1.trans hin.lst
          have hka : jobK (stepJ y.s j) = y.kd := (stepJ_is y.s j).2.trans hin.dsk
          have hcz : Chain (stepS y.s j) C y.kd.root y.l := h.yg.ok.ch.over (.step _ _ _)
          have hcnt : S4.cnt (stepJ y.s j).x 64 = 0 := state_done hs3 (hin.ok.step).stage
          -- the yard as it stands behind the job's own step
          have hmid : YG { y with s := stepS y.s j, j := some (stepJ y.s j) } C (m + 21) := by
            have hh := h.yg.job j hj hgj
            refine ⟨h.yg.ok.over (hzok.more (by omega)) (fun l => .step l _ _) (by omega) (fun a ha _ => ?_) (fun a ha => ?_), hz, fun a ha hga => ?_⟩
            · cases ha; exact hin.as (fun l => .step l _ _) hin.ok.step (stepJ_is _ _).1 (stepJ_is _ _).2
            · cases ha; exact hin.ok.step.set3
            · cases ha
              exact hh.as (step_same hgo (by omega) hh.same hga) (stepJ_is _ _).1 (stepJ_is _ _).2 (stepJ_deep _ _)
          have hgo2 := hmid.go rfl hst
          have hw2 := hnw hst
          generalize ea : stepJ y.s j = a at hg hs3 hla hka hst hcnt hgo2 hw2 ⊢
          generalize ez : stepS y.s j = z at hg hcz hz hzok ht hgo2 hw2 ⊢
          have ha2 : a.kind = 2 := by rw [← hk2, ← hka]; rfl
          have hhd : a.l.headD 0 = y.kd.root := by
            obtain ⟨r, e⟩ := hcz.head
            rw [hla, e]; rfl
          have hinto : a.into = y.kd.root := by unfold JV.into; rw [if_pos ha2]; exact hhd
          obtain ⟨es, ef⟩ := settle_str (s := z) hs3 ha2
          rw [hhd] at es ef
          rw [ef, es] at hg ⊢
          split
          · next hf =>
            rw [if_pos hf] at hg
            have hJ := settleJ_no (s := z) hs3 ha2 (by rw [hhd]; exact hf)
            rw [hJ] at hg ⊢
            obtain ⟨d1, _, d3, d4⟩ := ydesk_s { y with s := (linkS z y.kd.root a.file).1, j := some (a.at 5) } (bareK y.kd.root)
            refine ⟨hg, by rw [d1, d3]; exact ht.link hcz.good hzok hz (by omega) _ _, fun b hb hgb => ?_, DeskAt.desk (y := { y with s := (linkS z y.kd.root a.file).1, j := some (a.at 5) }) h.desk h.yg.ok.top (bareK_fault r0 r4)⟩
            rw [d4] at hb
            cases hb
            exact absurd hgb (by show ¬ (5 : Int) < 4; decide)
          · next hf =>
            rw [if_neg hf] at hg
            have hf0 : (linkS z y.kd.root a.file).2 = 0 := Classical.byContradiction hf
            have hJ := settleJ_yes (s := z) (j := a) (by rw [hhd]; exact hf0)
            rw [hJ] at hg ⊢
            have hwq : ((linkS z y.kd.root a.file).1.walk y.kd.root).1 = tlist a := by
              have hhm := hmid.job _ rfl (by rw [ea]; exact hst)
              rw [ea, ez] at hhm
              have hcl : Chain z C y.kd.root a.l := by rw [hla]; exact hcz
              rw [(stream_chain hcl ha2 (hhm.str ha2) (hhm.str2 ha2) hf0).walk]
            rw [hwq] at hg ⊢
            obtain ⟨d1, _, d3, d4⟩ := ydesk_s { y with s := (linkS z y.kd.root a.file).1, l := tlist a, j := some (a.at 4) } (bareK y.kd.root)
            have hdk := DeskAt.desk (y := { y with s := (linkS z y.kd.root a.file).1, l := tlist a, j := some (a.at 4) }) h.desk h.yg.ok.top (bareK_fault r0 r4)
            refine ⟨hg, ?_, fun b hb hgb => ?_, ?_⟩
            · show Tells (YV.desk _ _).s C (YV.desk _ _).l cr
              rw [d1, d3]
              have hsm := Tells.streamed (b := a.file) (show Tells z C a.l cr by rw [hla]; exact ht) hgo2 hz (by omega) ha2 hw2 hcnt (by have := hin.ok.c40; omega) (by rw [hinto]; exact hf0)
              rw [hinto] at hsm
              exact hsm
            · have hb' : (YV.desk _ _).j = some b := hb
              rw [d4] at hb'
              cases hb'
              exact absurd hgb (by show ¬ (4 : Int) < 4; decide)
            · show DeskAt (YV.desk _ _).top y.kd.root
              have e : (({ y with s := (linkS z y.kd.root a.file).1, l := tlist a, j := some (a.at 4) } : YV).desk (bareK y.kd.root)).kd.root = y.kd.root := by
                unfold YV.desk
                split <;> rfl
              rw [e] at hdk
              exact hdk

theorem YT.pivot {y : YV} {C m : Nat} {cr : Nat → List (List UInt8)} (h : YT y C m cr) (hm : m + 20 < 1000000000) : YT y.pivot C (m + 11) cr := by
  obtain ⟨hg, hv⟩ := h.yg.pivot hm
  cases hj : y.j with
  | none =>
    have e : y.pivot = y := by unfold YV.pivot; rw [hj]
    rw [e] at hg ⊢
    exact ⟨hg, h.tells, h.want, h.desk⟩
  | some j =>
    by_cases hx : 4 ≤ j.stage ∨ y.kd.kind = 2
    · have e : y.pivot = y := by unfold YV.pivot; rw [hj]; simp only; rw [if_pos hx]
      rw [e] at hg ⊢
      exact ⟨hg, h.tells, h.want, h.desk⟩
    · have est : y.pivot = (if settleF y.s j ≠ 0 then { y with s := settleS y.s j, j := some (settleJ y.s j) } else ({ y with s := settleS y.s j, j := some (settleJ y.s j) } : YV).over y.kd.file 4) := by
        unfold YV.pivot
        rw [hj]
        simp only
        rw [if_neg hx]
      rw [not_or] at hx
      have hgj : j.stage < 4 := by omega
      have hgo := h.yg.go hj hgj
      have hin := h.yg.ok.job j hj hgj
      have hk : j.kind = y.kd.kind := by rw [← hin.dsk]; rfl
      have hkf : y.kd.file = j.file := by rw [← hin.dsk]; rfl
      have hj2 : j.kind ≠ 2 := by rw [hk]; exact hx.2
      have hJ : settleJ y.s j = j := by
        unfold settleJ
        rw [if_neg (fun e => hj2 e.2.1)]
      have hts : Tells (settleS y.s j) C y.l cr := by
        unfold settleS
        split
        · exact Tells.flushL _ h.tells h.yg.ok.ch.good h.yg.ok.s h.yg.safe
        · exact h.tells
      rw [est, hJ] at hg hv ⊢
      clear est
      split
      · next hf =>
        rw [if_pos hf] at hg
        refine ⟨hg, hts, fun b hb _ => ?_, h.desk⟩
        cases hb; exact .not2 hj2
      · next hf =>
        rw [if_neg hf] at hg hv
        have hf0 : settleF y.s j = 0 := Classical.byContradiction hf
        have hs3 : j.state = 3 := by
          unfold settleF at hf0
          split at hf0
          · next e => exact e
          · cases hf0
        unfold YV.over at hg hv ⊢
        obtain ⟨d1, _, d3, d4⟩ := ydesk_s { y with s := settleS y.s j, j := some j } (bareK y.kd.file)
        have hff : 0 ≤ y.kd.file ∧ y.kd.file ≤ 4 := by
          obtain ⟨v, hv1⟩ := hin.ok.file hj2
          have := SV.file_of hv1
          rw [hkf]; omega
        have hdk := DeskAt.desk (y := { y with s := settleS y.s j, j := some j }) h.desk h.yg.ok.top (bareK_fault hff.1 hff.2)
        split
        · next hd =>
          rw [if_pos hd] at hg hv
          refine ⟨hg, ?_, fun b hb hgb => ?_, hdk⟩
          · have hch := hg.ok.ch
            have hso := hg.ok.s
            have hes : ({ ({ y with s := settleS y.s j, j := some j } : YV).desk (bareK y.kd.file) with j := (some j).map fun j => j.at 4, l := ((settleS y.s j).walk y.kd.file).1 } : YV).s = settleS y.s j := d1
            have hset : settleS y.s j = y.s.flushL (y.s.walk j.file).1 := by
              unfold settleS
              rw [if_pos hs3, if_neg hj2]
            have hbk : j.kind = 1 → ∀ v, y.s.file j.file = some v → v.h.b = -1 := fun e v hv1 => by
              obtain ⟨u, h1, h3, _⟩ := hin.tgt.mir (by rw [← hk]; exact e)
              rw [hkf, hv1] at h1
              cases h1; exact h3
            have hcj : Chain y.s C y.kd.root j.l := by rw [hin.lst]; exact h.yg.ok.ch
            have hp0 := hgo.pivots hcj hj2 hbk
            have hp : Chain (settleS y.s j) C j.file (tlist j) := by
              rw [hset]
              exact hp0.over (.flushL _ _ _)
            have hw : ((settleS y.s j).walk y.kd.file).1 = tlist j := by rw [hkf, hp.walk]
            show Tells (YV.desk _ _).s C ((settleS y.s j).walk y.kd.file).1 cr
            rw [d1, hw]
            show Tells (settleS y.s j) C (tlist j) cr
            rw [hset, hp0.walk]
            refine Tells.flushed hp0.good h.yg.ok.s h.yg.safe fun k hk1 => ?_
            have h1 := (h.yg.job j hj hgj).same.done (state_done hs3 hin.ok.stage) (by have := hin.ok.c40; omega) (c := k / 4) (i := k % 4) (by omega) (by omega)
            show y.s.view (k / 4) (k % 4) (tlist j) ∈ cr k
            rw [h1, hin.lst]
            exact h.tells.sec h.yg.ok.ch.good h.yg.ok.s hk1
          · have hb' : some (j.at 4) = some b := hb
            cases hb'
            exact absurd hgb (by show ¬ (4 : Int) < 4; decide)
        · next hd =>
          rw [if_neg hd] at hg hv
          refine ⟨hg, by rw [d1, d3]; exact hts, fun b hb _ => ?_, hdk⟩
          rw [d4] at hb
          cases hb
          exact .not2 hj2
end Go.Proofs.YtonhoahnieoebabGreatDoor
