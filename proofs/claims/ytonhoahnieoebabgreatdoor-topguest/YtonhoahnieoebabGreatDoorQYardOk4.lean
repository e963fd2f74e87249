/-
What is always so of a yard, kept by a job that begins, steps, is settled, pivots or is cancelled.
What is always so of a yard, kept by a step; so it is of a yard that is opened, and of a new one.
-/
import Derived.Test.YtonhoahnieoebabGreatDoorQYardOk2
namespace Go.Proofs.YtonhoahnieoebabGreatDoor
open Go.RowKit

/- A job that begins. -/
theorem new_in {y : YV} {C m : Nat} (h : YOk y C m) {d : KDesk} (hr : d.root = y.kd.root) (hn : newF y.s d = 0) {st : Int} (hst : st = 1 ∨ st = 2 ∨ st = 4 ∨ st = 5) : JIn y.s C y.l d ((newJ y.s d).at st) := by
  have hw : y.s.walk d.root = (y.l, 0) := by rw [hr]; exact h.ch.walk
  have hk := newF_ok h.s hn
  obtain ⟨C', h1, h2, _⟩ := hk.jok
  have hl : (y.s.walk d.root).1 = y.l := by rw [hw]
  have hc : C' = C := by
    rw [hl, h.ch.good.clusters h.ch.ne] at h2
    omega
  subst hc
  refine ⟨(h1.newX _).at hst, hl, rfl, ⟨fun e => ?_, fun e => ?_, fun e => ?_⟩⟩
  · have hck := hk.ck
    unfold chkJ at hck
    rw [if_pos e, hl] at hck
    unfold targetF at hck
    cases hf : y.s.file d.file with
    | none => rw [hf] at hck; cases hck
    | some v =>
      rw [hf] at hck
      simp only at hck
      split at hck
      · cases hck
      · next hx =>
        rw [not_or, not_or] at hx
        refine ⟨v, rfl, Classical.byContradiction hx.2.1, ?_, fun hm => hx.1 (by simpa using hm)⟩
        have := Classical.byContradiction hx.2.2
        rw [this, h.ch.good.clusters h.ch.ne]
  all_goals
    have hck := hk.ck
    unfold chkJ at hck
    rw [if_neg (by omega), if_pos (by omega), hl] at hck
    split at hck
    · next hx =>
      rcases hx with hx | hx
      · first
        | exact .inl hx.2
        | exact absurd hx.1 (by omega)
      · have hm : d.file ∈ y.l := List.mem_of_mem_drop (i := 1) (by simpa using hx)
        first
        | exact .inr hm
        | exact hm
    · cases hck

theorem YOk.start {y : YV} {C m : Nat} (h : YOk y C m) {d : KDesk} (hr : d.root = y.kd.root) (hm : m < 1000000000) : YOk (y.start d) C (m + 1) := by
  unfold YV.start
  split
  · next h0 =>
    have hparts : y.busy ≠ true ∧ d.kv.fault = 0 ∧ newF y.s d = 0 := by
      unfold YV.startF0 at h0
      split at h0
      · cases h0
      · next hb =>
        split at h0
        · cases h0
        · split at h0
          · next hf => exact ⟨hb, hf, h0⟩
          · next hf => exact absurd h0 hf
    obtain ⟨hb, hf, hn⟩ := hparts
    obtain ⟨e1, e2, e3, e4⟩ := ydesk_s y d
    have hin := new_in h hr hn (st := 1) (.inl rfl)
    split
    · next hd =>
      have ek := ydesk_yes (d := d) hd
      refine ⟨by show (y.desk d).s.ok _; rw [e1]; exact h.s.more (by omega), ?_, ydesk_top h.top d hm, by show (y.desk d).kd.kv.fault = 0; rw [ek]; exact hf, ?_, fun j hj _ => ?_, fun j hj => ?_⟩
      · show ∀ i, ((y.desk d).dv i).fine ((y.desk d).dv i).fl.length _
        rw [e2]; exact fun i => (h.dv i).more (by omega)
      · show Chain (y.desk d).s C (y.desk d).kd.root (y.desk d).l
        rw [e1, e3, ek, hr]; exact h.ch
      · show JIn (y.desk d).s C (y.desk d).l (y.desk d).kd j
        rw [e1, e3, ek]
        cases hj
        exact hin
      · cases hj
        exact hin.ok.set3
    · next hd =>
      have ek := ydesk_no (d := d) hd
      exact ⟨by rw [e1]; exact h.s.more (by omega), by rw [e2]; exact fun i => (h.dv i).more (by omega), ydesk_top h.top _ hm, by rw [ek]; exact h.desk, by rw [e1, e3, ek]; exact h.ch, by rw [e4, e1, e3, ek]; exact h.job, by rw [e4]; exact h.set⟩
  · exact h.more (by omega)

/- The desk of another root is written, the job being at its end, and the chain that root's. -/
theorem YOk.ends {y : YV} {C m : Nat} (h : YOk y C m) {root st : Int} {l : List Int} (hc : Chain y.s C root l) (hs : st = 4 ∨ st = 5) (hf : y.deskF = 0) (hm : m < 1000000000) : YOk { y.desk (bareK root) with j := y.j.map fun j => j.at st, l := l } C (m + 1) := by
  obtain ⟨e1, e2, e3, e4⟩ := ydesk_s y (bareK root)
  have ek := ydesk_yes (d := bareK root) hf
  obtain ⟨v, hv, _⟩ := hc.root
  have hr := SV.file_of hv
  refine ⟨by show (y.desk (bareK root)).s.ok _; rw [e1]; exact h.s.more (by omega), ?_, ydesk_top h.top _ hm, by show (y.desk (bareK root)).kd.kv.fault = 0; rw [ek]; exact bareK_fault hr.1 (by omega), ?_, fun j hj hg => ?_, fun j hj => ?_⟩
  · show ∀ i, ((y.desk (bareK root)).dv i).fine ((y.desk (bareK root)).dv i).fl.length _
    rw [e2]; exact fun i => (h.dv i).more (by omega)
  · show Chain (y.desk (bareK root)).s C (y.desk (bareK root)).kd.root l
    rw [e1, ek]; exact hc
  all_goals
    have hj' : (y.j.map fun j => j.at st) = some j := hj
    cases hy : y.j with
    | none => rw [hy] at hj'; cases hj'
    | some a =>
      rw [hy] at hj'
      have e : a.at st = j := Option.some.inj hj'
      first
      | (have : j.stage = st := by rw [← e]; rfl
         omega)
      | (obtain ⟨h1, h2, _⟩ := h.set a hy
         rw [← e]
         exact ⟨h1, h2, by show st = 1 ∨ st = 2 ∨ st = 4 ∨ st = 5; omega⟩)

theorem YOk.over_ {y : YV} {C m : Nat} (h : YOk y C m) {root st : Int} {l : List Int} (hc : Chain y.s C root l) (hs : st = 4 ∨ st = 5) (hm : m < 1000000000) : YOk (y.over root st) C (m + 1) := by
  unfold YV.over
  have hw : (y.s.walk root).1 = l := by rw [hc.walk]
  split
  · next hf => rw [hw]; exact h.ends hc hs hf hm
  · next hf =>
    obtain ⟨e1, e2, e3, e4⟩ := ydesk_s y (bareK root)
    have ek := ydesk_no (d := bareK root) hf
    exact ⟨by rw [e1]; exact h.s.more (by omega), by rw [e2]; exact fun i => (h.dv i).more (by omega), ydesk_top h.top _ hm, by rw [ek]; exact h.desk, by rw [e1, e3, ek]; exact h.ch, by rw [e4, e1, e3, ek]; exact h.job, by rw [e4]; exact h.set⟩

theorem YOk.cancel {y : YV} {C m : Nat} (h : YOk y C m) (hm : m < 1000000000) : YOk y.cancel C (m + 1) := by
  unfold YV.cancel
  split
  · exact h.over_ h.ch (.inr rfl) hm
  · exact h.more (by omega)

/- The file that a job that may pivot goes to: its chain. -/
theorem JIn.chain {s : SV} {C : Nat} {root : Int} {l : List Int} {k : KDesk} {j : JV} (h : JIn s C l k j) (hc : Chain s C root l) (h2 : k.kind ≠ 2) : ∃ q, Chain s C k.file q := by
  have hk : j.kind = k.kind := by rw [← h.dsk]; rfl
  rcases h.ok.kind with e | e | e
  · obtain ⟨v, h1, h3, h4, _⟩ := h.tgt.mir (by rw [← hk]; exact e)
    exact ⟨[k.file], by rw [← h4]; exact Chain.one h1 h3⟩
  · exact absurd (hk.symm.trans e) h2
  · obtain ⟨p, q, e2⟩ := List.append_of_mem (h.tgt.com (by rw [← hk]; exact e))
    rw [e2] at hc
    exact ⟨_, hc.drop⟩

theorem YOk.pivot {y : YV} {C m : Nat} (h : YOk y C m) (hm : m + 20 < 1000000000) : YOk y.pivot C (m + 11) := by
  unfold YV.pivot
  split
  · exact h.more (by omega)
  · next j hj =>
    split
    · exact h.more (by omega)
    · next hx =>
      rw [not_or] at hx
      have hin := h.job j hj (by omega)
      have hk : j.kind = y.kd.kind := by rw [← hin.dsk]; rfl
      have hj2 : j.kind ≠ 2 := by rw [hk]; exact hx.2
      have hS : ∀ l, Stay l y.s (settleS y.s j) := fun l => by
        unfold settleS
        split
        · exact .flushL l _ _
        · exact .refl l _
      have hJ : settleJ y.s j = j := by
        unfold settleJ
        rw [if_neg (fun e => hj2 e.2.1)]
      rw [hJ]
      have hy : YOk { y with s := settleS y.s j, j := some j } C (m + 10) := by
        refine h.over (h.s.settle j (by omega)) hS (by omega) (fun a ha _ => ?_) (fun a ha => ?_)
        · cases ha; exact hin.over hS
        · cases ha; exact hin.ok.set3
      split
      · exact hy.more (by omega)
      · obtain ⟨q, hq⟩ := (hin.over hS).chain (h.ch.over (hS _)) hx.2
        exact hy.over_ hq (.inl rfl) (by omega)
end Go.Proofs.YtonhoahnieoebabGreatDoor

namespace Go.Proofs.YtonhoahnieoebabGreatDoor
open Go.RowKit

theorem settle_str {s : SV} {j : JV} (h3 : j.state = 3) (h2 : j.kind = 2) : settleS s j = (linkS s (j.l.headD 0) j.file).1 ∧ settleF s j = (linkS s (j.l.headD 0) j.file).2 := by
  unfold settleS settleF
  rw [if_pos h3, if_pos h3, if_pos h2, if_pos h2]
  exact ⟨rfl, rfl⟩
theorem settleJ_no {s : SV} {j : JV} (h3 : j.state = 3) (h2 : j.kind = 2) (hf : (linkS s (j.l.headD 0) j.file).2 ≠ 0) : settleJ s j = j.at 5 := by
  unfold settleJ
  rw [if_pos ⟨h3, h2, hf⟩]
theorem settleJ_yes {s : SV} {j : JV} (hf : (linkS s (j.l.headD 0) j.file).2 = 0) : settleJ s j = j := by
  unfold settleJ
  rw [if_neg (fun e => e.2.2 hf)]

/- What a stream that is settled makes of the chain. -/
theorem JIn.streams {s : SV} {C : Nat} {root : Int} {l : List Int} {k : KDesk} {j : JV} (h : JIn s C l k j) (hc : Chain s C root l) (hr : k.root = root) (hd : k.kv.fault = 0) (h2 : k.kind = 2) (hw : (linkS s root k.file).2 = 0) : ∃ q, Chain (linkS s root k.file).1 C root q := by
  obtain ⟨r, el⟩ := hc.head
  rcases h.tgt.str h2 with e | e
  · rw [e] at hw ⊢
    exact ⟨_, hc.linked_none hw⟩
  · have hm := of_decide_eq_true (KV.of_fault hd).2
    have hne : k.file ≠ root := by
      rcases hm with hm | hm
      · have : k.kind = 0 := hm.1
        omega
      · rw [← hr]; exact hm.2.1
    rw [el] at e
    rcases List.mem_cons.1 e with e | e
    · exact absurd e hne
    · obtain ⟨p, q, e2⟩ := List.append_of_mem e
      rw [el, e2] at hc
      exact ⟨_, hc.linked (p := p) (q := q) hw⟩

theorem YOk.step {y : YV} {C m : Nat} (h : YOk y C m) (hm : m + 30 < 1000000000) : YOk y.step C (m + 21) := by
  unfold YV.step
  split
  · exact h.more (by omega)
  · next j hj =>
    split
    · exact h.more (by omega)
    · next hx =>
      have hin := h.job j hj (by omega)
      have hz : ∀ l, Stay l y.s (stepS y.s j) := fun l => .step l _ _
      have hok := hin.ok.step
      have hia : JIn (stepS y.s j) C y.l y.kd (stepJ y.s j) := hin.as hz hok (stepJ_is _ _).1 (stepJ_is _ _).2
      have hy : YOk { y with s := stepS y.s j, j := some (stepJ y.s j) } C (m + 10) := by
        refine h.over (h.s.step j (by omega)) hz (by omega) (fun a ha _ => ?_) (fun a ha => ?_)
        · cases ha; exact hia
        · cases ha; exact hok.set3
      have hcz : Chain (stepS y.s j) C y.kd.root y.l := h.ch.over (hz _)
      have hzok := h.s.step j (show m + 10 ≤ 1000000000 by omega)
      split
      · split
        · next h5 =>
          exact (hy.bare (fun b hb => by cases hb; rw [h5]; decide) (by omega)).more (by omega)
        · exact hy.more (by omega)
      · split
        · exact hy.more (by omega)
        · next hk =>
          rw [not_or] at hk
          have hk2 : y.kd.kind = 2 := Classical.byContradiction hk.1
          have hs3 : (stepJ y.s j).state = 3 := Classical.byContradiction hk.2
          clear hk
          generalize ea : stepJ y.s j = a at hia hy hok hs3 ⊢
          generalize ez : stepS y.s j = z at hia hy hok hcz hzok ⊢
          have ha2 : a.kind = 2 := by rw [← hk2, ← hia.dsk]; rfl
          have haf : a.file = y.kd.file := by rw [← hia.dsk]; rfl
          have hhd : a.l.headD 0 = y.kd.root := by
            obtain ⟨r, e⟩ := hcz.head
            rw [hia.lst, e]; rfl
          obtain ⟨es, ef⟩ := settle_str (s := z) hs3 ha2
          rw [hhd, haf] at es ef
          rw [ef, es]
          split
          · next hf =>
            have hJ := settleJ_no (s := z) hs3 ha2 (by rw [hhd, haf]; exact hf)
            rw [hJ]
            have hst : ∀ l, Stay l z (linkS z y.kd.root y.kd.file).1 := fun l => .link_no hf
            have hy2 : YOk { y with s := (linkS z y.kd.root y.kd.file).1, j := some (a.at 5) } C (m + 20) := by
              refine ⟨hzok.link _ _ (by omega), fun i => (h.dv i).more (by omega), h.top.more (by omega), h.desk, hcz.over (hst _), fun b hb hg => ?_, fun b hb => ?_⟩
              · cases hb; exact absurd hg (by show ¬ (5 : Int) < 4; decide)
              · cases hb; exact (hok.at (.inr (.inr (.inr rfl)))).set3
            exact hy2.bare (fun b hb => by cases hb; show (4 : Int) ≤ 5; decide) (by omega)
          · next hf =>
            have hf0 : (linkS z y.kd.root y.kd.file).2 = 0 := Classical.byContradiction hf
            have hJ := settleJ_yes (s := z) (j := a) (by rw [hhd, haf]; exact hf0)
            rw [hJ]
            obtain ⟨q, hq⟩ := hia.streams hcz rfl h.desk hk2 hf0
            have hwq : ((linkS z y.kd.root y.kd.file).1.walk y.kd.root).1 = q := by rw [hq.walk]
            rw [hwq]
            have hr := h.root
            obtain ⟨e1, e2, e3, e4⟩ := ydesk_s { y with s := (linkS z y.kd.root y.kd.file).1, l := q, j := some (a.at 4) } (bareK y.kd.root)
            refine ⟨by show (YV.desk _ _).s.ok _; rw [e1]; exact (hzok.link _ _ (by omega)).more (by omega), ?_, ?_, bareK_fault hr.1 hr.2, ?_, fun b hb hg => ?_, fun b hb => ?_⟩
            · show ∀ i, ((YV.desk _ _).dv i).fine ((YV.desk _ _).dv i).fl.length _
              rw [e2]; exact fun i => (h.dv i).more (by omega)
            · exact (ydesk_top (y := { y with s := (linkS z y.kd.root y.kd.file).1, l := q, j := some (a.at 4) }) h.top _ (by omega)).more (by omega)
            · show Chain (YV.desk _ _).s C y.kd.root (YV.desk _ _).l
              rw [e1, e3]; exact hq
            · have hb' : (YV.desk _ _).j = some b := hb
              rw [e4] at hb'
              cases hb'; exact absurd hg (by show ¬ (4 : Int) < 4; decide)
            · have hb' : (YV.desk _ _).j = some b := hb
              rw [e4] at hb'
              cases hb'; exact (hok.at (.inr (.inr (.inl rfl)))).set3

/- J1. -/
theorem newDev_fine {n : Nat} (h1 : 1 ≤ n) (h2 : n ≤ 200) : (newDev n).fine (newDev n).fl.length 0 :=
  ⟨DV.made_ok (by rw [List.length_replicate]; exact h1) (by rw [List.length_replicate]; exact h2) (fun s hs => by rw [List.eq_of_mem_replicate hs]; exact List.length_replicate) (by decide), made_sn _ _, rfl, Nat.le_refl _⟩
theorem newDev_nf (n : Nat) : (newDev n).fail = -1 := rfl
theorem rowsP_nf {d : DV} (h : d.fail = -1) (t : List (Int × Int)) : ∀ k, (d.rowsP t k).1.fail = -1 ∧ (d.rowsP t k).2 = 0 := by
  have pf : ∀ {d : DV}, d.fail = -1 → d.putF = 0 ∧ ∀ i s, (d.put i s).fail = -1 := fun {d} h => by
    have h0 : d.fail ≠ 0 := by omega
    refine ⟨by unfold DV.putF; rw [if_neg h0], fun i s => ?_⟩
    unfold DV.put DV.ticked
    rw [if_neg h0, if_pos h]; exact h
  intro k
  induction k with
  | zero => exact ⟨h, rfl⟩
  | succ k ih =>
    rw [DV.rowsP_yes ih.2]
    exact ⟨(pf ih.1).2 _ _, (pf ih.1).1⟩
theorem newCr {n : Nat} {h : HV} (hk : h.ok = true) (hn : needN h ≤ n) : crF (newDev n) h = 0 := by
  unfold crF
  have hl : (newDev n).fl.length = n := List.length_replicate
  obtain ⟨h1, h2⟩ := rowsP_nf (newDev_nf n) (crT h) (rowsN h.c.toNat)
  rw [if_pos hk, if_neg (by rw [hl]; omega), if_pos (show (crD (newDev n) h).2 = 0 from h2)]
  show (crD (newDev n) h).1.flushed.putF = 0
  unfold DV.putF
  rw [if_neg (by show ¬ (crD (newDev n) h).1.fail = 0; unfold crD; omega)]
theorem newY_ok {c p : Int} (hk : (newH c p).ok = true) (hn : needN (newH c p) ≤ 200) : YOk (newY c p) c.toNat 20 := by
  have hb := HV.of_ok hk
  have hc : ((newH c p).c.toNat : Int) = c := by show (c.toNat : Int) = c; have : (1 : Int) ≤ c := hb.1; omega
  have hd := newDev_fine (n := needN (newH c p)) (by unfold needN beginN; omega) hn
  have hv := crV_ok hd hk (by rw [show (newDev (needN (newH c p))).fl.length = needN (newH c p) from List.length_replicate]; exact Nat.le_refl _) (by omega)
  have h0 : YOk (newY0 c p) c.toNat 15 := by
    refine ⟨fun i v e => ?_, fun i => hd.more (by omega), (newDev_fine (by omega) (by omega)).more (by omega), bareK_fault (by decide) (by decide), ?_, (fun j hj => by cases hj), (fun j hj => by cases hj)⟩
    · have e' : SV.upd (fun _ => none) 0 (crV (newDev (needN (newH c p))) (newH c p)) i = some v := e
      unfold SV.upd at e'
      split at e'
      · cases e'; exact hv
      · cases e'
    · have hf : (newY0 c p).s.file 0 = some (crV (newDev (needN (newH c p))) (newH c p)) := rfl
      have := Chain.one hf (by rw [crV_h]; rfl)
      rw [crV_h] at this
      show Chain (newY0 c p).s ((c.toNat : Nat) : Int) 0 [0]
      rw [show ((c.toNat : Nat) : Int) = (newH c p).c from hc]; exact this
  exact (h0.bare (fun j hj => by cases hj) (by omega)).more (by omega)
end Go.Proofs.YtonhoahnieoebabGreatDoor
