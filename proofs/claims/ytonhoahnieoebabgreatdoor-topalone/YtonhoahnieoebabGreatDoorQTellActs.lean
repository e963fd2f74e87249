/-
A stream: what is not left is not wanted (H2), behind each act: its root has the cluster, or no file above the one that it goes to.
An image that is opened on a device on which nothing is pending is safe; what is opened of a safe image as it stands is its own table (D1).
A yard and what may be found behind a crash (W3), in plain words: files that are flushed, a stream that is linked, the desk that stands.
A yard and what may be found behind a crash (W3), call by call.
-/
import Derived.Test.YtonhoahnieoebabGreatDoorQTellPlain
import Derived.Test.YtonhoahnieoebabGreatDoorQYardN1
import Derived.Test.YtonhoahnieoebabGreatDoorQCrashC
import Derived.Test.YtonhoahnieoebabGreatDoorQActBox
namespace Go.Proofs.YtonhoahnieoebabGreatDoor
open Go.RowKit

def NoWant (s : SV) (C : Nat) (j : JV) : Prop := j.kind = 2 → ∀ c, c < C → j.x.testBit c = false → ¬ 0 < s.found j.above (c : Int)

/- A file whose clusters only come to be; all others stay. -/
structure Up (s z : SV) (n : Int) : Prop where
  other : ∀ k, k ≠ n → z.file k = s.file k
  up : ∀ v, s.file n = some v → ∃ u, z.file n = some u ∧ ∀ c, (u.t.getD c (0, 0)).1 = 0 → (v.t.getD c (0, 0)).1 = 0

theorem Up.refl (s : SV) (n : Int) : Up s s n := ⟨fun _ _ => rfl, fun v hv => ⟨v, hv, fun _ h => h⟩⟩
theorem Up.trans {s z w : SV} {n : Int} (h : Up s z n) (k : Up z w n) : Up s w n :=
  ⟨fun i hi => (k.other i hi).trans (h.other i hi), fun v hv => by
    obtain ⟨u, h1, h2⟩ := h.up v hv
    obtain ⟨t, h3, h4⟩ := k.up u h1
    exact ⟨t, h3, fun c e => h2 c (h4 c e)⟩⟩
theorem Up.set {s : SV} {n : Int} {v u : IV} (hf : s.file n = some v) (h0 : ∀ c, (u.t.getD c (0, 0)).1 = 0 → (v.t.getD c (0, 0)).1 = 0) : Up s (s.upd n.toNat u) n :=
  ⟨fun k hk => by rw [SV.file_upd hf, if_neg hk], fun w hw => by
    rw [hf] at hw
    cases hw
    exact ⟨u, by rw [SV.file_upd hf, if_pos rfl], h0⟩⟩
theorem Up.lay (s : SV) (n : Int) (r : List Int) (c f : Nat) (t : ByteArray) : Up s (s.lay (n :: r) c f t).1 n := by
  unfold SV.lay
  simp only
  split
  · exact .refl _ _
  · next v hf =>
    split
    · exact .set hf fun _ => write_0
    · exact .set hf fun _ => fill_0
theorem Up.wipePt (s : SV) (n : Int) (r : List Int) (p : Pt) : Up s (SV.wipePt (n :: r) s p).1 n := by
  unfold SV.wipePt
  simp only
  split
  · exact .refl _ _
  · next v hf =>
    split
    · exact .set hf fun _ => clear_0
    · split
      · exact .refl _ _
      · exact .lay _ _ _ _ _ _
theorem Up.goPts {op : SV → Pt → SV × Int} {n : Int} (hop : ∀ (s : SV) p, Up s (op s p).1 n) : ∀ (P : List Pt) (s : SV), Up s (goPts op s P).1 n := by
  intro P
  induction P with
  | nil => intro s; exact .refl _ _
  | cons p r ih =>
    intro s
    rw [goPts_cons]
    split
    · exact (hop s p).trans (ih _)
    · exact hop s p
theorem Up.put (s : SV) (n : Int) (r : List Int) (fr : Int) (t : ByteArray) : Up s (s.put (n :: r) fr t).1 n := by
  unfold SV.put
  split
  · split
    · exact Up.goPts (fun s p => .lay _ _ _ _ _ _) _ _
    · exact .refl _ _
  · exact .refl _ _
theorem Up.wipe (s : SV) (n : Int) (r : List Int) (fr N : Int) : Up s (s.wipe (n :: r) fr N).1 n := by
  unfold SV.wipe
  split
  · exact Up.goPts (fun s p => .wipePt _ _ _ _) _ _
  · exact .refl _ _

theorem kindO_nat (v : IV) (c : Nat) : kindO (some v) (c : Int) = (v.t.getD c (0, 0)).1 := by
  show (v.entE (c : Int)).1 = _
  rw [entE_nat]
theorem foundGo_cong {s z : SV} {c : Int} : ∀ (l : List Int) (k : Nat), (∀ n ∈ l, kindO (z.file n) c = kindO (s.file n) c) → z.foundGo c l k = s.foundGo c l k := by
  intro l
  induction l with
  | nil => intro k _; rfl
  | cons n r ih =>
    intro k h
    show (if kindO (z.file n) c = 0 then z.foundGo c r (k + 1) else (k : Int)) = (if kindO (s.file n) c = 0 then s.foundGo c r (k + 1) else (k : Int))
    rw [h n List.mem_cons_self, ih (k + 1) fun i hi => h i (List.mem_cons_of_mem _ hi)]

/- What a root has the more is not wanted the more. -/
theorem found_up {s z : SV} {n : Int} {r : List Int} {v : IV} (h : Up s z n) (hf : s.file n = some v) (hn : n ∉ r) (c : Nat) : 0 < z.found (n :: r) (c : Int) → 0 < s.found (n :: r) (c : Int) := by
  obtain ⟨u, h1, h2⟩ := h.up v hf
  unfold SV.found SV.foundGo
  rw [h1, hf, kindO_nat, kindO_nat]
  have e : z.foundGo (c : Int) r 1 = s.foundGo (c : Int) r 1 := foundGo_cong r 1 fun i hi => by rw [h.other i (fun e => hn (e ▸ hi))]
  by_cases e0 : (u.t.getD c (0, 0)).1 = 0
  · rw [if_pos e0, if_pos (h2 c e0), e]; exact id
  · rw [if_neg e0]; intro h3; exact absurd h3 (by omega)

theorem above_form {s : SV} {C m : Nat} {j : JV} (h : JGo s C m j) (h2 : j.kind = 2) : ∃ n r v, j.l = n :: r ∧ j.above = n :: r.take (j.deep - 1) ∧ s.file n = some v ∧ v.t.length = C ∧ n ∉ r ∧ j.into = n ∧ j.l.drop j.deep = r.drop (j.deep - 1) := by
  obtain ⟨n, r, v, hl, hf, hc⟩ := h.ok.root
  obtain ⟨k, hk⟩ : ∃ k, j.deep = k + 1 := ⟨j.deep - 1, by have := h.str h2; omega⟩
  have hnd := h.nodup
  rw [hl] at hnd
  refine ⟨n, r, v, hl, ?_, hf, ?_, (List.nodup_cons.1 hnd).1, ?_, ?_⟩
  · unfold JV.above
    rw [hk, hl]; rfl
  · have := (h.sok _ _ (SV.file_of hf).2.2).len
    omega
  · unfold JV.into
    rw [if_pos h2, hl]; rfl
  · rw [hk, hl]; rfl

theorem NoWant.up {s z : SV} {C m : Nat} {j : JV} (h : NoWant s C j) (hg : JGo s C m j) {n : Int} {r : List Int} (hl : j.l = n :: r) (hu : Up s z n) : NoWant z C j := fun h2 c hc hb => by
  obtain ⟨n', r', v, e1, e2, e3, e4, e5, _⟩ := above_form hg h2
  rw [hl] at e1
  cases e1
  have h0 := h h2 c hc hb
  rw [e2] at h0 ⊢
  exact fun h3 => h0 (found_up hu e3 (fun e => e5 (List.mem_of_mem_take e)) c h3)
theorem NoWant.cong {s z : SV} {C : Nat} {j : JV} (h : NoWant s C j) (hz : ∀ n ∈ j.l, ∀ c, c < C → kindO (z.file n) (c : Int) = kindO (s.file n) (c : Int)) : NoWant z C j := fun h2 c hc hb => by
  have h0 := h h2 c hc hb
  unfold SV.found at h0 ⊢
  have e : z.foundGo (c : Int) j.above 0 = s.foundGo (c : Int) j.above 0 := foundGo_cong _ _ fun n hn => hz n (List.mem_of_mem_take (i := j.deep) hn) c hc
  rw [e]
  exact h0
theorem NoWant.as {s : SV} {C : Nat} {j a : JV} (h : NoWant s C j) (hk : a.kind = j.kind) (hx : a.x = j.x) (hl : a.l = j.l) (hd : a.deep = j.deep) : NoWant s C a := fun h2 c hc hb => by
  have := h (hk ▸ h2) c hc (hx ▸ hb)
  unfold JV.above at this ⊢
  rw [hl, hd]
  exact this
theorem NoWant.not2 {s : SV} {C : Nat} {j : JV} (h : j.kind ≠ 2) : NoWant s C j := fun e => absurd e h

theorem NoWant.new {s : SV} {d : KDesk} {C : Nat} (h : JOk s C (newJ0 s d)) : NoWant s C (newJ s d) := fun h2 c hc hb => by
  have hn : (newJ0 s d).n = C := h.n
  have h1 := wantTo_bit s (newJ0 s d) (newJ0 s d).n (Nat.le_refl _) c (by rw [hn]; exact hc)
  have hb' : (wantTo s (newJ0 s d) (newJ0 s d).n).testBit c = false := hb
  rw [h1] at hb'
  have h2' : (newJ0 s d).kind = 2 := h2
  unfold JV.wantB at hb'
  rw [if_neg (by omega), if_pos h2'] at hb'
  exact of_decide_eq_false hb'

theorem dirtyTo_2 {j : JV} (h : j.kind = 2) (fr : Nat) : ∀ k, dirtyTo j fr k = j := by
  intro k
  induction k with
  | zero => rfl
  | succ k ih =>
    show dirtyJ (dirtyTo j fr k) _ = j
    rw [ih]
    unfold dirtyJ
    rw [if_pos (.inl h)]

/- A step of a stream. -/
theorem NoWant.step {s : SV} {C m : Nat} {j : JV} (h : NoWant s C j) (hg : JGo s C m j) (hm : m + 10 ≤ 1000000000) (hst : (stepJ s j).stage < 4) : NoWant (stepS s j) C (stepJ s j) := by
  by_cases h2 : j.kind = 2
  · obtain ⟨n, r, v, el, ea, hf, hvl, hn, ei, _⟩ := above_form hg h2
    unfold stepJ at hst ⊢
    unfold stepS
    by_cases h1 : j.stage = 1 ∧ j.some = true ∧ S4.inB 4 j.lv = true
    · rw [if_pos h1] at hst ⊢
      by_cases hw : j.wantB s j.pick = true
      · rw [if_pos ⟨h1.1, h1.2.1, h1.2.2, hw⟩]
        by_cases hF : (j.moved s j.pick).2 ≠ 0
        · rw [if_pos ⟨hw, hF⟩] at hst
          exact absurd hst (by show ¬ (5 : Int) < 4; decide)
        · rw [if_neg (fun e => hF e.2)]
          have hF0 : (j.moved s j.pick).2 = 0 := Classical.byContradiction hF
          obtain ⟨p, hp, hpC, _⟩ := hg.ok.pick h1.2.1
          rw [hp] at hF0 ⊢
          intro _ c hc hb
          have hab : (j.went (p : Int)).above = n :: r.take (j.deep - 1) := ea
          rw [hab]
          obtain ⟨_, hrd⟩ := hg.ok.read hg.sok hpC
          have hvo := hg.sok _ _ (SV.file_of hf).2.2
          have hgt := hg.tab _ _ hf
          unfold JV.moved at hF0 ⊢
          rw [ei, move_mv hf] at hF0 ⊢
          by_cases e : c = p
          · subst e
            have h0 := (mv_yes hvo hgt hm (by rw [hvl]; exact hpC) hrd hF0 (j := 0) (by omega)).1
            unfold SV.found SV.foundGo
            rw [show (s.upd n.toNat (v.mv (c : Int) (s.read j.l (c : Int)).1).1).file n = some (v.mv (c : Int) (s.read j.l (c : Int)).1).1 by rw [SV.file_upd hf, if_pos rfl], kindO_nat, if_neg h0]
            omega
          · have hb' : (S4.putV j.n j.x (p : Int) false).testBit c = false := hb
            rw [S4.putV_bit, if_neg (fun x => e (by have := x.2; omega))] at hb'
            have h0 := h h2 c hc hb'
            rw [ea] at h0
            unfold SV.found at h0 ⊢
            rw [foundGo_cong _ _ fun i hi => ?_]
            · exact h0
            · by_cases ein : i = n
              · rw [ein, SV.file_upd hf, if_pos rfl, hf, kindO_nat, kindO_nat]
                exact (mv_only hvo hgt hm (by rw [hvl]; exact hpC) hrd (fun e2 => e e2.symm) (by rw [hvl]; exact hc) (j := 0) (by omega)).1
              · rw [SV.file_upd hf, if_neg ein]
      · rw [if_neg (fun e => hw e.2.2.2), if_neg (fun e => hw e.1)]
        obtain ⟨p, hp, hpC, _⟩ := hg.ok.pick h1.2.1
        rw [hp] at hw ⊢
        intro _ c hc hb
        by_cases e : c = p
        · subst e
          unfold JV.wantB at hw
          rw [if_neg (by omega), if_pos h2] at hw
          intro h3
          exact hw (decide_eq_true h3)
        · have hb' : (S4.putV j.n j.x (p : Int) false).testBit c = false := hb
          rw [S4.putV_bit, if_neg (fun x => e (by have := x.2; omega))] at hb'
          exact h h2 c hc hb'
    · rw [if_neg h1] at hst ⊢
      rw [if_neg (fun e => h1 ⟨e.1, e.2.1, e.2.2.1⟩)]
      exact h
  · refine .not2 fun e => h2 ?_
    have := congrArg KDesk.kind (stepJ_is s j).2
    rw [← e]
    exact this.symm
end Go.Proofs.YtonhoahnieoebabGreatDoor

namespace Go.Proofs.YtonhoahnieoebabGreatDoor
open Go.RowKit

/- Nothing is pending. -/
def DV.flat (d : DV) : Prop := ∀ i s, d.ver i s → s = d.seen.getD i []
/- A safe image that is opened as it stands. -/
theorem Safe.same {v : IV} {U : List (Int × Int)} {m : Nat} (hs : Safe v U) (hok : v.ok m) : openF v.d = 0 ∧ openH v.d = v.h ∧ (openV v.d).t = v.t := by
  obtain ⟨h1, h2, h3, h4⟩ := hs.opens hok rfl (ver_seen hok.d.sn)
  have hlen : (openV v.d).t.length = v.t.length := by rw [h3.1]; exact hs.sub.1.symm
  have hl : ((openV v.d).t.length : Int) = v.h.c := by rw [hlen]; exact hok.len
  refine ⟨h1, h2, List.ext_getElem hlen fun c q1 q2 => ?_⟩
  have e : rowS (openV v.d).t ((c / 8 : Nat) : Int) = rowS v.t ((c / 8 : Nat) : Int) := by
    have := (h4 (c / 8) (rows_lt q2)).symm.trans (hs.seen (c / 8) (rows_lt q2))
    cases hA : rowS (openV v.d).t ((c / 8 : Nat) : Int) with
    | mk a =>
      cases hB : rowS v.t ((c / 8 : Nat) : Int) with
      | mk b =>
        rw [hA, hB] at this
        congr 1
        exact Array.toList_inj.1 this
  have e1 := row_ent hok.h hl (fun k => h3.entB hs.good k) (rows_lt q1) (i := c % 8) (by omega)
  have e2 := row_ent hok.h hok.len (fun k => hs.sub.entB hs.good k) (rows_lt q2) (i := c % 8) (by omega)
  rw [e] at e1
  have e3 := e1.symm.trans e2
  rw [show c / 8 * 8 + c % 8 = c by omega, List.getD_eq_getElem?_getD, List.getD_eq_getElem?_getD, List.getElem?_eq_getElem q1, List.getElem?_eq_getElem q2] at e3
  exact e3
end Go.Proofs.YtonhoahnieoebabGreatDoor

namespace Go.Proofs.YtonhoahnieoebabGreatDoor
open Go.RowKit

/- Files of which nothing is pending. -/
def FlatF (s : SV) (n : Int) : Prop := ∃ w U m, s.file n = some (IV.flush w) ∧ Safe w U ∧ w.ok m
theorem FlatF.flush1 {s : SV} {n : Int} (h : FlatF s n) (k : Int) : FlatF (s.flush1 k) n := by
  obtain ⟨w, U, m, h1, h2, h3⟩ := h
  unfold SV.flush1
  split
  · exact ⟨w, U, m, h1, h2, h3⟩
  · next v hf =>
    by_cases e : n = k
    · subst e
      rw [h1] at hf
      cases hf
      exact ⟨w.flush, w.t, m, by rw [SV.file_upd h1, if_pos rfl], h2.flush h3.d.sn, h3.flush⟩
    · exact ⟨w, U, m, by rw [SV.file_upd hf, if_neg e]; exact h1, h2, h3⟩
theorem flush1_flat {s : SV} {m : Nat} (hok : s.ok m) (hS : SSafe s) {n : Int} {v : IV} (hf : s.file n = some v) : FlatF (s.flush1 n) n := by
  obtain ⟨U, hs⟩ := hS.file hf
  unfold SV.flush1
  rw [hf]
  exact ⟨v, U, m, by show (s.upd n.toNat v.flush).file n = _; rw [SV.file_upd hf, if_pos rfl], hs, hok.file hf⟩
theorem FlatF.flushL {n : Int} : ∀ (q : List Int) {s : SV}, FlatF s n → FlatF (s.flushL q) n := by
  intro q
  induction q with
  | nil => intro s h; exact h
  | cons k q ih => intro s h; exact ih (h.flush1 k)
theorem flushL_flat {C m : Nat} : ∀ (l : List Int) {s : SV}, s.good (C : Int) l → s.ok m → SSafe s → ∀ n ∈ l, FlatF (s.flushL l) n := by
  intro l
  induction l with
  | nil => intro s _ _ _ n hn; cases hn
  | cons k r ih =>
    intro s hg hok hS n hn
    show FlatF ((s.flush1 k).flushL r) n
    rcases List.mem_cons.1 hn with e | e
    · subst e
      obtain ⟨v, hf, _⟩ := hg n List.mem_cons_self
      exact (flush1_flat hok hS hf).flushL r
    · exact ih (s := s.flush1 k) ((Stay.flush1 r s k).good fun i hi => hg i (List.mem_cons_of_mem _ hi)) (hok.flush1 k) (hS.flush1 hok k) n e

/- All files of a chain are as they are shown. -/
theorem Tells.flat {z : SV} {C m : Nat} {l : List Int} {cr : Nat → List (List UInt8)} (hg : z.good (C : Int) l) (hok : z.ok m) (hT : ∀ n ∈ l, ∀ v, z.file n = some v → Told v (fun k => [v.sh k])) (hs : ∀ k, k < 4 * C → z.sec l k ∈ cr k) : Tells z C l cr := by
  refine ⟨fun n k => match z.file n with | none => [] | some v => [v.sh k], fun n hn v hv => ?_, fun k hk => falls_flat (fun n hn => ?_) (hs k hk)⟩
  · simp only [hv]; exact hT n hn v hv
  · obtain ⟨v, hf, _⟩ := hg n hn
    have hl := good_len hg hok hn hf
    exact ⟨v, hf, by simp only [hf], sh_there (hok.file hf) (by omega)⟩
theorem FlatF.told {s : SV} {n : Int} (h : FlatF s n) : ∀ v, s.file n = some v → Told v (fun k => [v.sh k]) := fun v hv => by
  obtain ⟨w, U, m, h1, h2, h3⟩ := h
  rw [h1] at hv
  cases hv
  exact Told.flat h2 h3
theorem Tells.flushed {s : SV} {C m : Nat} {l : List Int} {cr : Nat → List (List UInt8)} (hg : s.good (C : Int) l) (hok : s.ok m) (hS : SSafe s) (hs : ∀ k, k < 4 * C → s.sec l k ∈ cr k) : Tells (s.flushL l) C l cr := by
  refine .flat ((Stay.flushL l l s).good hg) (SV.ok.flushL l hok) (fun n hn => (flushL_flat l hg hok hS n hn).told) fun k hk => ?_
  have : (s.flushL l).sec l k = s.sec l k := flushL_view (k / 4) (k % 4) (by omega) l s hg
  rw [this]
  exact hs k hk

/- Link. -/
theorem link_flat {v : IV} {U : List (Int × Int)} {m : Nat} (hs : Safe v U) (hok : v.ok m) (hm : m + 10 ≤ 1000000000) {b : Int} (hb : (v.linkH b).ok = true) : Told (v.link b) (fun k => [(v.link b).sh k]) := by
  obtain ⟨U', hs'⟩ := hs.link hok b
  have hok' := hok.link b hm
  refine told_flat hs' hok' ?_ ?_ fun k _ => List.mem_singleton.2 rfl
  · unfold IV.link
    rw [if_pos hb]
    unfold IV.headV
    split
    · intro i s h
      rcases h with h | ⟨x, hx, _⟩
      · exact h
      · cases hx
    · next hp =>
      intro i s h
      have e : v.flush.d.put 0 (sealS (v.linkH b).bytes).data.toList = v.flush.d.failing (-1) := put_no _ _ hp
      have h' : (v.flush.d.put 0 (sealS (v.linkH b).bytes).data.toList).ver i s := h
      show s = (v.flush.d.put 0 (sealS (v.linkH b).bytes).data.toList).seen.getD i []
      rw [e] at h' ⊢
      rcases h' with h | ⟨x, hx, _⟩
      · exact h
      · cases hx
  · unfold IV.link
    rw [if_pos hb]
    unfold IV.headV
    split <;> rfl
theorem link_t (v : IV) (b : Int) : (v.link b).t = v.t := by
  unfold IV.link
  split
  · unfold IV.headV
    split <;> rfl
  · rfl
theorem TellsA.link {v : IV} {U : List (Int × Int)} {m : Nat} (hs : Safe v U) (hok : v.ok m) (hm : m + 10 ≤ 1000000000) (b : Int) : TellsA v (v.link b) := fun may may' h hmay hn => by
  by_cases hb : (v.linkH b).ok = true
  · have h1 := link_flat hs hok hm hb
    refine ⟨fun c hc s hv => ?_, fun k hk => hn k (by rw [← link_t v b]; exact hk), h1.held⟩
    have h2 := h1.vers c hc s hv
    rw [link_t] at hc
    intro j hj
    have h3 := hn (4 * c + j) (by omega)
    obtain ⟨a0, a1, a2⟩ := h2 j hj
    exact ⟨fun e => by rw [List.mem_singleton.1 (a0 e)]; exact h3, fun e => by rw [List.mem_singleton.1 (a1 e)]; exact h3, fun e => ⟨(a2 e).1, fun x hx => by rw [List.mem_singleton.1 ((a2 e).2 x hx)]; exact h3⟩⟩
  · have e : v.link b = v := by unfold IV.link; rw [if_neg hb]
    rw [e]; exact h.mono hmay
theorem Tells.link {s : SV} {C m : Nat} {l : List Int} {cr : Nat → List (List UInt8)} (h : Tells s C l cr) (hg : s.good (C : Int) l) (hok : s.ok m) (hS : SSafe s) (hm : m + 10 ≤ 1000000000) (n b : Int) : Tells (linkS s n b).1 C l cr := by
  unfold linkS
  split
  · exact h
  · next v hf =>
    obtain ⟨U, hs⟩ := hS.file hf
    refine h.act hf (fun hn => good_len hg hok hn hf) (fun _ => .link hs (hok.file hf) hm b) (fun _ _ e => e) fun hn k hk => .inl ?_
    have := link_sh v b (c := k / 4) (j := k % 4) (by omega)
    rw [show 4 * (k / 4) + k % 4 = k by omega] at this
    exact this

/- Files whose cluster is Absent are passed by. -/
theorem Falls.skip {s : SV} {M : Int → Nat → List (List UInt8)} {cr : Nat → List (List UInt8)} {k : Nat} {q : List Int} : ∀ (p : List Int), (∀ n ∈ p, ∃ v, s.file n = some v ∧ v.sh k ∈ M n k ∧ (v.t.getD (k / 4) (0, 0)).1 = 0) → Falls M cr k (p ++ q) → Falls M cr k q := by
  intro p
  induction p with
  | nil => intro _ h; exact h
  | cons n r ih =>
    intro hp h
    obtain ⟨v, _, h2, h3⟩ := hp n List.mem_cons_self
    rw [sh_absent h3] at h2
    exact ih (fun i hi => hp i (List.mem_cons_of_mem _ hi)) (h.2 h2)

theorem foundGo_none {s : SV} {c : Int} : ∀ (l : List Int) (k : Nat), ¬ 0 < s.foundGo c l (k + 1) → ∀ n ∈ l, kindO (s.file n) c = 0 := by
  intro l
  induction l with
  | nil => intro k _ n hn; cases hn
  | cons i r ih =>
    intro k h n hn
    unfold SV.foundGo at h
    by_cases e : kindO (s.file i) c = 0
    · rw [if_pos e] at h
      rcases List.mem_cons.1 hn with e2 | e2
      · rw [e2]; exact e
      · exact ih (k + 1) h n e2
    · rw [if_neg e] at h
      omega

/- A stream that is concluded: its root, linked to the file that it went to. -/
theorem Tells.streamed {s : SV} {C m : Nat} {j : JV} {cr : Nat → List (List UInt8)} {b : Int} (h : Tells s C j.l cr) (hg : JGo s C m j) (hS : SSafe s) (hm : m + 10 ≤ 1000000000) (h2 : j.kind = 2) (hw : NoWant s C j) (hx : S4.cnt j.x 64 = 0) (hC : C ≤ 64) (hb : (linkS s j.into b).2 = 0) : Tells (linkS s j.into b).1 C (tlist j) cr := by
  obtain ⟨n, r, v, el, ea, hf, hvl, hn, ei, ed⟩ := above_form hg h2
  have h1 := h.link hg.ok.good hg.sok hS hm n b
  rw [ei] at hb ⊢
  obtain ⟨U, hs⟩ := hS.file hf
  have hlk : linkS s n b = (s.upd n.toNat (v.link b), v.linkF b) := by unfold linkS; rw [hf]
  rw [hlk] at hb h1 ⊢
  have hok : (v.linkH b).ok = true := by
    have hb' : v.linkF b = 0 := hb
    unfold IV.linkF at hb'
    split at hb'
    · next e => exact e
    · cases hb'
  have hflat := link_flat hs (hg.sok.file hf) hm hok
  have et : tlist j = n :: r.drop (j.deep - 1) := by
    unfold tlist
    rw [if_neg (by omega), if_pos h2, ed, el]; rfl
  obtain ⟨M, m1, m2⟩ := h1.ex
  have hfile : ∀ i, (s.upd n.toNat (v.link b)).file i = if i = n then some (v.link b) else s.file i := fun i => SV.file_upd hf i
  have hnow : ∀ i ∈ j.l, ∀ k, k < 4 * C → ∃ w, (s.upd n.toNat (v.link b)).file i = some w ∧ w.sh k ∈ M i k ∧ ∀ c : Nat, kindO (s.file i) (c : Int) = (w.t.getD c (0, 0)).1 := fun i hi k hk => by
    rw [hfile]
    by_cases e : i = n
    · rw [if_pos e]
      refine ⟨v.link b, rfl, ?_, fun c => ?_⟩
      · have := m1 i hi (v.link b) (by rw [hfile, if_pos e])
        exact this.now k (by rw [link_t, hvl]; exact hk)
      · rw [e, hf, kindO_nat, link_t]
    · rw [if_neg e]
      obtain ⟨w, hw1, _⟩ := hg.ok.good i hi
      refine ⟨w, hw1, ?_, fun c => by rw [hw1, kindO_nat]⟩
      have := m1 i hi w (by rw [hfile, if_neg e]; exact hw1)
      exact this.now k (by rw [good_len hg.ok.good hg.sok hi hw1]; exact hk)
  rw [et]
  refine ⟨fun i => if i = n then fun k => [(v.link b).sh k] else M i, fun i hi w hw1 => ?_, fun k hk => ?_⟩
  · by_cases e : i = n
    · simp only [if_pos e]
      rw [hfile, if_pos e] at hw1
      cases hw1
      exact hflat
    · simp only [if_neg e]
      refine m1 i ?_ w hw1
      rw [el]
      rcases List.mem_cons.1 hi with e2 | e2
      · exact absurd e2 e
      · exact List.mem_cons_of_mem _ (List.mem_of_mem_drop e2)
  · have hF := m2 k hk
    rw [el] at hF hnow
    obtain ⟨w, w1, w2, w3⟩ := hnow n List.mem_cons_self k hk
    rw [hfile, if_pos rfl] at w1
    cases w1
    refine ⟨fun x hx1 h45 => ?_, fun h45 => ?_⟩
    · simp only [if_true] at hx1
      rw [List.mem_singleton.1 hx1] at h45 ⊢
      exact hF.1 _ w2 h45
    · simp only [if_true] at h45
      have h45' : (v.link b).sh k = [45] := (List.mem_singleton.1 h45).symm
      have hk0 : ((v.link b).t.getD (k / 4) (0, 0)).1 = 0 := sh_there ((hg.sok.file hf).link b hm) (by rw [link_t, hvl]; exact hk) h45'
      have hbit : j.x.testBit (k / 4) = false := by
        cases hbt : j.x.testBit (k / 4) with
        | false => rfl
        | true =>
          have hm1 : k / 4 ∈ S4.elemsTo j.x 64 := (S4.elemsTo_mem j.x 64 (k / 4)).2 ⟨by omega, hbt⟩
          have hl := S4.elemsTo_len j.x 64
          rw [hx] at hl
          rw [List.eq_nil_of_length_eq_zero hl] at hm1
          cases hm1
      have hnw := hw h2 (k / 4) (by omega) hbit
      rw [ea] at hnw
      unfold SV.found SV.foundGo at hnw
      rw [w3, if_pos hk0] at hnw
      have habs := foundGo_none _ _ hnw
      rw [h45'] at w2
      have hrest := hF.2 w2
      have hsplit : r = r.take (j.deep - 1) ++ r.drop (j.deep - 1) := (List.take_append_drop _ _).symm
      rw [hsplit] at hrest
      have hlow := hrest.skip (s := s.upd n.toNat (v.link b)) _ fun i hi => by
        obtain ⟨u, u1, u2, u3⟩ := hnow i (List.mem_cons_of_mem _ (List.mem_of_mem_take hi)) k hk
        exact ⟨u, u1, u2, by rw [← u3]; exact habs i hi⟩
      refine hlow.re (fun _ e => e) fun i hi x hx1 => .inl ?_
      have hne : i ≠ n := fun e => hn (e ▸ List.mem_of_mem_drop hi)
      simp only [if_neg hne] at hx1
      exact hx1

/- The desk that stands: nothing is pending, and it names the root. -/
structure DeskAt (t : DV) (r : Int) : Prop where
  pend : t.pend = []
  ok : deskF (bytesOf (t.seen.getD 0 [])) = 0
  root : (openK t).root = r
theorem DeskAt.fail {t : DV} {r : Int} (h : DeskAt t r) (n : Int) : DeskAt (t.failing n) r := ⟨h.pend, h.ok, h.root⟩
theorem desk_at {y : YV} {m : Nat} (ht : y.top.fine y.top.fl.length m) {d : KDesk} (hd : d.kv.fault = 0) (hp : y.top.putF = 0) : DeskAt (y.desk d).top d.root := by
  unfold YV.desk
  rw [if_pos hp]
  have hs : (y.top.put 0 (YV.deskS d)).flushed.seen.getD 0 [] = YV.deskS d := seen_put_same y.top _ hp (by rw [ht.ok.same]; exact ht.ok.n1)
  have hb : bytesOf ((y.top.put 0 (YV.deskS d)).flushed.seen.getD 0 []) = sealS d.kv.bytes := by rw [hs]; exact bytesOf_data _
  obtain ⟨e1, e2⟩ := deskOf_seal d.kv hd
  refine ⟨rfl, by rw [hb]; exact e2, ?_⟩
  show (openK (y.top.put 0 (YV.deskS d)).flushed).root = d.root
  unfold openK
  rw [hb, e1]; rfl
theorem DeskAt.desk {y : YV} {m : Nat} (h : DeskAt y.top y.kd.root) (ht : y.top.fine y.top.fl.length m) {d : KDesk} (hd : d.kv.fault = 0) : DeskAt (y.desk d).top (y.desk d).kd.root := by
  by_cases hp : y.top.putF = 0
  · rw [ydesk_yes hp]
    exact desk_at ht hd hp
  · rw [ydesk_no hp]
    unfold YV.desk
    rw [if_neg hp]
    show DeskAt (y.top.put 0 (YV.deskS d)) y.kd.root
    rw [put_no _ _ hp]
    exact h.fail _
end Go.Proofs.YtonhoahnieoebabGreatDoor

namespace Go.Proofs.YtonhoahnieoebabGreatDoor
open Go.RowKit

structure YT (y : YV) (C m : Nat) (cr : Nat → List (List UInt8)) : Prop where
  yg : YG y C m
  tells : Tells y.s C y.l cr
  want : ∀ j, y.j = some j → j.stage < 4 → NoWant y.s C j
  desk : DeskAt y.top y.kd.root

/- What is no file's business. -/
theorem YT.as {y z : YV} {C m m' : Nat} {cr : Nat → List (List UInt8)} (h : YT y C m cr) (hz : YG z C m') (hs : z.s = y.s) (hl : z.l = y.l) (hw : ∀ j, z.j = some j → j.stage < 4 → NoWant z.s C j) (hd : DeskAt z.top z.kd.root) : YT z C m' cr :=
  ⟨hz, by rw [hs, hl]; exact h.tells, hw, hd⟩

theorem kind_flush1 (s : SV) (n k : Int) (c : Int) : kindO ((s.flush1 n).file k) c = kindO (s.file k) c := by
  unfold SV.flush1
  split
  · rfl
  · next v hf =>
    rw [SV.file_upd hf]
    by_cases e : k = n
    · rw [if_pos e, e, hf]; rfl
    · rw [if_neg e]
theorem kind_flushL (k : Int) (c : Int) : ∀ (l : List Int) (s : SV), kindO ((s.flushL l).file k) c = kindO (s.file k) c := by
  intro l
  induction l with
  | nil => intro s; rfl
  | cons n r ih => intro s; exact (ih (s.flush1 n)).trans (kind_flush1 s n k c)

theorem YT.write {y : YV} {C m : Nat} {cr cr' : Nat → List (List UInt8)} (h : YT y C m cr) {fr : Nat} {t : ByteArray} (ht : t.size % 16 = 0) (hf : y.s.chkF y.l (fr : Int) ((t.size / 16 : Nat) : Int) = 0) (hm : m + 10 * (t.size / 16) < 1000000000)
    (hc : ∀ k x, x ∈ cr k → x ∈ cr' k) (hx : ∀ k, fr ≤ k → k < fr + t.size / 16 → chunk t (k - fr) ∈ cr' k) : YT (y.write (fr : Int) t) C (m + 10 * (t.size / 16)) cr' := by
  obtain ⟨r, el, hT⟩ := h.yg.top
  obtain ⟨_, q2, q3⟩ := h.yg.write ht hf (by omega)
  have e1 : y.write (fr : Int) t = ({ y with s := (y.s.put y.l (fr : Int) t).1 } : YV).mark fr (t.size / 16) := by
    unfold YV.write
    rw [if_pos ⟨ht, hf⟩]
    rfl
  have es : (y.write (fr : Int) t).s = (y.s.put y.l (fr : Int) t).1 := by rw [e1]; rfl
  have ej : (y.write (fr : Int) t).j = y.j.map fun j => dirtyTo j fr (t.size / 16) := by rw [e1]; rfl
  have ed : (y.write (fr : Int) t).top = y.top ∧ (y.write (fr : Int) t).kd = y.kd := by rw [e1]; exact ⟨rfl, rfl⟩
  have hf' := hf
  rw [el] at hf'
  refine ⟨q2, ?_, fun a ha hg => ?_, by rw [ed.1, ed.2]; exact h.desk⟩
  · rw [q3, es, el]
    have h1 := h.tells
    rw [el] at h1
    exact h1.put hT ht hf' hm hc hx
  · rw [ej] at ha
    cases hj : y.j with
    | none => rw [hj] at ha; cases ha
    | some j =>
      rw [hj] at ha
      have e : dirtyTo j fr (t.size / 16) = a := Option.some.inj ha
      obtain ⟨d1, d2, d3, _⟩ := dirtyTo_is j fr (t.size / 16)
      have hgj : j.stage < 4 := by rw [← d3, e]; exact hg
      have hin := h.yg.ok.job j hj hgj
      by_cases h2 : j.kind = 2
      · rw [dirtyTo_2 h2] at e
        rw [← e, es, el]
        exact (h.want j hj hgj).up (h.yg.go hj hgj) (by rw [hin.lst, el]) (.put _ _ _ _ _)
      · refine .not2 fun e2 => h2 ?_
        have := congrArg KDesk.kind d2
        rw [← e] at e2
        exact this.symm.trans e2
theorem YT.wipe {y : YV} {C m : Nat} {cr cr' : Nat → List (List UInt8)} (h : YT y C m cr) {fr N : Nat} (hf : y.s.chkF y.l (fr : Int) (N : Int) = 0) (hm : m + 10 * N < 1000000000)
    (hc : ∀ k x, x ∈ cr k → x ∈ cr' k) (hx : ∀ k, fr ≤ k → k < fr + N → noughts ∈ cr' k) : YT (y.wipe (fr : Int) (N : Int)) C (m + 10 * N) cr' := by
  obtain ⟨r, el, hT⟩ := h.yg.top
  obtain ⟨_, q2, q3⟩ := h.yg.wipe hf (by omega)
  have hN : ((N : Int)).toNat = N := by omega
  have e1 : y.wipe (fr : Int) (N : Int) = ({ y with s := (y.s.wipe y.l (fr : Int) (N : Int)).1 } : YV).mark fr N := by
    unfold YV.wipe
    rw [if_pos hf]
    rfl
  have es : (y.wipe (fr : Int) (N : Int)).s = (y.s.wipe y.l (fr : Int) (N : Int)).1 := by rw [e1]; rfl
  have ej : (y.wipe (fr : Int) (N : Int)).j = y.j.map fun j => dirtyTo j fr N := by rw [e1]; rfl
  have ed : (y.wipe (fr : Int) (N : Int)).top = y.top ∧ (y.wipe (fr : Int) (N : Int)).kd = y.kd := by rw [e1]; exact ⟨rfl, rfl⟩
  have hf' := hf
  rw [el] at hf'
  refine ⟨q2, ?_, fun a ha hg => ?_, by rw [ed.1, ed.2]; exact h.desk⟩
  · rw [q3, es, el]
    have h1 := h.tells
    rw [el] at h1
    exact h1.wipe hT hf' hm hc hx
  · rw [ej] at ha
    cases hj : y.j with
    | none => rw [hj] at ha; cases ha
    | some j =>
      rw [hj] at ha
      have e : dirtyTo j fr N = a := Option.some.inj ha
      obtain ⟨d1, d2, d3, _⟩ := dirtyTo_is j fr N
      have hgj : j.stage < 4 := by rw [← d3, e]; exact hg
      have hin := h.yg.ok.job j hj hgj
      by_cases h2 : j.kind = 2
      · rw [dirtyTo_2 h2] at e
        rw [← e, es, el]
        exact (h.want j hj hgj).up (h.yg.go hj hgj) (by rw [hin.lst, el]) (.wipe _ _ _ _ _)
      · refine .not2 fun e2 => h2 ?_
        have := congrArg KDesk.kind d2
        rw [← e] at e2
        exact this.symm.trans e2

/- Flushed: what is seen is what is found. -/
theorem YT.flush {y : YV} {C m : Nat} {cr cr' : Nat → List (List UInt8)} (h : YT y C m cr) (hs : ∀ k, k < 4 * C → y.s.sec y.l k ∈ cr' k) : YT y.flush C m cr' :=
  ⟨h.yg.flush.1, Tells.flushed h.yg.ok.ch.good h.yg.ok.s h.yg.safe hs, fun j hj hg => (h.want j hj hg).cong fun n _ c _ => kind_flushL n c y.l y.s, h.desk⟩

theorem blank_other (y : YV) (f back : Int) : ∀ n ∈ y.l, (y.blank f back).s.file n = y.s.file n := fun n hm => by
  unfold YV.blank
  split
  · next hx =>
    split
    · rfl
    · next hu =>
      obtain ⟨hn, _⟩ := used_no hu
      split
      · show (y.s.upd f.toNat _).file n = _
        rw [file_set _ hx.1 hx.2, if_neg (fun (e : n = f) => hn (e ▸ hm))]
      · show (y.s.gone f.toNat).file n = _
        rw [file_gone _ hx.1 hx.2, if_neg (fun (e : n = f) => hn (e ▸ hm))]
  · rfl
theorem YT.blank {y : YV} {C m : Nat} {cr : Nat → List (List UInt8)} (h : YT y C m cr) (f back : Int) (hm : m + 20 < 1000000000) : YT (y.blank f back) C (m + 15) cr := by
  obtain ⟨b1, b2, b3, b4⟩ := blank_j y f back
  refine ⟨(h.yg.blank f back hm).1, by rw [b3]; exact h.tells.other (blank_other y f back), fun j hj hg => ?_, by rw [b4, b2]; exact h.desk⟩
  rw [b1] at hj
  have hin := h.yg.ok.job j hj hg
  exact (h.want j hj hg).cong fun n hn c _ => by rw [blank_other y f back n (by rw [← hin.lst]; exact hn)]

theorem YT.snap {y : YV} {C m : Nat} {cr : Nat → List (List UInt8)} (h : YT y C m cr) (f : Int) (hm : m + 20 < 1000000000) : YT (y.snap f) C (m + 16) cr := by
  obtain ⟨hg, _⟩ := h.yg.snap f hm
  have hb := h.blank f y.kd.root hm
  unfold YV.snap at hg ⊢
  split
  · next hx => rw [if_pos hx] at hg; exact ⟨hg, h.tells, h.want, h.desk⟩
  · next hx =>
    rw [if_neg hx] at hg
    rw [not_or] at hx
    have hbn := busy_no hx.1
    obtain ⟨b1, b2, b3, b4⟩ := blank_j y f y.kd.root
    obtain ⟨d1, _, d3, d4⟩ := ydesk_s (y.blank f y.kd.root) (bareK f)
    split
    · next hbf =>
      rw [if_pos hbf] at hg
      obtain ⟨h0, h5, hu, hc, eb⟩ := blankF_is hbf
      have hdk := hb.desk.desk hb.yg.ok.top (bareK_fault h0 (by omega))
      split
      · next hdf =>
        rw [if_pos hdf] at hg
        have hgo := hg.ok.ch.good
        have hso := hg.ok.s
        refine ⟨hg, ?_, fun j hj hgj => ?_, hdk⟩
        · show Tells (YV.desk _ _).s C (f :: y.l) cr
          rw [d1]
          obtain ⟨M, m1, m2⟩ := hb.tells.ex
          rw [b3] at m1 m2
          have hff : (y.blank f y.kd.root).s.file f = some (crV (y.dev f.toNat) (y.head f y.kd.root)) := by
            rw [eb]
            show (y.s.upd f.toNat _).file f = _
            rw [file_set _ h0 h5, if_pos rfl]
          obtain ⟨hn, _⟩ := used_no hu
          have hcr : Told (crV (y.dev f.toNat) (y.head f y.kd.root)) (fun _ => [[45]]) := by
            have hh := hc
            unfold crF at hh
            by_cases k1 : (y.head f y.kd.root).ok = true
            · rw [if_pos k1] at hh
              by_cases k2 : (y.dev f.toNat).fl.length < needN (y.head f y.kd.root)
              · rw [if_pos k2] at hh; cases hh
              · exact crV_told (h.yg.ok.dev _) k1 (by omega) hm hc
            · rw [if_neg k1] at hh; cases hh
          refine ⟨fun i => if i = f then fun _ => [[45]] else M i, fun i hi v hv => ?_, fun k hk => ⟨fun x hx h45 => ?_, fun _ => ?_⟩⟩
          · by_cases e : i = f
            · simp only [if_pos e]
              rw [e, hff] at hv
              cases hv
              exact hcr
            · simp only [if_neg e]
              rcases List.mem_cons.1 hi with e2 | e2
              · exact absurd e2 e
              · exact m1 i e2 v hv
          · simp only [if_true] at hx
            exact absurd (List.mem_singleton.1 hx) h45
          · refine (m2 k hk).re (fun _ e => e) fun i hi x hx1 => .inl ?_
            have hne : i ≠ f := fun e => hn (e ▸ hi)
            simp only [if_neg hne] at hx1
            exact hx1
        · have hj' : (YV.desk _ _).j = some j := hj
          rw [d4, b1] at hj'
          exact absurd (hbn j hj') (by omega)
      · next hdf =>
        rw [if_neg hdf] at hg
        refine ⟨hg, by rw [d1, d3]; exact hb.tells, fun j hj hgj => ?_, hdk⟩
        rw [d4, b1] at hj
        exact absurd (hbn j hj) (by omega)
    · next hbf =>
      rw [if_neg hbf] at hg
      exact ⟨hg, hb.tells, hb.want, hb.desk⟩

theorem YT.start {y : YV} {C m : Nat} {cr : Nat → List (List UInt8)} (h : YT y C m cr) {d : KDesk} (hr : d.root = y.kd.root) (hm : m < 1000000000) : YT (y.start d) C (m + 1) cr := by
  obtain ⟨hg, _⟩ := h.yg.start hr hm
  unfold YV.start at hg ⊢
  split
  · next h0 =>
    rw [if_pos h0] at hg
    obtain ⟨hn, hfl⟩ : newF y.s d = 0 ∧ d.kv.fault = 0 := by
      unfold YV.startF0 at h0
      split at h0
      · cases h0
      · split at h0
        · cases h0
        · split at h0
          · next hf => exact ⟨h0, hf⟩
          · next hf => exact absurd h0 hf
    obtain ⟨d1, _, d3, d4⟩ := ydesk_s y d
    have hdk := h.desk.desk h.yg.ok.top hfl
    split
    · next hd =>
      rw [if_pos hd] at hg
      refine h.as hg d1 d3 (fun b hb _ => ?_) hdk
      have hb' : some ((newJ y.s d).at 1) = some b := hb
      cases hb'
      show NoWant (y.desk d).s C _
      rw [d1]
      have hk := newF_ok h.yg.ok.s hn
      obtain ⟨C', k1, k2, _⟩ := hk.jok
      have hC : C' = C := by
        have hl : (y.s.walk d.root).1 = y.l := by rw [hr, h.yg.ok.ch.walk]
        rw [hl, h.yg.ok.ch.good.clusters h.yg.ok.ch.ne] at k2
        omega
      subst hC
      exact (NoWant.new k1).as rfl rfl rfl rfl
    · next hd =>
      rw [if_neg hd] at hg
      exact h.as hg d1 d3 (fun j hj hgj => by rw [d1]; exact h.want j (by rw [← d4]; exact hj) hgj) hdk
  · next h0 =>
    rw [if_neg h0] at hg
    exact ⟨hg, h.tells, h.want, h.desk⟩

theorem YT.cancel {y : YV} {C m : Nat} {cr : Nat → List (List UInt8)} (h : YT y C m cr) (hm : m < 1000000000) : YT y.cancel C (m + 1) cr := by
  obtain ⟨hg, _⟩ := h.yg.cancel hm
  obtain ⟨r0, r4⟩ := h.yg.ok.root
  unfold YV.cancel at hg ⊢
  split
  · next hb =>
    rw [if_pos hb] at hg
    unfold YV.over at hg ⊢
    obtain ⟨d1, _, d3, d4⟩ := ydesk_s y (bareK y.kd.root)
    have hdk := h.desk.desk h.yg.ok.top (bareK_fault r0 r4)
    split
    · next hd =>
      rw [if_pos hd] at hg
      refine h.as hg d1 (by show (y.s.walk y.kd.root).1 = _; rw [h.yg.ok.ch.walk]) (fun b hb' hgj => ?_) hdk
      have hb2 : (y.j.map fun j => j.at 5) = some b := hb'
      cases hj : y.j with
      | none => rw [hj] at hb2; cases hb2
      | some j =>
        rw [hj] at hb2
        have e : j.at 5 = b := Option.some.inj hb2
        rw [← e] at hgj
        exact absurd hgj (by show ¬ (5 : Int) < 4; decide)
    · next hd =>
      rw [if_neg hd] at hg
      exact h.as hg d1 d3 (fun j hj hgj => by rw [d1]; exact h.want j (by rw [← d4]; exact hj) hgj) hdk
  · next hb =>
    rw [if_neg hb] at hg
    exact ⟨hg, h.tells, h.want, h.desk⟩

theorem YT.pause {y : YV} {C m : Nat} {cr : Nat → List (List UInt8)} (h : YT y C m cr) (on : Bool) : YT (y.pause on) C m cr := by
  obtain ⟨hg, _⟩ := h.yg.pause on
  unfold YV.pause at hg ⊢
  split
  · next hb =>
    rw [if_pos hb] at hg
    refine ⟨hg, h.tells, fun a ha hga => ?_, h.desk⟩
    cases hj : y.j with
    | none =>
      have ha' : (y.j.map fun j => pauseJ j on) = some a := ha
      rw [hj] at ha'; cases ha'
    | some j =>
      have ha' : (y.j.map fun j => pauseJ j on) = some a := ha
      rw [hj] at ha'
      have e : pauseJ j on = a := Option.some.inj ha'
      have hgj : j.stage < 4 := by
        unfold YV.busy at hb
        rw [hj] at hb
        exact of_decide_eq_true hb
      have hp : (pauseJ j on).kind = j.kind ∧ (pauseJ j on).x = j.x ∧ (pauseJ j on).l = j.l ∧ (pauseJ j on).deep = j.deep := by
        unfold pauseJ
        split <;> split <;> exact ⟨rfl, rfl, rfl, rfl⟩
      rw [← e]
      exact (h.want j hj hgj).as hp.1 hp.2.1 hp.2.2.1 hp.2.2.2
  · next hb => rw [if_neg hb] at hg; exact h
theorem YT.tick {y : YV} {C m : Nat} {cr : Nat → List (List UInt8)} (h : YT y C m cr) (n : Int) : YT (y.tick n) C m cr := by
  obtain ⟨hg, _⟩ := h.yg.tick n
  unfold YV.tick at hg ⊢
  split
  · next hb =>
    rw [if_pos hb] at hg
    refine ⟨hg, h.tells, fun a ha hga => ?_, h.desk⟩
    cases hj : y.j with
    | none =>
      have ha' : (y.j.map fun j => tickJ j n) = some a := ha
      rw [hj] at ha'; cases ha'
    | some j =>
      have ha' : (y.j.map fun j => tickJ j n) = some a := ha
      rw [hj] at ha'
      have e : tickJ j n = a := Option.some.inj ha'
      have hgj : j.stage < 4 := by
        unfold YV.busy at hb
        rw [hj] at hb
        exact of_decide_eq_true hb
      have hp : (tickJ j n).kind = j.kind ∧ (tickJ j n).x = j.x ∧ (tickJ j n).l = j.l ∧ (tickJ j n).deep = j.deep := by
        unfold tickJ
        first
          | exact ⟨rfl, rfl, rfl, rfl⟩
          | (split <;> exact ⟨rfl, rfl, rfl, rfl⟩)
      rw [← e]
      exact (h.want j hj hgj).as hp.1 hp.2.1 hp.2.2.1 hp.2.2.2
  · next hb => rw [if_neg hb] at hg; exact h

theorem YT.arm {y : YV} {C m : Nat} {cr : Nat → List (List UInt8)} (h : YT y C m cr) (f n : Int) (hn : n ≤ 9223372036854775807) : YT (y.arm f n) C m cr := by
  obtain ⟨hg, _⟩ := h.yg.arm f n hn
  unfold YV.arm at hg ⊢
  split
  · next hx =>
    rw [if_pos hx] at hg
    split
    · next e => rw [if_pos e] at hg; exact ⟨hg, h.tells, h.want, h.desk.fail n⟩
    · next e =>
      rw [if_neg e] at hg
      cases hs : y.s f.toNat with
      | none => rw [hs] at hg; exact ⟨hg, h.tells, h.want, h.desk⟩
      | some v =>
        rw [hs] at hg
        simp only at hg ⊢
        have hfile : y.s.file f = some v := by
          unfold SV.file
          rw [if_pos ⟨by omega, hx.2.1⟩]; exact hs
        refine ⟨hg, h.tells.act hfile (fun hm => good_len h.yg.ok.ch.good h.yg.ok.s hm hfile) (fun _ => .fail v n) (fun _ _ e => e) (fun _ k _ => .inl rfl), fun j hj hgj => (h.want j hj hgj).cong fun i _ c _ => ?_, h.desk⟩
        show kindO ((y.s.upd f.toNat _).file i) (c : Int) = _
        rw [SV.file_upd hfile]
        by_cases e2 : i = f
        · rw [if_pos e2, e2, hfile]; rfl
        · rw [if_neg e2]
  · exact h

theorem chunk_16 {t : ByteArray} (h : t.size = 64) {j : Nat} (hj : j < 4) : chunk t j ≠ [45] := fun e => by
  have h1 : (chunk t j).length = 16 := by
    rw [chunk_ext, List.length_take, List.length_drop]
    have : t.data.toList.length = 64 := by rw [Array.length_toList]; exact h
    omega
  rw [e] at h1
  cases h1

/- A step of a job, on its files. -/
theorem YT.moved {y : YV} {C m : Nat} {cr : Nat → List (List UInt8)} (h : YT y C m cr) (hm : m + 10 < 1000000000) {j : JV} (hj : y.j = some j) (hg : j.stage < 4) : Tells (stepS y.s j) C y.l cr := by
  have hgo := h.yg.go hj hg
  have hin := h.yg.ok.job j hj hg
  unfold stepS
  split
  · next hx =>
    obtain ⟨k, e, hk, _⟩ := hgo.ok.pick hx.2.1
    obtain ⟨_, r2⟩ := hgo.ok.read hgo.sok hk
    rw [e]
    unfold JV.moved
    refine h.tells.move h.yg.ok.ch.good h.yg.ok.s h.yg.safe hm _ hk r2 fun i hi => ⟨chunk_16 r2 hi, ?_⟩
    rw [read_view hgo.ok.good hgo.sok hgo.ok.ne hk hi, hin.lst]
    have := h.tells.sec h.yg.ok.ch.good h.yg.ok.s (k := 4 * k + i) (by omega)
    unfold SV.sec at this
    rw [show (4 * k + i) / 4 = k by omega, show (4 * k + i) % 4 = i by omega] at this
    exact this
  · exact h.tells

theorem YT.step {y : YV} {C m : Nat} {cr : Nat → List (List UInt8)} (h : YT y C m cr) (hm : m + 30 < 1000000000) : YT y.step C (m + 21) cr := by
  obtain ⟨hg, _⟩ := h.yg.step hm
  obtain ⟨r0, r4⟩ := h.yg.ok.root
  cases hj : y.j with
  | none =>
    have e : y.step = y := by unfold YV.step; rw [hj]
    rw [e] at hg ⊢
    exact ⟨hg, h.tells, h.want, h.desk⟩
  | some j =>
    by_cases hx : 4 ≤ j.stage
    · have e : y.step = y := by unfold YV.step; rw [hj]; simp only; rw [if_pos hx]
      rw [e] at hg ⊢
      exact ⟨hg, h.tells, h.want, h.desk⟩
    · have hgj : j.stage < 4 := by omega
      have hgo := h.yg.go hj hgj
      have hin := h.yg.ok.job j hj hgj
      have hz := h.yg.safe.step h.yg.ok.s (show m + 10 ≤ 1000000000 by omega) j
      have hzok := h.yg.ok.s.step j (show m + 10 ≤ 1000000000 by omega)
      have ht := h.moved (by omega) hj hgj
      have hnw := fun hst => (h.want j hj hgj).step hgo (by omega) hst
      have est : y.step = (if stepF y.s j ≠ 0 then (if (stepJ y.s j).stage = 5 then ({ y with s := stepS y.s j, j := some (stepJ y.s j) } : YV).desk (bareK y.kd.root) else { y with s := stepS y.s j, j := some (stepJ y.s j) })
          else if y.kd.kind ≠ 2 ∨ (stepJ y.s j).state ≠ 3 then { y with s := stepS y.s j, j := some (stepJ y.s j) }
          else if settleF (stepS y.s j) (stepJ y.s j) ≠ 0 then ({ y with s := settleS (stepS y.s j) (stepJ y.s j), j := some (settleJ (stepS y.s j) (stepJ y.s j)) } : YV).desk (bareK y.kd.root)
          else { ({ y with s := settleS (stepS y.s j) (stepJ y.s j), l := ((settleS (stepS y.s j) (stepJ y.s j)).walk y.kd.root).1, j := some ((settleJ (stepS y.s j) (stepJ y.s j)).at 4) } : YV).desk (bareK y.kd.root) with kd := bareK y.kd.root }) := by
        unfold YV.step
        rw [hj]
        simp only
        rw [if_neg hx]
      have plain : ∀ (Y : YV), Y.s = stepS y.s j → Y.l = y.l → Y.j = some (stepJ y.s j) → DeskAt Y.top Y.kd.root → YG Y C (m + 21) → YT Y C (m + 21) cr := fun Y e1 e2 e3 hd hY => by
        refine ⟨hY, by rw [e1, e2]; exact ht, fun b hb hgb => ?_, hd⟩
        rw [e3] at hb
        cases hb
        rw [e1]; exact hnw hgb
      rw [est] at hg ⊢
      clear est
      split
      · next c1 =>
        rw [if_pos c1] at hg
        split
        · next c2 =>
          rw [if_pos c2] at hg
          obtain ⟨d1, _, d3, d4⟩ := ydesk_s { y with s := stepS y.s j, j := some (stepJ y.s j) } (bareK y.kd.root)
          exact plain _ d1 d3 d4 (DeskAt.desk (y := { y with s := stepS y.s j, j := some (stepJ y.s j) }) h.desk h.yg.ok.top (bareK_fault r0 r4)) hg
        · next c2 => rw [if_neg c2] at hg; exact plain _ rfl rfl rfl h.desk hg
      · next c1 =>
        rw [if_neg c1] at hg
        split
        · next c2 => rw [if_pos c2] at hg; exact plain _ rfl rfl rfl h.desk hg
        · next c2 =>
          rw [if_neg c2] at hg
          rw [not_or] at c2
          have hk2 : y.kd.kind = 2 := Classical.byContradiction c2.1
          have hs3 : (stepJ y.s j).state = 3 := Classical.byContradiction c2.2
          have hst : (stepJ y.s j).stage < 4 := by
            unfold JV.state at hs3
            split at hs3
            · next e => omega
            · omega
          have hla : (stepJ y.s j).l = y.l := (stepJ_is y.s j).1.trans hin.lst
          have hka : jobK (stepJ y.s j) = y.kd := (stepJ_is y.s j).2.trans hin.dsk
          have hcz : Chain (stepS y.s j) C y.kd.root y.l := h.yg.ok.ch.over (.step _ _ _)
          have hcnt : S4.cnt (stepJ y.s j).x 64 = 0 := state_done hs3 (hin.ok.step).stage
          -- the yard as it stands behind the job's own step
          have hmid : YG { y with s := stepS y.s j, j := some (stepJ y.s j) } C (m + 21) := by
            have hh := h.yg.job j hj hgj
            refine ⟨h.yg.ok.over (hzok.more (by omega)) (fun l => .step l _ _) (by omega) (fun a ha _ => ?_) (fun a ha => ?_), hz, fun a ha hga => ?_⟩
            · cases ha; exact hin.as (fun l => .step l _ _) hin.ok.step (stepJ_is _ _).1 (stepJ_is _ _).2
            · cases ha; exact hin.ok.step.set3
            · cases ha
              exact hh.as (step_same hgo (by omega) hh.same hga) (stepJ_is _ _).1 (stepJ_is _ _).2 (stepJ_deep _ _)
          have hgo2 := hmid.go rfl hst
          have hw2 := hnw hst
          generalize ea : stepJ y.s j = a at hg hs3 hla hka hst hcnt hgo2 hw2 ⊢
          generalize ez : stepS y.s j = z at hg hcz hz hzok ht hgo2 hw2 ⊢
          have ha2 : a.kind = 2 := by rw [← hk2, ← hka]; rfl
          have hhd : a.l.headD 0 = y.kd.root := by
            obtain ⟨r, e⟩ := hcz.head
            rw [hla, e]; rfl
          have hinto : a.into = y.kd.root := by unfold JV.into; rw [if_pos ha2]; exact hhd
          obtain ⟨es, ef⟩ := settle_str (s := z) hs3 ha2
          rw [hhd] at es ef
          rw [ef, es] at hg ⊢
          split
          · next hf =>
            rw [if_pos hf] at hg
            have hJ := settleJ_no (s := z) hs3 ha2 (by rw [hhd]; exact hf)
            rw [hJ] at hg ⊢
            obtain ⟨d1, _, d3, d4⟩ := ydesk_s { y with s := (linkS z y.kd.root a.file).1, j := some (a.at 5) } (bareK y.kd.root)
            refine ⟨hg, by rw [d1, d3]; exact ht.link hcz.good hzok hz (by omega) _ _, fun b hb hgb => ?_, DeskAt.desk (y := { y with s := (linkS z y.kd.root a.file).1, j := some (a.at 5) }) h.desk h.yg.ok.top (bareK_fault r0 r4)⟩
            rw [d4] at hb
            cases hb
            exact absurd hgb (by show ¬ (5 : Int) < 4; decide)
          · next hf =>
            rw [if_neg hf] at hg
            have hf0 : (linkS z y.kd.root a.file).2 = 0 := Classical.byContradiction hf
            have hJ := settleJ_yes (s := z) (j := a) (by rw [hhd]; exact hf0)
            rw [hJ] at hg ⊢
            have hwq : ((linkS z y.kd.root a.file).1.walk y.kd.root).1 = tlist a := by
              have hhm := hmid.job _ rfl (by rw [ea]; exact hst)
              rw [ea, ez] at hhm
              have hcl : Chain z C y.kd.root a.l := by rw [hla]; exact hcz
              rw [(stream_chain hcl ha2 (hhm.str ha2) (hhm.str2 ha2) hf0).walk]
            rw [hwq] at hg ⊢
            obtain ⟨d1, _, d3, d4⟩ := ydesk_s { y with s := (linkS z y.kd.root a.file).1, l := tlist a, j := some (a.at 4) } (bareK y.kd.root)
            have hdk := DeskAt.desk (y := { y with s := (linkS z y.kd.root a.file).1, l := tlist a, j := some (a.at 4) }) h.desk h.yg.ok.top (bareK_fault r0 r4)
            refine ⟨hg, ?_, fun b hb hgb => ?_, ?_⟩
            · show Tells (YV.desk _ _).s C (YV.desk _ _).l cr
              rw [d1, d3]
              have hsm := Tells.streamed (b := a.file) (show Tells z C a.l cr by rw [hla]; exact ht) hgo2 hz (by omega) ha2 hw2 hcnt (by have := hin.ok.c40; omega) (by rw [hinto]; exact hf0)
              rw [hinto] at hsm
              exact hsm
            · have hb' : (YV.desk _ _).j = some b := hb
              rw [d4] at hb'
              cases hb'
              exact absurd hgb (by show ¬ (4 : Int) < 4; decide)
            · show DeskAt (YV.desk _ _).top y.kd.root
              have e : (({ y with s := (linkS z y.kd.root a.file).1, l := tlist a, j := some (a.at 4) } : YV).desk (bareK y.kd.root)).kd.root = y.kd.root := by
                unfold YV.desk
                split <;> rfl
              rw [e] at hdk
              exact hdk

theorem YT.pivot {y : YV} {C m : Nat} {cr : Nat → List (List UInt8)} (h : YT y C m cr) (hm : m + 20 < 1000000000) : YT y.pivot C (m + 11) cr := by
  obtain ⟨hg, hv⟩ := h.yg.pivot hm
  cases hj : y.j with
  | none =>
    have e : y.pivot = y := by unfold YV.pivot; rw [hj]
    rw [e] at hg ⊢
    exact ⟨hg, h.tells, h.want, h.desk⟩
  | some j =>
    by_cases hx : 4 ≤ j.stage ∨ y.kd.kind = 2
    · have e : y.pivot = y := by unfold YV.pivot; rw [hj]; simp only; rw [if_pos hx]
      rw [e] at hg ⊢
      exact ⟨hg, h.tells, h.want, h.desk⟩
    · have est : y.pivot = (if settleF y.s j ≠ 0 then { y with s := settleS y.s j, j := some (settleJ y.s j) } else ({ y with s := settleS y.s j, j := some (settleJ y.s j) } : YV).over y.kd.file 4) := by
        unfold YV.pivot
        rw [hj]
        simp only
        rw [if_neg hx]
      rw [not_or] at hx
      have hgj : j.stage < 4 := by omega
      have hgo := h.yg.go hj hgj
      have hin := h.yg.ok.job j hj hgj
      have hk : j.kind = y.kd.kind := by rw [← hin.dsk]; rfl
      have hkf : y.kd.file = j.file := by rw [← hin.dsk]; rfl
      have hj2 : j.kind ≠ 2 := by rw [hk]; exact hx.2
      have hJ : settleJ y.s j = j := by
        unfold settleJ
        rw [if_neg (fun e => hj2 e.2.1)]
      have hts : Tells (settleS y.s j) C y.l cr := by
        unfold settleS
        split
        · exact Tells.flushL _ h.tells h.yg.ok.ch.good h.yg.ok.s h.yg.safe
        · exact h.tells
      rw [est, hJ] at hg hv ⊢
      clear est
      split
      · next hf =>
        rw [if_pos hf] at hg
        refine ⟨hg, hts, fun b hb _ => ?_, h.desk⟩
        cases hb; exact .not2 hj2
      · next hf =>
        rw [if_neg hf] at hg hv
        have hf0 : settleF y.s j = 0 := Classical.byContradiction hf
        have hs3 : j.state = 3 := by
          unfold settleF at hf0
          split at hf0
          · next e => exact e
          · cases hf0
        unfold YV.over at hg hv ⊢
        obtain ⟨d1, _, d3, d4⟩ := ydesk_s { y with s := settleS y.s j, j := some j } (bareK y.kd.file)
        have hff : 0 ≤ y.kd.file ∧ y.kd.file ≤ 4 := by
          obtain ⟨v, hv1⟩ := hin.ok.file hj2
          have := SV.file_of hv1
          rw [hkf]; omega
        have hdk := DeskAt.desk (y := { y with s := settleS y.s j, j := some j }) h.desk h.yg.ok.top (bareK_fault hff.1 hff.2)
        split
        · next hd =>
          rw [if_pos hd] at hg hv
          refine ⟨hg, ?_, fun b hb hgb => ?_, hdk⟩
          · have hch := hg.ok.ch
            have hso := hg.ok.s
            have hes : ({ ({ y with s := settleS y.s j, j := some j } : YV).desk (bareK y.kd.file) with j := (some j).map fun j => j.at 4, l := ((settleS y.s j).walk y.kd.file).1 } : YV).s = settleS y.s j := d1
            have hset : settleS y.s j = y.s.flushL (y.s.walk j.file).1 := by
              unfold settleS
              rw [if_pos hs3, if_neg hj2]
            have hbk : j.kind = 1 → ∀ v, y.s.file j.file = some v → v.h.b = -1 := fun e v hv1 => by
              obtain ⟨u, h1, h3, _⟩ := hin.tgt.mir (by rw [← hk]; exact e)
              rw [hkf, hv1] at h1
              cases h1; exact h3
            have hcj : Chain y.s C y.kd.root j.l := by rw [hin.lst]; exact h.yg.ok.ch
            have hp0 := hgo.pivots hcj hj2 hbk
            have hp : Chain (settleS y.s j) C j.file (tlist j) := by
              rw [hset]
              exact hp0.over (.flushL _ _ _)
            have hw : ((settleS y.s j).walk y.kd.file).1 = tlist j := by rw [hkf, hp.walk]
            show Tells (YV.desk _ _).s C ((settleS y.s j).walk y.kd.file).1 cr
            rw [d1, hw]
            show Tells (settleS y.s j) C (tlist j) cr
            rw [hset, hp0.walk]
            refine Tells.flushed hp0.good h.yg.ok.s h.yg.safe fun k hk1 => ?_
            have h1 := (h.yg.job j hj hgj).same.done (state_done hs3 hin.ok.stage) (by have := hin.ok.c40; omega) (c := k / 4) (i := k % 4) (by omega) (by omega)
            show y.s.view (k / 4) (k % 4) (tlist j) ∈ cr k
            rw [h1, hin.lst]
            exact h.tells.sec h.yg.ok.ch.good h.yg.ok.s hk1
          · have hb' : some (j.at 4) = some b := hb
            cases hb'
            exact absurd hgb (by show ¬ (4 : Int) < 4; decide)
        · next hd =>
          rw [if_neg hd] at hg hv
          refine ⟨hg, by rw [d1, d3]; exact hts, fun b hb _ => ?_, hdk⟩
          rw [d4] at hb
          cases hb
          exact .not2 hj2
end Go.Proofs.YtonhoahnieoebabGreatDoor
