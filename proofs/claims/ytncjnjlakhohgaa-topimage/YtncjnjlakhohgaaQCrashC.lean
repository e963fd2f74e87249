/-
Behind each act an image that was safe is safe; and one that is made anew is.
-/
import Derived.Test.YtncjnjlakhohgaaQCrashB
import Derived.Test.YtncjnjlakhohgaaQImgCreate
namespace Go.Proofs.Ytncjnjlakhohgaa
open Go.RowKit

theorem begin_low {v : IV} {m : Nat} (hok : v.ok m) (q : Nat) : 1 + rowsN v.t.length ≤ beginN v.h q := by
  have : v.h.c.toNat = v.t.length := by have := hok.len; omega
  unfold beginN
  rw [this]; omega

theorem Safe.puts {v : IV} {U : List (Int × Int)} (hs : Safe v U) {a : Nat} (ha : 1 + rowsN v.t.length ≤ a) (s : ByteArray) (k : Nat) : Safe { v with d := (v.d.puts a s k).1 } U :=
  hs.low (fun i hi t h => (puts_low v.d a s k i (by omega)).1 t h) (fun i hi => (puts_low v.d a s k i (by omega)).2) _

theorem Safe.write {v : IV} {U : List (Int × Int)} {m : Nat} (hs : Safe v U) (hok : v.ok m) (c fr : Int) (s : ByteArray) : Safe (v.write c fr s) U := by
  unfold IV.write
  split
  · unfold IV.writeD
    exact hs.puts (by have := begin_low hok (v.ent c).2.toNat; omega) s _
  · exact hs

theorem Safe.clear {v : IV} {U : List (Int × Int)} {m : Nat} (hs : Safe v U) (hok : v.ok m) (c : Int) : Safe (v.clear c) U := by
  unfold IV.clear
  split
  · next h =>
    obtain ⟨h1, h2⟩ := IV.there_of h.1
    exact hs.set hok (by omega) (.inr (.inr rfl))
  · exact hs

theorem Safe.fail {v : IV} {U : List (Int × Int)} (hs : Safe v U) (n : Int) : Safe { v with d := v.d.failing n } U :=
  hs.low (d := v.d.failing n) (fun _ _ _ h => h) (fun _ _ => rfl) _

theorem Safe.fill {v : IV} {U : List (Int × Int)} {m : Nat} (hs : Safe v U) (hok : v.ok m) (hm : m + 10 ≤ 1000000000) (c : Int) (s : ByteArray) : ∃ U', Safe (v.fill c s) U' := by
  unfold IV.fill
  split
  · next h1 =>
    split
    · exact ⟨U, hs⟩
    · next h2 =>
      cases hq : v.freeL with
      | nil => exact ⟨U, hs⟩
      | cons q tl =>
        have hs2 : Safe { v with d := (v.fillD q s).1 } U := by
          unfold IV.fillD
          exact hs.puts (by have := begin_low hok q; omega) s 4
        show ∃ U', Safe (if (v.fillD q s).2 = 0 then (v.fillV q s).set c.toNat (2, (q : Int)) else { v with d := (v.fillD q s).1 }) U'
        by_cases h0 : (v.fillD q s).2 = 0
        · rw [if_pos h0]
          have hqm : q ∈ v.freeL := by rw [hq]; exact List.mem_cons_self
          have hfd := hok.fillD hqm h1.2 hm
          have hs3 : Safe (v.fillV q s) v.t := hs2.flush hfd.sn
          obtain ⟨t0, t1⟩ := IV.there_of h1.1
          have hc : c.toNat < v.t.length := by omega
          have hcd : v.t.getD c.toNat (0, 0) = (0, 0) ∨ v.t.getD c.toNat (0, 0) = (1, 0) := by
            have hb := entB_of (hok.ent h1.1)
            unfold IV.ent at hb h2
            generalize v.t.getD c.toNat (0, 0) = y at hb h2 ⊢
            obtain ⟨y0, y1⟩ := y
            simp only at hb h2
            rcases hb with hb | ⟨hb | hb, hb2⟩
            · exact absurd hb.1 h2
            · left; rw [hb, hb2]
            · right; rw [hb, hb2]
          have hop := (IV.freeTo_mem hqm).2
          unfold IV.openB IV.usedB at hop
          simp only [Bool.and_eq_true, Bool.not_eq_true', List.any_eq_false, decide_eq_true_eq] at hop
          have gs : ∀ k, (v.t.set c.toNat (2, (q : Int))).getD k (0, 0) = (if c.toNat = k then (2, (q : Int)) else v.t.getD k (0, 0)) := fun k => by
            rw [List.getD_eq_getElem?_getD, List.getD_eq_getElem?_getD]
            by_cases h : c.toNat = k
            · subst h; rw [List.getElem?_set_self hc, if_pos rfl]; rfl
            · rw [List.getElem?_set_ne h, if_neg h]
          have hgood : GoodT v.h (v.t.set c.toNat (2, (q : Int))) := by
            refine ⟨ents_set hs3.good.ents _ _ (free_ent hok hqm), fun i j hij hj hd heq => ?_⟩
            rw [List.length_set] at hj
            rw [gs j] at hd heq
            rw [gs i] at heq
            by_cases hi2 : c.toNat = i
            · rw [if_pos hi2, if_neg (by omega)] at heq
              exact hop.1 _ (getD_mem hj) heq.symm
            · rw [if_neg hi2] at heq
              by_cases hj2 : c.toNat = j
              · rw [if_pos hj2] at heq
                exact hop.1 _ (getD_mem (by omega)) heq
              · rw [if_neg hj2] at heq hd
                exact hs3.good.once i j hij hj hd heq
          have hsub : Sub (v.t.set c.toNat (2, (q : Int))) v.t := ⟨by rw [List.length_set], fun k => by
            rw [gs k]
            by_cases h : c.toNat = k
            · subst h; exact .inr hcd
            · rw [if_neg h]; exact .inl rfl⟩
          have hone : ∀ i x, (v.fillV q s).d.ver i x → x = (v.fillV q s).d.seen.getD i [] := fun i x h => by
            rcases h with h | ⟨x, hx, _⟩
            · exact h
            · cases hx
          have hs4 : Safe (v.fillV q s) (v.t.set c.toNat (2, (q : Int))) := ⟨hgood, hsub, hs3.head, fun r hr x h => ⟨v.t, hsub, by rw [hone _ x h]; exact hs3.seen r hr⟩, hs3.seen⟩
          exact ⟨_, hs4.set (hok.fillV hqm h1.2 hm) (c := c.toNat) hc (.inl (by rw [gs, if_pos rfl]))⟩
        · rw [if_neg h0]; exact ⟨U, hs2⟩
  · exact ⟨U, hs⟩

/- A head between two flushes. -/
theorem safe_head {v : IV} {m : Nat} (hok : v.ok m) (hg : GoodT v.h v.t) (hse : ∀ r, r < rowsN v.t.length → v.d.seen.getD (1 + r) [] = (rowS v.t (r : Int)).data.toList) {h : HV} (hp : h.p = v.h.p) (h0 : v.flush.d.putF = 0) : Safe (v.headV h) v.t := by
  unfold IV.headV
  rw [if_pos h0]
  have hb := (begin_le hok.h hok.need).1
  have hsm := hok.d.ok.same
  have hone : ∀ i x, (v.flush.d.put 0 (sealS h.bytes).data.toList).flushed.ver i x → x = (v.flush.d.put 0 (sealS h.bytes).data.toList).seen.getD i [] := fun i x hx => by
    rcases hx with hx | ⟨y, hy, _⟩
    · exact hx
    · cases hy
  have hrow : ∀ r, r < rowsN v.t.length → (v.flush.d.put 0 (sealS h.bytes).data.toList).seen.getD (1 + r) [] = (rowS v.t (r : Int)).data.toList := fun r hr => by
    rw [seen_put_ne _ _ (by omega)]; exact hse r hr
  refine ⟨⟨fun e he => ?_, hg.once⟩, Sub.refl _, fun s hs => ?_, fun r hr s hs => ⟨v.t, Sub.refl _, ?_⟩, hrow⟩
  · show entB e.1 e.2 h.p = true
    rw [hp]; exact hg.ents e he
  · rw [hone 0 s hs, seen_put_same _ _ h0 (by show 0 < v.d.seen.length; omega)]
  · rw [hone _ s hs]; exact hrow r hr

theorem Safe.link {v : IV} {U : List (Int × Int)} {m : Nat} (hs : Safe v U) (hok : v.ok m) (b : Int) : ∃ U', Safe (v.link b) U' := by
  unfold IV.link
  split
  · by_cases h0 : v.flush.d.putF = 0
    · exact ⟨_, safe_head hok (hs.sub.good hs.good) hs.seen rfl h0⟩
    · refine ⟨v.t, ?_⟩
      unfold IV.headV
      rw [if_neg h0, put_no _ _ h0]
      exact (hs.flush hok.d.sn).low (d := v.flush.d.failing (-1)) (fun i _ t h => h) (fun i _ => rfl) _
  · exact ⟨U, hs⟩

theorem rowsP_seen {d : DV} {t : List (Int × Int)} (hl : ∀ k, k ≤ rowsN t.length → (d.rowsP t k).1.seen.length = d.seen.length) (hn : rowsN t.length < d.seen.length) : ∀ k, k ≤ rowsN t.length → (d.rowsP t k).2 = 0 → ∀ r, r < k → (d.rowsP t k).1.seen.getD (1 + r) [] = (rowS t (r : Int)).data.toList := by
  intro k
  induction k with
  | zero => intro _ _ r hr; omega
  | succ k ih =>
    intro hk h0 r hr
    by_cases e0 : (d.rowsP t k).2 = 0
    · rw [DV.rowsP_yes e0] at h0 ⊢
      show ((d.rowsP t k).1.put (1 + k) (rowS t (k : Int)).data.toList).seen.getD (1 + r) [] = _
      by_cases hrk : r = k
      · subst hrk
        exact seen_put_same _ _ h0 (by rw [hl r (by omega)]; omega)
      · rw [seen_put_ne _ _ (by omega)]
        exact ih (by omega) e0 r (by omega)
    · rw [DV.rowsP_no e0 (k + 1) (by omega)] at h0
      exact absurd h0 e0

theorem crV_safe {d : DV} {m : Nat} {h : HV} (hd : d.fine d.fl.length m) (hk : h.ok = true) (hn : needN h ≤ d.fl.length) (hm : m + 20 < 1000000000) (hf : crF d h = 0) : Safe (crV d h) (crT h) := by
  unfold crF at hf
  rw [if_pos hk, if_neg (by omega)] at hf
  by_cases h0 : (crD d h).2 = 0
  · rw [if_pos h0] at hf
    have hok := crV0_ok hd hk hn (by omega)
    have hcl := crT_len h hk
    have hrl : rowsN (crT h).length = rowsN h.c.toNat := by unfold crT; rw [List.length_replicate]
    have hb := (begin_le hk hn).1
    refine safe_head (v := crV0 d h) hok ⟨crT_ents h, fun i j hij hj h2 => ?_⟩ (fun r hr => ?_) rfl hf
    · have : (crV0 d h).t.getD j (0, 0) = (0, 0) := by
        show (List.replicate h.c.toNat ((0 : Int), (0 : Int))).getD j (0, 0) = _
        rw [List.getD_eq_getElem?_getD]
        by_cases hj2 : j < h.c.toNat
        · rw [List.getElem?_replicate, if_pos hj2]; rfl
        · rw [List.getElem?_replicate, if_neg hj2]; rfl
      rw [this] at h2; cases h2
    · have hsl : ∀ k, k ≤ rowsN (crT h).length → (d.rowsP (crT h) k).1.seen.length = d.seen.length := fun k hk2 => by
        have hx := crD_fine hd hk hn (by omega) k (by rw [← hrl]; exact hk2)
        rw [hx.ok.same, hx.len, hd.ok.same]
      have := rowsP_seen hsl (by rw [hrl, hd.ok.same]; omega) (rowsN (crT h).length) (Nat.le_refl _) (by rw [hrl]; exact h0) r hr
      rw [hrl] at this
      exact this
  · rw [if_neg h0] at hf; exact absurd hf h0
end Go.Proofs.Ytncjnjlakhohgaa
