/-
An image that is safe: whatever of its pending writes is lost, it is opened, and is safe again.
Behind each act an image that was safe is safe; and one that is made anew is.
What a sector of an image may be behind a crash: what it was at the last flush, or since (D2 to D4), in plain words.
-/
import Derived.Test.YtonhoahnieoebabGreatDoorQCrashA
import Derived.Test.YtonhoahnieoebabGreatDoorQImgCreate2
namespace Go.Proofs.YtonhoahnieoebabGreatDoor
open Go.RowKit

structure Safe (v : IV) (U : List (Int × Int)) : Prop where
  good : GoodT v.h U
  sub : Sub U v.t
  head : ∀ s, v.d.ver 0 s → s = (sealS v.h.bytes).data.toList
  rows : ∀ r, r < rowsN v.t.length → ∀ s, v.d.ver (1 + r) s → ∃ T, Sub U T ∧ s = (rowS T (r : Int)).data.toList
  seen : ∀ r, r < rowsN v.t.length → v.d.seen.getD (1 + r) [] = (rowS v.t (r : Int)).data.toList

/- The table whose rows are those of several. -/
def mixT (n : Nat) (T : Nat → List (Int × Int)) : List (Int × Int) := (List.range n).map fun c => (T (c / 8)).getD c (0, 0)

theorem mixT_len (n : Nat) (T : Nat → List (Int × Int)) : (mixT n T).length = n := by simp [mixT]
theorem mixT_at {n : Nat} {T : Nat → List (Int × Int)} {c : Nat} (h : c < n) : (mixT n T).getD c (0, 0) = (T (c / 8)).getD c (0, 0) := by
  simp [mixT, List.getD_eq_getElem?_getD, h]

theorem mixT_sub {U : List (Int × Int)} {T : Nat → List (Int × Int)} (h : ∀ r, r < rowsN U.length → Sub U (T r)) : Sub U (mixT U.length T) := by
  refine ⟨mixT_len _ _, fun c => ?_⟩
  by_cases hc : c < U.length
  · rw [mixT_at hc]; exact (h (c / 8) (rows_lt hc)).2 c
  · right; left
    rw [List.getD_eq_getElem?_getD, List.getElem?_eq_none (by rw [mixT_len]; omega)]; rfl

theorem take_succ2 {l : List (Int × Int)} {c : Nat} (h : c < l.length) : l.take (c + 1) = l.take c ++ [l.getD c (0, 0)] := by
  rw [List.take_add_one, List.getD_eq_getElem?_getD, List.getElem?_eq_getElem h]; rfl

/- Rows of tables that are all under one are read, as the table that they mix. -/
theorem mix_read {h : HV} {U : List (Int × Int)} {T : Nat → List (Int × Int)} {rs : List ByteArray} (hk : h.ok = true) (hl : (U.length : Int) = h.c) (hg : GoodT h U) (hT : ∀ r, r < rowsN U.length → Sub U (T r))
    (hrl : rs.length = rowsN U.length) (hr : ∀ r, r < rowsN U.length → rs.getD r ByteArray.empty = rowS (T r) (r : Int)) :
    tableF h rs = 0 ∧ tableT h rs = mixT U.length T := by
  have hsub := mixT_sub hT
  have hmg := hsub.good hg
  have hnl : h.c.toNat = U.length := by omega
  have key : ∀ j, j ≤ rowsN U.length → tabTo h rs j = ((mixT U.length T).take (8 * j), 0) := by
    intro j
    induction j with
    | zero => intro _; rfl
    | succ j ih =>
      intro hj
      have ej := ih (by omega)
      have hjr : j < rowsN U.length := by omega
      have hTl : ((T j).length : Int) = h.c := by rw [(hT j hjr).1]; exact hl
      have hTe := fun c => (hT j hjr).entB hg c
      have hrow : ∀ i, i ≤ 8 → rowSt h ((mixT U.length T).take (8 * j)) (rowS (T j) (j : Int)) i = some ((mixT U.length T).take (8 * j + i)) := by
        intro i
        induction i with
        | zero => intro _; rfl
        | succ i ihi =>
          intro hi
          rw [rowSt_some (ihi (by omega)), row_ent hk hTl hTe (by rw [(hT j hjr).1]; exact hjr) (by omega)]
          by_cases hc : 8 * j + i < U.length
          · have hc8 : (8 * j + i) / 8 = j := by omega
            have e1 : (T j).getD (j * 8 + i) (0, 0) = (mixT U.length T).getD (8 * j + i) (0, 0) := by
              rw [mixT_at hc, hc8, show j * 8 + i = 8 * j + i by omega]
            have hlen : ((mixT U.length T).take (8 * j + i)).length = 8 * j + i := by rw [List.length_take, mixT_len]; omega
            unfold stepT
            rw [hlen, if_neg (by omega), e1, if_pos]
            · rw [show 8 * j + (i + 1) = 8 * j + i + 1 by omega, take_succ2 (by rw [mixT_len]; exact hc)]
            · refine ⟨hsub.entB hg _, fun ⟨h2, hm⟩ => ?_⟩
              obtain ⟨c2, hc2, he2⟩ := mem_getD hm
              rw [hlen] at hc2
              have he3 : ((mixT U.length T).take (8 * j + i)).getD c2 (0, 0) = (mixT U.length T).getD c2 (0, 0) := by
                rw [List.getD_eq_getElem?_getD, List.getD_eq_getElem?_getD, List.getElem?_take_of_lt hc2]
              exact hmg.once c2 (8 * j + i) hc2 (by rw [mixT_len]; exact hc) h2 (by rw [← he3]; exact he2)
          · have e1 : (T j).getD (j * 8 + i) (0, 0) = (0, 0) := by
              rw [List.getD_eq_getElem?_getD, List.getElem?_eq_none (by rw [(hT j hjr).1]; omega)]; rfl
            have hta : ∀ k, U.length ≤ k → (mixT U.length T).take k = mixT U.length T := fun k hk2 => List.take_of_length_le (by rw [mixT_len]; exact hk2)
            unfold stepT
            rw [hta _ (by omega), hta _ (by omega), mixT_len, if_pos hl, e1, if_pos rfl]
      have hsz : (rs.getD j ByteArray.empty).size = 16 := by
        rw [hr j hjr]
        exact (row_good hk hTl (fun e hm => by obtain ⟨i, _, rfl⟩ := mem_getD hm; exact hTe i) j (by rw [(hT j hjr).1]; exact hjr)).2
      have := tabTo_good (h := h) (rows := rs) (j := j) (a := (mixT U.length T).take (8 * j + 8)) (by rw [ej]) hsz (by rw [ej, hr j hjr]; exact hrow 8 (Nat.le_refl _))
      rw [this, show 8 * (j + 1) = 8 * j + 8 by omega]
  have hin : tableIn h rs = true := by unfold tableIn; rw [hk, hnl]; simp [hrl]
  have hend := key (rowsN U.length) (Nat.le_refl _)
  refine ⟨?_, ?_⟩
  · unfold tableF; rw [if_pos hin, hrl, hend]
  · unfold tableT; rw [if_pos hin, hrl, hend]
    exact List.take_of_length_le (by rw [mixT_len]; unfold rowsN; omega)

/- Whatever versions stand on a device: the image is opened. -/
theorem Safe.opens {v : IV} {U : List (Int × Int)} {m : Nat} (hs : Safe v U) (hok : v.ok m) {d : DV} (hl : d.fl.length = v.d.fl.length) (hv : ∀ i, v.d.ver i (d.seen.getD i [])) :
    openF d = 0 ∧ openH d = v.h ∧ Sub U (openV d).t ∧ ∀ r, r < rowsN v.t.length → d.seen.getD (1 + r) [] = (rowS (openV d).t (r : Int)).data.toList := by
  have hlen : v.t.length = U.length := hs.sub.1
  have hUl : (U.length : Int) = v.h.c := by rw [← hlen]; exact hok.len
  have hex : ∀ r, ∃ T, r < rowsN U.length → Sub U T ∧ d.seen.getD (1 + r) [] = (rowS T (r : Int)).data.toList := fun r => by
    by_cases hr : r < rowsN U.length
    · obtain ⟨T, h1, h2⟩ := hs.rows r (by rw [hlen]; exact hr) _ (hv (1 + r))
      exact ⟨T, fun _ => ⟨h1, h2⟩⟩
    · exact ⟨[], fun h => absurd h hr⟩
  have hch : ∃ T : Nat → List (Int × Int), ∀ r, r < rowsN U.length → Sub U (T r) ∧ d.seen.getD (1 + r) [] = (rowS (T r) (r : Int)).data.toList := ⟨fun r => Classical.choose (hex r), fun r => Classical.choose_spec (hex r)⟩
  obtain ⟨T, hT⟩ := hch
  have h0 : bytesOf (d.seen.getD 0 []) = sealS v.h.bytes := by rw [hs.head _ (hv 0), bytesOf_data]
  obtain ⟨g1, g2⟩ := headOf_seal v.h hok.h
  have hH : openH d = v.h := by unfold openH; rw [h0]; exact g1
  have hnl : v.h.c.toNat = U.length := by omega
  have hrs : (openRs d).length = rowsN U.length := by unfold openRs; rw [List.length_map, List.length_range, hH, hnl]
  have hrr : ∀ r, r < rowsN U.length → (openRs d).getD r ByteArray.empty = rowS (T r) (r : Int) := fun r hr => by
    unfold openRs
    rw [hH, hnl, List.getD_eq_getElem?_getD, List.getElem?_map, List.getElem?_range hr]
    show openR d r = _
    unfold openR
    rw [(hT r hr).2, bytesOf_data]
  obtain ⟨k1, k2⟩ := mix_read hok.h hUl hs.good (fun r hr => (hT r hr).1) hrs hrr
  have hsub := mixT_sub (fun r hr => (hT r hr).1)
  have ht : (openV d).t = mixT U.length T := by show tableT (openH d) (openRs d) = _; rw [hH]; exact k2
  refine ⟨?_, hH, by rw [ht]; exact hsub, fun r hr => ?_⟩
  · unfold openF
    rw [h0, if_pos g2, hH, if_neg (by have := hok.need; omega)]
    exact k1
  · have hr2 : r < rowsN U.length := by rw [← hlen]; exact hr
    rw [(hT r hr2).2, ht]
    congr 2
    refine rowS_congr (by rw [(hT r hr2).1.1, mixT_len]) fun i hi => ?_
    by_cases hc : r * 8 + i < U.length
    · rw [mixT_at hc, show (r * 8 + i) / 8 = r by omega]
    · rw [List.getD_eq_getElem?_getD, List.getD_eq_getElem?_getD, List.getElem?_eq_none (by rw [(hT r hr2).1.1]; omega), List.getElem?_eq_none (by rw [mixT_len]; omega)]

/- A device turns above its rows alone. -/
theorem Safe.low {v : IV} {U : List (Int × Int)} (hs : Safe v U) {d : DV} (h1 : ∀ i, i < 1 + rowsN v.t.length → ∀ t, d.ver i t → v.d.ver i t) (h2 : ∀ i, i < 1 + rowsN v.t.length → d.seen.getD i [] = v.d.seen.getD i []) (held : List Nat) : Safe ⟨d, v.h, v.t, held⟩ U :=
  ⟨hs.good, hs.sub, fun s h => hs.head s (h1 0 (by omega) s h), fun r hr s h => hs.rows r hr s (h1 (1 + r) (by have : r < rowsN v.t.length := hr; omega) s h), fun r hr => by
    show d.seen.getD (1 + r) [] = _
    rw [h2 (1 + r) (by have : r < rowsN v.t.length := hr; omega)]; exact hs.seen r hr⟩

theorem Safe.flush {v : IV} {U : List (Int × Int)} (hs : Safe v U) (hsn : v.d.sn) : Safe v.flush v.t := by
  have hone : ∀ i s, v.d.flushed.ver i s → s = v.d.seen.getD i [] := fun i s h => by
    rcases h with h | ⟨x, hx, _⟩
    · exact h
    · cases hx
  refine ⟨hs.sub.good hs.good, Sub.refl _, fun s h => ?_, fun r hr s h => ⟨v.t, Sub.refl _, ?_⟩, hs.seen⟩
  · rw [hone 0 s h]; exact hs.head _ (ver_seen hsn 0)
  · rw [hone _ s h]; exact hs.seen r hr

theorem Safe.set {v : IV} {U : List (Int × Int)} {m : Nat} (hs : Safe v U) (hok : v.ok m) {c : Nat} (hc : c < v.t.length) {e : Int × Int} (he : e = U.getD c (0, 0) ∨ e = (0, 0) ∨ e = (1, 0)) : Safe (v.set c e) U := by
  have hb := (begin_le hok.h hok.need).1
  have hnl : v.h.c.toNat = v.t.length := by have := hok.len; omega
  rw [hnl] at hb
  have hcr := rows_lt hc
  have gs : ∀ k, (v.t.set c e).getD k (0, 0) = (if c = k then e else v.t.getD k (0, 0)) := fun k => by
    rw [List.getD_eq_getElem?_getD, List.getD_eq_getElem?_getD]
    by_cases h : c = k
    · subst h; rw [List.getElem?_set_self hc, if_pos rfl]; rfl
    · rw [List.getElem?_set_ne h, if_neg h]
  have hsub : Sub U (v.t.set c e) := ⟨by rw [List.length_set]; exact hs.sub.1, fun k => by
    rw [gs k]
    split
    · next h => subst h; exact he
    · exact hs.sub.2 k⟩
  unfold IV.set
  by_cases h0 : v.d.putF = 0
  · rw [if_pos h0]
    refine ⟨hs.good, hsub, fun s h => ?_, fun r hr s h => ?_, fun r hr => ?_⟩
    · rcases ver_put h with h1 | ⟨h1, _⟩
      · exact hs.head s h1
      · omega
    · have hr2 : r < rowsN v.t.length := by have : r < rowsN (v.t.set c e).length := hr; rw [List.length_set] at this; exact this
      rcases ver_put h with h1 | ⟨h1, h2⟩
      · exact hs.rows r hr2 s h1
      · have : r = c / 8 := by omega
        subst this
        exact ⟨_, hsub, h2.symm⟩
    · have hr2 : r < rowsN v.t.length := by have : r < rowsN (v.t.set c e).length := hr; rw [List.length_set] at this; exact this
      show (v.setD c e).seen.getD (1 + r) [] = (rowS (v.t.set c e) (r : Int)).data.toList
      unfold IV.setD
      by_cases hrc : r = c / 8
      · subst hrc
        exact seen_put_same _ _ h0 (by have := hok.d.ok.same; omega)
      · rw [seen_put_ne _ _ (by omega), hs.seen r hr2]
        congr 2
        refine rowS_congr (by rw [List.length_set]) fun i hi => ?_
        rw [gs, if_neg (by omega)]
  · rw [if_neg h0]
    unfold IV.setD
    rw [put_no _ _ h0]
    exact hs.low (d := v.d.failing (-1)) (fun i _ t h => h) (fun i _ => rfl) _
end Go.Proofs.YtonhoahnieoebabGreatDoor

namespace Go.Proofs.YtonhoahnieoebabGreatDoor
open Go.RowKit

theorem begin_low {v : IV} {m : Nat} (hok : v.ok m) (q : Nat) : 1 + rowsN v.t.length ≤ beginN v.h q := by
  have : v.h.c.toNat = v.t.length := by have := hok.len; omega
  unfold beginN
  rw [this]; omega

theorem Safe.puts {v : IV} {U : List (Int × Int)} (hs : Safe v U) {a : Nat} (ha : 1 + rowsN v.t.length ≤ a) (s : ByteArray) (k : Nat) : Safe { v with d := (v.d.puts a s k).1 } U :=
  hs.low (fun i hi t h => (puts_low v.d a s k i (by omega)).1 t h) (fun i hi => (puts_low v.d a s k i (by omega)).2) _

theorem Safe.write {v : IV} {U : List (Int × Int)} {m : Nat} (hs : Safe v U) (hok : v.ok m) (c fr : Int) (s : ByteArray) : Safe (v.write c fr s) U := by
  unfold IV.write
  split
  · unfold IV.writeD
    exact hs.puts (by have := begin_low hok (v.ent c).2.toNat; omega) s _
  · exact hs

theorem Safe.clear {v : IV} {U : List (Int × Int)} {m : Nat} (hs : Safe v U) (hok : v.ok m) (c : Int) : Safe (v.clear c) U := by
  unfold IV.clear
  split
  · next h =>
    obtain ⟨h1, h2⟩ := IV.there_of h.1
    exact hs.set hok (by omega) (.inr (.inr rfl))
  · exact hs

theorem Safe.fail {v : IV} {U : List (Int × Int)} (hs : Safe v U) (n : Int) : Safe { v with d := v.d.failing n } U :=
  hs.low (d := v.d.failing n) (fun _ _ _ h => h) (fun _ _ => rfl) _

theorem Safe.fill {v : IV} {U : List (Int × Int)} {m : Nat} (hs : Safe v U) (hok : v.ok m) (hm : m + 10 ≤ 1000000000) (c : Int) (s : ByteArray) : ∃ U', Safe (v.fill c s) U' := by
  unfold IV.fill
  split
  · next h1 =>
    split
    · exact ⟨U, hs⟩
    · next h2 =>
      cases hq : v.freeL with
      | nil => exact ⟨U, hs⟩
      | cons q tl =>
        have hs2 : Safe { v with d := (v.fillD q s).1 } U := by
          unfold IV.fillD
          exact hs.puts (by have := begin_low hok q; omega) s 4
        show ∃ U', Safe (if (v.fillD q s).2 = 0 then (v.fillV q s).set c.toNat (2, (q : Int)) else { v with d := (v.fillD q s).1 }) U'
        by_cases h0 : (v.fillD q s).2 = 0
        · rw [if_pos h0]
          have hqm : q ∈ v.freeL := by rw [hq]; exact List.mem_cons_self
          have hfd := hok.fillD hqm h1.2 hm
          have hs3 : Safe (v.fillV q s) v.t := hs2.flush hfd.sn
          obtain ⟨t0, t1⟩ := IV.there_of h1.1
          have hc : c.toNat < v.t.length := by omega
          have hcd : v.t.getD c.toNat (0, 0) = (0, 0) ∨ v.t.getD c.toNat (0, 0) = (1, 0) := by
            have hb := entB_of (hok.ent h1.1)
            unfold IV.ent at hb h2
            generalize v.t.getD c.toNat (0, 0) = y at hb h2 ⊢
            obtain ⟨y0, y1⟩ := y
            simp only at hb h2
            rcases hb with hb | ⟨hb | hb, hb2⟩
            · exact absurd hb.1 h2
            · left; rw [hb, hb2]
            · right; rw [hb, hb2]
          have hop := (IV.freeTo_mem hqm).2
          unfold IV.openB IV.usedB at hop
          simp only [Bool.and_eq_true, Bool.not_eq_true', List.any_eq_false, decide_eq_true_eq] at hop
          have gs : ∀ k, (v.t.set c.toNat (2, (q : Int))).getD k (0, 0) = (if c.toNat = k then (2, (q : Int)) else v.t.getD k (0, 0)) := fun k => by
            rw [List.getD_eq_getElem?_getD, List.getD_eq_getElem?_getD]
            by_cases h : c.toNat = k
            · subst h; rw [List.getElem?_set_self hc, if_pos rfl]; rfl
            · rw [List.getElem?_set_ne h, if_neg h]
          have hgood : GoodT v.h (v.t.set c.toNat (2, (q : Int))) := by
            refine ⟨ents_set hs3.good.ents _ _ (free_ent hok hqm), fun i j hij hj hd heq => ?_⟩
            rw [List.length_set] at hj
            rw [gs j] at hd heq
            rw [gs i] at heq
            by_cases hi2 : c.toNat = i
            · rw [if_pos hi2, if_neg (by omega)] at heq
              exact hop.1 _ (getD_mem hj) heq.symm
            · rw [if_neg hi2] at heq
              by_cases hj2 : c.toNat = j
              · rw [if_pos hj2] at heq
                exact hop.1 _ (getD_mem (by omega)) heq
              · rw [if_neg hj2] at heq hd
                exact hs3.good.once i j hij hj hd heq
          have hsub : Sub (v.t.set c.toNat (2, (q : Int))) v.t := ⟨by rw [List.length_set], fun k => by
            rw [gs k]
            by_cases h : c.toNat = k
            · subst h; exact .inr hcd
            · rw [if_neg h]; exact .inl rfl⟩
          have hone : ∀ i x, (v.fillV q s).d.ver i x → x = (v.fillV q s).d.seen.getD i [] := fun i x h => by
            rcases h with h | ⟨x, hx, _⟩
            · exact h
            · cases hx
          have hs4 : Safe (v.fillV q s) (v.t.set c.toNat (2, (q : Int))) := ⟨hgood, hsub, hs3.head, fun r hr x h => ⟨v.t, hsub, by rw [hone _ x h]; exact hs3.seen r hr⟩, hs3.seen⟩
          exact ⟨_, hs4.set (hok.fillV hqm h1.2 hm) (c := c.toNat) hc (.inl (by rw [gs, if_pos rfl]))⟩
        · rw [if_neg h0]; exact ⟨U, hs2⟩
  · exact ⟨U, hs⟩

/- A head between two flushes. -/
theorem safe_head {v : IV} {m : Nat} (hok : v.ok m) (hg : GoodT v.h v.t) (hse : ∀ r, r < rowsN v.t.length → v.d.seen.getD (1 + r) [] = (rowS v.t (r : Int)).data.toList) {h : HV} (hp : h.p = v.h.p) (h0 : v.flush.d.putF = 0) : Safe (v.headV h) v.t := by
  unfold IV.headV
  rw [if_pos h0]
  have hb := (begin_le hok.h hok.need).1
  have hsm := hok.d.ok.same
  have hone : ∀ i x, (v.flush.d.put 0 (sealS h.bytes).data.toList).flushed.ver i x → x = (v.flush.d.put 0 (sealS h.bytes).data.toList).seen.getD i [] := fun i x hx => by
    rcases hx with hx | ⟨y, hy, _⟩
    · exact hx
    · cases hy
  have hrow : ∀ r, r < rowsN v.t.length → (v.flush.d.put 0 (sealS h.bytes).data.toList).seen.getD (1 + r) [] = (rowS v.t (r : Int)).data.toList := fun r hr => by
    rw [seen_put_ne _ _ (by omega)]; exact hse r hr
  refine ⟨⟨fun e he => ?_, hg.once⟩, Sub.refl _, fun s hs => ?_, fun r hr s hs => ⟨v.t, Sub.refl _, ?_⟩, hrow⟩
  · show entB e.1 e.2 h.p = true
    rw [hp]; exact hg.ents e he
  · rw [hone 0 s hs, seen_put_same _ _ h0 (by show 0 < v.d.seen.length; omega)]
  · rw [hone _ s hs]; exact hrow r hr

theorem Safe.link {v : IV} {U : List (Int × Int)} {m : Nat} (hs : Safe v U) (hok : v.ok m) (b : Int) : ∃ U', Safe (v.link b) U' := by
  unfold IV.link
  split
  · by_cases h0 : v.flush.d.putF = 0
    · exact ⟨_, safe_head hok (hs.sub.good hs.good) hs.seen rfl h0⟩
    · refine ⟨v.t, ?_⟩
      unfold IV.headV
      rw [if_neg h0, put_no _ _ h0]
      exact (hs.flush hok.d.sn).low (d := v.flush.d.failing (-1)) (fun i _ t h => h) (fun i _ => rfl) _
  · exact ⟨U, hs⟩

theorem rowsP_seen {d : DV} {t : List (Int × Int)} (hl : ∀ k, k ≤ rowsN t.length → (d.rowsP t k).1.seen.length = d.seen.length) (hn : rowsN t.length < d.seen.length) : ∀ k, k ≤ rowsN t.length → (d.rowsP t k).2 = 0 → ∀ r, r < k → (d.rowsP t k).1.seen.getD (1 + r) [] = (rowS t (r : Int)).data.toList := by
  intro k
  induction k with
  | zero => intro _ _ r hr; omega
  | succ k ih =>
    intro hk h0 r hr
    by_cases e0 : (d.rowsP t k).2 = 0
    · rw [DV.rowsP_yes e0] at h0 ⊢
      show ((d.rowsP t k).1.put (1 + k) (rowS t (k : Int)).data.toList).seen.getD (1 + r) [] = _
      by_cases hrk : r = k
      · subst hrk
        exact seen_put_same _ _ h0 (by rw [hl r (by omega)]; omega)
      · rw [seen_put_ne _ _ (by omega)]
        exact ih (by omega) e0 r (by omega)
    · rw [DV.rowsP_no e0 (k + 1) (by omega)] at h0
      exact absurd h0 e0

theorem crV_safe {d : DV} {m : Nat} {h : HV} (hd : d.fine d.fl.length m) (hk : h.ok = true) (hn : needN h ≤ d.fl.length) (hm : m + 20 < 1000000000) (hf : crF d h = 0) : Safe (crV d h) (crT h) := by
  unfold crF at hf
  rw [if_pos hk, if_neg (by omega)] at hf
  by_cases h0 : (crD d h).2 = 0
  · rw [if_pos h0] at hf
    have hok := crV0_ok hd hk hn (by omega)
    have hcl := crT_len h hk
    have hrl : rowsN (crT h).length = rowsN h.c.toNat := by unfold crT; rw [List.length_replicate]
    have hb := (begin_le hk hn).1
    refine safe_head (v := crV0 d h) hok ⟨crT_ents h, fun i j hij hj h2 => ?_⟩ (fun r hr => ?_) rfl hf
    · have : (crV0 d h).t.getD j (0, 0) = (0, 0) := by
        show (List.replicate h.c.toNat ((0 : Int), (0 : Int))).getD j (0, 0) = _
        rw [List.getD_eq_getElem?_getD]
        by_cases hj2 : j < h.c.toNat
        · rw [List.getElem?_replicate, if_pos hj2]; rfl
        · rw [List.getElem?_replicate, if_neg hj2]; rfl
      rw [this] at h2; cases h2
    · have hsl : ∀ k, k ≤ rowsN (crT h).length → (d.rowsP (crT h) k).1.seen.length = d.seen.length := fun k hk2 => by
        have hx := crD_fine hd hk hn (by omega) k (by rw [← hrl]; exact hk2)
        rw [hx.ok.same, hx.len, hd.ok.same]
      have := rowsP_seen hsl (by rw [hrl, hd.ok.same]; omega) (rowsN (crT h).length) (Nat.le_refl _) (by rw [hrl]; exact h0) r hr
      rw [hrl] at this
      exact this
  · rw [if_neg h0] at hf; exact absurd hf h0
end Go.Proofs.YtonhoahnieoebabGreatDoor

namespace Go.Proofs.YtonhoahnieoebabGreatDoor
open Go.RowKit

/- What is shown of an image's sector. -/
def IV.sh (v : IV) (k : Nat) : List UInt8 :=
  if (v.t.getD (k / 4) (0, 0)).1 = 2 then v.d.seen.getD (beginN v.h (v.t.getD (k / 4) (0, 0)).2.toNat + k % 4) []
  else if (v.t.getD (k / 4) (0, 0)).1 = 1 then noughts else [45]

/- An entry that a crash may leave at cluster c: what it shows may be. -/
def Fits (v : IV) (may : Nat → List (List UInt8)) (c : Nat) (e : Int × Int) : Prop :=
  ∀ j, j < 4 → (e.1 = 0 → [45] ∈ may (4 * c + j)) ∧ (e.1 = 1 → noughts ∈ may (4 * c + j)) ∧
    (e.1 = 2 → (e.2.toNat ∈ v.held ∨ e = v.t.getD c (0, 0)) ∧ ∀ s, v.d.ver (beginN v.h e.2.toNat + j) s → s ∈ may (4 * c + j))

structure Told (v : IV) (may : Nat → List (List UInt8)) : Prop where
  vers : ∀ c, c < v.t.length → ∀ s, v.d.ver (1 + c / 8) s → Fits v may c (entAt (bytesOf s) (c % 8))
  now : ∀ k, k < 4 * v.t.length → v.sh k ∈ may k
  held : ∀ q ∈ v.held, ∀ e ∈ v.t, e ≠ (2, (q : Int))

theorem div4 {c j : Nat} (h : j < 4) : (4 * c + j) / 4 = c ∧ (4 * c + j) % 4 = j := by omega

theorem sh_at (v : IV) (c j : Nat) (h : j < 4) : v.sh (4 * c + j) = if (v.t.getD c (0, 0)).1 = 2 then v.d.seen.getD (beginN v.h (v.t.getD c (0, 0)).2.toNat + j) [] else if (v.t.getD c (0, 0)).1 = 1 then noughts else [45] := by
  unfold IV.sh
  rw [(div4 h).1, (div4 h).2]

theorem Fits.mono {v : IV} {may may' : Nat → List (List UInt8)} {c : Nat} {e : Int × Int} (h : Fits v may c e) (hm : ∀ k s, s ∈ may k → s ∈ may' k) : Fits v may' c e := fun j hj =>
  ⟨fun h0 => hm _ _ ((h j hj).1 h0), fun h1 => hm _ _ ((h j hj).2.1 h1), fun h2 => ⟨((h j hj).2.2 h2).1, fun s hs => hm _ _ (((h j hj).2.2 h2).2 s hs)⟩⟩

theorem Told.mono {v : IV} {may may' : Nat → List (List UInt8)} (h : Told v may) (hm : ∀ k s, s ∈ may k → s ∈ may' k) : Told v may' :=
  ⟨fun c hc s hs => (h.vers c hc s hs).mono hm, fun k hk => hm _ _ (h.now k hk), h.held⟩

/- What is current fits. -/
theorem seen_ent {v : IV} {U : List (Int × Int)} {m : Nat} (hs : Safe v U) (hok : v.ok m) {c : Nat} (hc : c < v.t.length) : entAt (bytesOf (v.d.seen.getD (1 + c / 8) [])) (c % 8) = v.t.getD c (0, 0) := by
  rw [hs.seen (c / 8) (rows_lt hc), bytesOf_data, row_ent hok.h hok.len (fun k => hs.sub.entB hs.good k) (rows_lt hc) (by omega), show c / 8 * 8 + c % 8 = c by omega]

theorem Told.cur {v : IV} {U : List (Int × Int)} {m : Nat} {may : Nat → List (List UInt8)} (h : Told v may) (hs : Safe v U) (hok : v.ok m) {c : Nat} (hc : c < v.t.length) : Fits v may c (v.t.getD c (0, 0)) := by
  have := h.vers c hc _ (ver_seen hok.d.sn (1 + c / 8))
  rw [seen_ent hs hok hc] at this
  exact this

/- Where nothing is pending. -/
theorem told_flat {v : IV} {U : List (Int × Int)} {m : Nat} {may : Nat → List (List UInt8)} (hs : Safe v U) (hok : v.ok m) (hp : ∀ i s, v.d.ver i s → s = v.d.seen.getD i []) (hh : v.held = []) (hn : ∀ k, k < 4 * v.t.length → v.sh k ∈ may k) : Told v may := by
  refine ⟨fun c hc s hv => ?_, hn, fun q hq => by rw [hh] at hq; cases hq⟩
  rw [hp _ s hv, seen_ent hs hok hc]
  intro j hj
  have h1 := hn (4 * c + j) (by omega)
  rw [sh_at v c j hj] at h1
  refine ⟨fun h0 => ?_, fun h0 => ?_, fun h0 => ⟨.inr rfl, fun x hx => ?_⟩⟩
  · rw [if_neg (by omega), if_neg (by omega)] at h1; exact h1
  · rw [if_neg (by omega), if_pos h0] at h1; exact h1
  · rw [if_pos h0] at h1; rw [hp _ x hx]; exact h1

theorem sh_flush (v : IV) (k : Nat) : v.flush.sh k = v.sh k := rfl

theorem Told.flush {v : IV} {U : List (Int × Int)} {m : Nat} {may may' : Nat → List (List UInt8)} (_h : Told v may) (hs : Safe v U) (hok : v.ok m) (hn : ∀ k, k < 4 * v.t.length → v.sh k ∈ may' k) : Told v.flush may' :=
  told_flat (hs.flush hok.d.sn) hok.flush (fun i s h => by
    rcases h with h | ⟨x, hx, _⟩
    · exact h
    · cases hx) rfl hn

/- Sectors that are written: a version is an old one, or what is seen; elsewhere it is an old one. -/
theorem puts_ver (d : DV) (a : Nat) (s : ByteArray) (n : Nat) (hl : ∀ k, k ≤ n → (d.puts a s k).1.seen.length = d.seen.length) (ha : a + n ≤ d.seen.length) : ∀ k, k ≤ n → ∀ i t, (d.puts a s k).1.ver i t → d.ver i t ∨ (a ≤ i ∧ i < a + k ∧ t = (d.puts a s k).1.seen.getD i []) := by
  intro k
  induction k with
  | zero => intro _ i t h; exact .inl h
  | succ k ih =>
    intro hk i t h
    by_cases h0 : (d.puts a s k).2 = 0
    · rw [DV.puts_yes h0] at h ⊢
      by_cases hp : (d.puts a s k).1.putF = 0
      · rcases ver_put h with h1 | ⟨h1, h2⟩
        · rcases ih (by omega) i t h1 with h3 | ⟨h3, h4, h5⟩
          · exact .inl h3
          · refine .inr ⟨h3, by omega, ?_⟩
            show t = ((d.puts a s k).1.put (a + k) (chunk s k)).seen.getD i []
            rw [seen_put_ne _ _ (by omega)]; exact h5
        · subst h1
          refine .inr ⟨by omega, by omega, ?_⟩
          show t = ((d.puts a s k).1.put (a + k) (chunk s k)).seen.getD (a + k) []
          rw [seen_put_same _ _ hp (by rw [hl k (by omega)]; omega)]; exact h2.symm
      · have e : (d.puts a s k).1.put (a + k) (chunk s k) = (d.puts a s k).1.failing (-1) := put_no _ _ hp
        have h' : ((d.puts a s k).1.put (a + k) (chunk s k)).ver i t := h
        rw [e] at h'
        rcases ih (by omega) i t h' with h3 | ⟨h3, h4, h5⟩
        · exact .inl h3
        · refine .inr ⟨h3, by omega, ?_⟩
          show t = ((d.puts a s k).1.put (a + k) (chunk s k)).seen.getD i []
          rw [e]; exact h5
    · rw [DV.puts_no h0 (k + 1) (by omega)] at h ⊢
      rcases ih (by omega) i t h with h3 | ⟨h3, h4, h5⟩
      · exact .inl h3
      · exact .inr ⟨h3, by omega, h5⟩

theorem puts_seen_out (d : DV) (a : Nat) (s : ByteArray) : ∀ k i, i < a ∨ a + k ≤ i → (d.puts a s k).1.seen.getD i [] = d.seen.getD i [] := by
  intro k
  induction k with
  | zero => intro i _; rfl
  | succ k ih =>
    intro i hi
    by_cases h0 : (d.puts a s k).2 = 0
    · rw [DV.puts_yes h0]
      show ((d.puts a s k).1.put (a + k) (chunk s k)).seen.getD i [] = _
      rw [seen_put_ne _ _ (by omega)]; exact ih i (by omega)
    · rw [DV.puts_no h0 (k + 1) (by omega)]; exact ih i (by omega)

/- A row's write turns no place. -/
theorem begin_row {v : IV} {m : Nat} (hok : v.ok m) {c q j : Nat} (hc : c < v.t.length) : 1 + c / 8 ≠ beginN v.h q + j := by
  have := begin_low hok q
  have := rows_lt hc
  omega

theorem ver_setD {v : IV} {c : Nat} {e : Int × Int} {i : Nat} {s : List UInt8} (h : (v.setD c e).ver i s) (hi : 1 + c / 8 ≠ i) : v.d.ver i s := by
  rcases ver_put h with h1 | ⟨h1, _⟩
  · exact h1
  · exact absurd h1 hi

theorem getD_tset (t : List (Int × Int)) {c : Nat} (hc : c < t.length) (e : Int × Int) (k : Nat) : (t.set c e).getD k (0, 0) = if c = k then e else t.getD k (0, 0) := by
  rw [List.getD_eq_getElem?_getD, List.getD_eq_getElem?_getD]
  by_cases h : c = k
  · subst h; rw [List.getElem?_set_self hc, if_pos rfl]; rfl
  · rw [List.getElem?_set_ne h, if_neg h]

/- An entry is set. -/
theorem Told.set {v : IV} {U : List (Int × Int)} {m : Nat} {may may' : Nat → List (List UInt8)} (h : Told v may) (hs : Safe v U) (hok : v.ok m) (hm : m < 1000000000) (hpf : v.d.putF = 0) {c : Nat} (hc : c < v.t.length) {e : Int × Int} (heb : entB e.1 e.2 v.h.p = true)
    (hmay : ∀ k s, s ∈ may k → s ∈ may' k) (hn : ∀ k, k < 4 * v.t.length → (v.set c e).sh k ∈ may' k)
    (hq : e.1 = 2 → (∀ j, j < 4 → ∀ s, v.d.ver (beginN v.h e.2.toNat + j) s → s ∈ may' (4 * c + j)) ∧ (e.2.toNat ∉ v.held) ∧ (v.t.getD c (0, 0)).1 ≠ 2) : Told (v.set c e) may' := by
  have hset : v.set c e = ⟨v.setD c e, v.h, v.t.set c e, if (v.t.getD c (0, 0)).1 = 2 then v.held ++ [(v.t.getD c (0, 0)).2.toNat] else v.held⟩ := by unfold IV.set; rw [if_pos hpf]
  have hgood := hs.sub.good hs.good
  have hoks := hok.set hc heb hm
  have hheld : ∀ q, q ∈ v.held → q ∈ (v.set c e).held := fun q hq2 => by
    rw [hset]
    show q ∈ (if (v.t.getD c (0, 0)).1 = 2 then v.held ++ [(v.t.getD c (0, 0)).2.toNat] else v.held)
    split
    · exact List.mem_append_left _ hq2
    · exact hq2
  have hold : ∀ c2, c2 < v.t.length → ∀ y, Fits v may c2 y → Fits (v.set c e) may' c2 y := fun c2 hc2 y hf j hj => by
    obtain ⟨h0, h1, h2⟩ := hf j hj
    refine ⟨fun g => hmay _ _ (h0 g), fun g => hmay _ _ (h1 g), fun g => ⟨?_, fun s hv => ?_⟩⟩
    · rcases (h2 g).1 with g1 | g1
      · exact .inl (hheld _ g1)
      · by_cases hcc : c = c2
        · subst hcc
          left
          rw [hset]
          show y.2.toNat ∈ (if (v.t.getD c (0, 0)).1 = 2 then v.held ++ [(v.t.getD c (0, 0)).2.toNat] else v.held)
          rw [← g1, if_pos g]
          exact List.mem_append_right _ (by simp)
        · right
          rw [hset]
          show y = (v.t.set c e).getD c2 (0, 0)
          rw [getD_tset _ hc, if_neg hcc]; exact g1
    · rw [hset] at hv
      exact hmay _ _ ((h2 g).2 s (ver_setD hv (begin_row hok hc)))
  have hlen : (v.set c e).t.length = v.t.length := by rw [hset]; exact List.length_set
  refine ⟨fun c2 hc2 s hv => ?_, fun k hk => hn k (by rw [← hlen]; exact hk), fun q hq2 y hy heq => ?_⟩
  · rw [hlen] at hc2
    have hv2 : (v.setD c e).ver (1 + c2 / 8) s := by rw [hset] at hv; exact hv
    rcases ver_put hv2 with h1 | ⟨h1, h2⟩
    · exact hold c2 hc2 _ (h.vers c2 hc2 s h1)
    · have hrow : c / 8 = c2 / 8 := by omega
      rw [← h2, bytesOf_data, hrow, row_ent hok.h (by rw [List.length_set]; exact hok.len) (fun k => ?_) (by rw [List.length_set]; exact rows_lt hc2) (by omega), show c2 / 8 * 8 + c2 % 8 = c2 by omega, getD_tset _ hc]
      · by_cases hcc : c = c2
        · subst hcc
          rw [if_pos rfl]
          intro j hj
          have h3 := hn (4 * c + j) (by omega)
          have hte : (v.set c e).t.getD c (0, 0) = e := by rw [hset]; show (v.t.set c e).getD c (0, 0) = e; rw [getD_tset _ hc, if_pos rfl]
          rw [sh_at _ c j hj, hte] at h3
          refine ⟨fun g => ?_, fun g => ?_, fun g => ⟨.inr hte.symm, fun x hx => ?_⟩⟩
          · rw [if_neg (by omega), if_neg (by omega)] at h3; exact h3
          · rw [if_neg (by omega), if_pos g] at h3; exact h3
          · rw [hset] at hx
            exact (hq g).1 j hj x (ver_setD hx (begin_row hok hc))
        · rw [if_neg hcc]
          exact hold c2 hc2 _ (h.cur hs hok hc2)
      · rw [getD_tset _ hc]
        split
        · exact heb
        · exact hgood.at k
  · rw [hset] at hq2 hy
    have hq3 : q ∈ (if (v.t.getD c (0, 0)).1 = 2 then v.held ++ [(v.t.getD c (0, 0)).2.toNat] else v.held) := hq2
    have hy2 : y ∈ v.t.set c e := hy
    obtain ⟨i, hi, hyi⟩ := mem_getD hy2
    rw [List.length_set] at hi
    rw [getD_tset _ hc] at hyi
    subst heq
    by_cases hci : c = i
    · rw [if_pos hci] at hyi
      subst hyi
      obtain ⟨_, h5, h6⟩ := hq rfl
      rw [if_neg h6] at hq3
      exact h5 hq3
    · rw [if_neg hci] at hyi
      have hmem : ((2 : Int), (q : Int)) ∈ v.t := hyi ▸ getD_mem hi
      split at hq3
      · next hd =>
        rcases List.mem_append.1 hq3 with h5 | h5
        · exact h.held q h5 _ hmem rfl
        · simp only [List.mem_singleton] at h5
          have hb := entB_of (hgood.at c)
          have e1 : v.t.getD c (0, 0) = (2, (q : Int)) := by
            rcases hb with hb | hb
            · exact Prod.ext hd (by show (v.t.getD c (0, 0)).2 = _; omega)
            · omega
          rcases Nat.lt_or_ge c i with hlt | hge
          · exact hgood.once c i hlt hi (by rw [hyi]) (by rw [e1, hyi])
          · exact hgood.once i c (by omega) hc (by rw [e1]) (by rw [e1, hyi])
      · exact h.held q hq3 _ hmem rfl
end Go.Proofs.YtonhoahnieoebabGreatDoor
