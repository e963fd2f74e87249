/-
An image that is safe: whatever of its pending writes is lost, it is opened, and is safe again.
-/
import Derived.Test.YtncjnjlakhohgaaQCrashA
namespace Go.Proofs.Ytncjnjlakhohgaa
open Go.RowKit

structure Safe (v : IV) (U : List (Int × Int)) : Prop where
  good : GoodT v.h U
  sub : Sub U v.t
  head : ∀ s, v.d.ver 0 s → s = (sealS v.h.bytes).data.toList
  rows : ∀ r, r < rowsN v.t.length → ∀ s, v.d.ver (1 + r) s → ∃ T, Sub U T ∧ s = (rowS T (r : Int)).data.toList
  seen : ∀ r, r < rowsN v.t.length → v.d.seen.getD (1 + r) [] = (rowS v.t (r : Int)).data.toList

/- The table whose rows are those of several. -/
def mixT (n : Nat) (T : Nat → List (Int × Int)) : List (Int × Int) := (List.range n).map fun c => (T (c / 8)).getD c (0, 0)

theorem mixT_len (n : Nat) (T : Nat → List (Int × Int)) : (mixT n T).length = n := by simp [mixT]
theorem mixT_at {n : Nat} {T : Nat → List (Int × Int)} {c : Nat} (h : c < n) : (mixT n T).getD c (0, 0) = (T (c / 8)).getD c (0, 0) := by
  simp [mixT, List.getD_eq_getElem?_getD, h]

theorem mixT_sub {U : List (Int × Int)} {T : Nat → List (Int × Int)} (h : ∀ r, r < rowsN U.length → Sub U (T r)) : Sub U (mixT U.length T) := by
  refine ⟨mixT_len _ _, fun c => ?_⟩
  by_cases hc : c < U.length
  · rw [mixT_at hc]; exact (h (c / 8) (rows_lt hc)).2 c
  · right; left
    rw [List.getD_eq_getElem?_getD, List.getElem?_eq_none (by rw [mixT_len]; omega)]; rfl

theorem take_succ2 {l : List (Int × Int)} {c : Nat} (h : c < l.length) : l.take (c + 1) = l.take c ++ [l.getD c (0, 0)] := by
  rw [List.take_add_one, List.getD_eq_getElem?_getD, List.getElem?_eq_getElem h]; rfl

/- Rows of tables that are all under one are read, as the table that they mix. -/
theorem mix_read {h : HV} {U : List (Int × Int)} {T : Nat → List (Int × Int)} {rs : List ByteArray} (hk : h.ok = true) (hl : (U.length : Int) = h.c) (hg : GoodT h U) (hT : ∀ r, r < rowsN U.length → Sub U (T r))
    (hrl : rs.length = rowsN U.length) (hr : ∀ r, r < rowsN U.length → rs.getD r ByteArray.empty = rowS (T r) (r : Int)) :
    tableF h rs = 0 ∧ tableT h rs = mixT U.length T := by
  have hsub := mixT_sub hT
  have hmg := hsub.good hg
  have hnl : h.c.toNat = U.length := by omega
  have key : ∀ j, j ≤ rowsN U.length → tabTo h rs j = ((mixT U.length T).take (8 * j), 0) := by
    intro j
    induction j with
    | zero => intro _; rfl
    | succ j ih =>
      intro hj
      have ej := ih (by omega)
      have hjr : j < rowsN U.length := by omega
      have hTl : ((T j).length : Int) = h.c := by rw [(hT j hjr).1]; exact hl
      have hTe := fun c => (hT j hjr).entB hg c
      have hrow : ∀ i, i ≤ 8 → rowSt h ((mixT U.length T).take (8 * j)) (rowS (T j) (j : Int)) i = some ((mixT U.length T).take (8 * j + i)) := by
        intro i
        induction i with
        | zero => intro _; rfl
        | succ i ihi =>
          intro hi
          rw [rowSt_some (ihi (by omega)), row_ent hk hTl hTe (by rw [(hT j hjr).1]; exact hjr) (by omega)]
          by_cases hc : 8 * j + i < U.length
          · have hc8 : (8 * j + i) / 8 = j := by omega
            have e1 : (T j).getD (j * 8 + i) (0, 0) = (mixT U.length T).getD (8 * j + i) (0, 0) := by
              rw [mixT_at hc, hc8, show j * 8 + i = 8 * j + i by omega]
            have hlen : ((mixT U.length T).take (8 * j + i)).length = 8 * j + i := by rw [List.length_take, mixT_len]; omega
            unfold stepT
            rw [hlen, if_neg (by omega), e1, if_pos]
            · rw [show 8 * j + (i + 1) = 8 * j + i + 1 by omega, take_succ2 (by rw [mixT_len]; exact hc)]
            · refine ⟨hsub.entB hg _, fun ⟨h2, hm⟩ => ?_⟩
              obtain ⟨c2, hc2, he2⟩ := mem_getD hm
              rw [hlen] at hc2
              have he3 : ((mixT U.length T).take (8 * j + i)).getD c2 (0, 0) = (mixT U.length T).getD c2 (0, 0) := by
                rw [List.getD_eq_getElem?_getD, List.getD_eq_getElem?_getD, List.getElem?_take_of_lt hc2]
              exact hmg.once c2 (8 * j + i) hc2 (by rw [mixT_len]; exact hc) h2 (by rw [← he3]; exact he2)
          · have e1 : (T j).getD (j * 8 + i) (0, 0) = (0, 0) := by
              rw [List.getD_eq_getElem?_getD, List.getElem?_eq_none (by rw [(hT j hjr).1]; omega)]; rfl
            have hta : ∀ k, U.length ≤ k → (mixT U.length T).take k = mixT U.length T := fun k hk2 => List.take_of_length_le (by rw [mixT_len]; exact hk2)
            unfold stepT
            rw [hta _ (by omega), hta _ (by omega), mixT_len, if_pos hl, e1, if_pos rfl]
      have hsz : (rs.getD j ByteArray.empty).size = 16 := by
        rw [hr j hjr]
        exact (row_good hk hTl (fun e hm => by obtain ⟨i, _, rfl⟩ := mem_getD hm; exact hTe i) j (by rw [(hT j hjr).1]; exact hjr)).2
      have := tabTo_good (h := h) (rows := rs) (j := j) (a := (mixT U.length T).take (8 * j + 8)) (by rw [ej]) hsz (by rw [ej, hr j hjr]; exact hrow 8 (Nat.le_refl _))
      rw [this, show 8 * (j + 1) = 8 * j + 8 by omega]
  have hin : tableIn h rs = true := by unfold tableIn; rw [hk, hnl]; simp [hrl]
  have hend := key (rowsN U.length) (Nat.le_refl _)
  refine ⟨?_, ?_⟩
  · unfold tableF; rw [if_pos hin, hrl, hend]
  · unfold tableT; rw [if_pos hin, hrl, hend]
    exact List.take_of_length_le (by rw [mixT_len]; unfold rowsN; omega)

/- Whatever versions stand on a device: the image is opened. -/
theorem Safe.opens {v : IV} {U : List (Int × Int)} {m : Nat} (hs : Safe v U) (hok : v.ok m) {d : DV} (hl : d.fl.length = v.d.fl.length) (hv : ∀ i, v.d.ver i (d.seen.getD i [])) :
    openF d = 0 ∧ openH d = v.h ∧ Sub U (openV d).t ∧ ∀ r, r < rowsN v.t.length → d.seen.getD (1 + r) [] = (rowS (openV d).t (r : Int)).data.toList := by
  have hlen : v.t.length = U.length := hs.sub.1
  have hUl : (U.length : Int) = v.h.c := by rw [← hlen]; exact hok.len
  have hex : ∀ r, ∃ T, r < rowsN U.length → Sub U T ∧ d.seen.getD (1 + r) [] = (rowS T (r : Int)).data.toList := fun r => by
    by_cases hr : r < rowsN U.length
    · obtain ⟨T, h1, h2⟩ := hs.rows r (by rw [hlen]; exact hr) _ (hv (1 + r))
      exact ⟨T, fun _ => ⟨h1, h2⟩⟩
    · exact ⟨[], fun h => absurd h hr⟩
  have hch : ∃ T : Nat → List (Int × Int), ∀ r, r < rowsN U.length → Sub U (T r) ∧ d.seen.getD (1 + r) [] = (rowS (T r) (r : Int)).data.toList := ⟨fun r => Classical.choose (hex r), fun r => Classical.choose_spec (hex r)⟩
  obtain ⟨T, hT⟩ := hch
  have h0 : bytesOf (d.seen.getD 0 []) = sealS v.h.bytes := by rw [hs.head _ (hv 0), bytesOf_data]
  obtain ⟨g1, g2⟩ := headOf_seal v.h hok.h
  have hH : openH d = v.h := by unfold openH; rw [h0]; exact g1
  have hnl : v.h.c.toNat = U.length := by omega
  have hrs : (openRs d).length = rowsN U.length := by unfold openRs; rw [List.length_map, List.length_range, hH, hnl]
  have hrr : ∀ r, r < rowsN U.length → (openRs d).getD r ByteArray.empty = rowS (T r) (r : Int) := fun r hr => by
    unfold openRs
    rw [hH, hnl, List.getD_eq_getElem?_getD, List.getElem?_map, List.getElem?_range hr]
    show openR d r = _
    unfold openR
    rw [(hT r hr).2, bytesOf_data]
  obtain ⟨k1, k2⟩ := mix_read hok.h hUl hs.good (fun r hr => (hT r hr).1) hrs hrr
  have hsub := mixT_sub (fun r hr => (hT r hr).1)
  have ht : (openV d).t = mixT U.length T := by show tableT (openH d) (openRs d) = _; rw [hH]; exact k2
  refine ⟨?_, hH, by rw [ht]; exact hsub, fun r hr => ?_⟩
  · unfold openF
    rw [h0, if_pos g2, hH, if_neg (by have := hok.need; omega)]
    exact k1
  · have hr2 : r < rowsN U.length := by rw [← hlen]; exact hr
    rw [(hT r hr2).2, ht]
    congr 2
    refine rowS_congr (by rw [(hT r hr2).1.1, mixT_len]) fun i hi => ?_
    by_cases hc : r * 8 + i < U.length
    · rw [mixT_at hc, show (r * 8 + i) / 8 = r by omega]
    · rw [List.getD_eq_getElem?_getD, List.getD_eq_getElem?_getD, List.getElem?_eq_none (by rw [(hT r hr2).1.1]; omega), List.getElem?_eq_none (by rw [mixT_len]; omega)]

/- Opened as it stands. -/
theorem Safe.open {v : IV} {U : List (Int × Int)} {m : Nat} (hs : Safe v U) (hok : v.ok m) : openF v.d = 0 ∧ Safe (openV v.d) U := by
  obtain ⟨h1, h2, h3, h4⟩ := hs.opens hok rfl (ver_seen hok.d.sn)
  have hlen : (openV v.d).t.length = v.t.length := by rw [h3.1]; exact hs.sub.1.symm
  refine ⟨h1, ⟨?_, h3, ?_, ?_, ?_⟩⟩
  · show GoodT (openH v.d) U
    rw [h2]; exact hs.good
  · show ∀ s, v.d.ver 0 s → s = (sealS (openH v.d).bytes).data.toList
    rw [h2]; exact hs.head
  · rw [hlen]; exact hs.rows
  · rw [hlen]; exact h4

/- Opened behind a crash. -/
theorem Safe.crash {v : IV} {U : List (Int × Int)} {m : Nat} (hs : Safe v U) (hok : v.ok m) (ks : List Bool) (wr : Nat) :
    openF (DV.made (keepTo v.d.pend ks v.d.fl v.d.pend.length) wr) = 0 ∧ Safe (openV (DV.made (keepTo v.d.pend ks v.d.fl v.d.pend.length) wr)) (openV (DV.made (keepTo v.d.pend ks v.d.fl v.d.pend.length) wr)).t := by
  have hv := ver_keepTo v.d ks _ (Nat.le_refl _)
  obtain ⟨h1, h2, h3, h4⟩ := hs.opens hok (d := DV.made (keepTo v.d.pend ks v.d.fl v.d.pend.length) wr) (keepTo_len _ _ _ _) hv
  generalize keepTo v.d.pend ks v.d.fl v.d.pend.length = l at h1 h2 h3 h4 hv ⊢
  have hlen : (openV (DV.made l wr)).t.length = v.t.length := by rw [h3.1]; exact hs.sub.1.symm
  have hone : ∀ i s, (DV.made l wr).ver i s → s = l.getD i [] := fun i s h => by
    rcases h with h | ⟨x, hx, _⟩
    · exact h
    · cases hx
  refine ⟨h1, ⟨?_, Sub.refl _, ?_, ?_, ?_⟩⟩
  · show GoodT (openH (DV.made l wr)) _
    rw [h2]; exact h3.good hs.good
  · intro s h
    show s = (sealS (openH (DV.made l wr)).bytes).data.toList
    rw [h2, hone 0 s h]; exact hs.head _ (hv 0)
  · intro r hr s h
    refine ⟨_, Sub.refl _, ?_⟩
    rw [hone _ s h]; exact h4 r (by rw [← hlen]; exact hr)
  · rw [hlen]; exact h4

/- A device turns above its rows alone. -/
theorem Safe.low {v : IV} {U : List (Int × Int)} (hs : Safe v U) {d : DV} (h1 : ∀ i, i < 1 + rowsN v.t.length → ∀ t, d.ver i t → v.d.ver i t) (h2 : ∀ i, i < 1 + rowsN v.t.length → d.seen.getD i [] = v.d.seen.getD i []) (held : List Nat) : Safe ⟨d, v.h, v.t, held⟩ U :=
  ⟨hs.good, hs.sub, fun s h => hs.head s (h1 0 (by omega) s h), fun r hr s h => hs.rows r hr s (h1 (1 + r) (by have : r < rowsN v.t.length := hr; omega) s h), fun r hr => by
    show d.seen.getD (1 + r) [] = _
    rw [h2 (1 + r) (by have : r < rowsN v.t.length := hr; omega)]; exact hs.seen r hr⟩

theorem Safe.flush {v : IV} {U : List (Int × Int)} (hs : Safe v U) (hsn : v.d.sn) : Safe v.flush v.t := by
  have hone : ∀ i s, v.d.flushed.ver i s → s = v.d.seen.getD i [] := fun i s h => by
    rcases h with h | ⟨x, hx, _⟩
    · exact h
    · cases hx
  refine ⟨hs.sub.good hs.good, Sub.refl _, fun s h => ?_, fun r hr s h => ⟨v.t, Sub.refl _, ?_⟩, hs.seen⟩
  · rw [hone 0 s h]; exact hs.head _ (ver_seen hsn 0)
  · rw [hone _ s h]; exact hs.seen r hr

theorem Safe.set {v : IV} {U : List (Int × Int)} {m : Nat} (hs : Safe v U) (hok : v.ok m) {c : Nat} (hc : c < v.t.length) {e : Int × Int} (he : e = U.getD c (0, 0) ∨ e = (0, 0) ∨ e = (1, 0)) : Safe (v.set c e) U := by
  have hb := (begin_le hok.h hok.need).1
  have hnl : v.h.c.toNat = v.t.length := by have := hok.len; omega
  rw [hnl] at hb
  have hcr := rows_lt hc
  have gs : ∀ k, (v.t.set c e).getD k (0, 0) = (if c = k then e else v.t.getD k (0, 0)) := fun k => by
    rw [List.getD_eq_getElem?_getD, List.getD_eq_getElem?_getD]
    by_cases h : c = k
    · subst h; rw [List.getElem?_set_self hc, if_pos rfl]; rfl
    · rw [List.getElem?_set_ne h, if_neg h]
  have hsub : Sub U (v.t.set c e) := ⟨by rw [List.length_set]; exact hs.sub.1, fun k => by
    rw [gs k]
    split
    · next h => subst h; exact he
    · exact hs.sub.2 k⟩
  unfold IV.set
  by_cases h0 : v.d.putF = 0
  · rw [if_pos h0]
    refine ⟨hs.good, hsub, fun s h => ?_, fun r hr s h => ?_, fun r hr => ?_⟩
    · rcases ver_put h with h1 | ⟨h1, _⟩
      · exact hs.head s h1
      · omega
    · have hr2 : r < rowsN v.t.length := by have : r < rowsN (v.t.set c e).length := hr; rw [List.length_set] at this; exact this
      rcases ver_put h with h1 | ⟨h1, h2⟩
      · exact hs.rows r hr2 s h1
      · have : r = c / 8 := by omega
        subst this
        exact ⟨_, hsub, h2.symm⟩
    · have hr2 : r < rowsN v.t.length := by have : r < rowsN (v.t.set c e).length := hr; rw [List.length_set] at this; exact this
      show (v.setD c e).seen.getD (1 + r) [] = (rowS (v.t.set c e) (r : Int)).data.toList
      unfold IV.setD
      by_cases hrc : r = c / 8
      · subst hrc
        exact seen_put_same _ _ h0 (by have := hok.d.ok.same; omega)
      · rw [seen_put_ne _ _ (by omega), hs.seen r hr2]
        congr 2
        refine rowS_congr (by rw [List.length_set]) fun i hi => ?_
        rw [gs, if_neg (by omega)]
  · rw [if_neg h0]
    unfold IV.setD
    rw [put_no _ _ h0]
    exact hs.low (d := v.d.failing (-1)) (fun i _ t h => h) (fun i _ => rfl) _
end Go.Proofs.Ytncjnjlakhohgaa
