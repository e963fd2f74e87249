/-
Each act of TopImage, what it shows, and what a crash behind it shows, in plain words.
-/
import Derived.Test.YtncjnjlakhohgaaQTopPlain
namespace Go.Proofs.Ytncjnjlakhohgaa
open Go.RowKit

theorem putF_nf {d : DV} (h : d.fail = -1) : d.putF = 0 := by
  rcases d.putF_cases with ⟨h1, _⟩ | ⟨_, h1⟩
  · exact h1
  · omega

theorem put_nf {d : DV} (h : d.fail = -1) (i : Nat) (s : List UInt8) : (d.put i s).fail = -1 := by
  unfold DV.put
  rw [if_neg (by omega)]
  show d.ticked.fail = -1
  unfold DV.ticked
  rw [if_pos h]; exact h

theorem puts_nf {d : DV} (h : d.fail = -1) (a : Nat) (s : ByteArray) : ∀ k, (d.puts a s k).1.fail = -1 ∧ (d.puts a s k).2 = 0 := by
  intro k
  induction k with
  | zero => exact ⟨h, rfl⟩
  | succ k ih =>
    rw [DV.puts_yes ih.2]
    exact ⟨put_nf ih.1 _ _, putF_nf ih.1⟩

theorem puts_len {d : DV} {m : Nat} (hd : d.fine d.fl.length m) {a : Nat} {s : ByteArray} {c : Nat} (hs : s.size = c * 16) (ha : a + c ≤ d.fl.length) (hm : m + c < 1000000000) : ∀ k, k ≤ c → (d.puts a s k).1.seen.length = d.seen.length := fun k hk => by
  have := hd.puts hs ha hm k hk
  rw [this.ok.same, this.len, hd.ok.same]

theorem Told.write {v : IV} {U : List (Int × Int)} {m : Nat} {may may' : Nat → List (List UInt8)} (h : Told v may) (_hs : Safe v U) (hok : v.ok m) (hm : m + 10 < 1000000000) (c fr : Int) (s : ByteArray)
    (hmay : ∀ k x, x ∈ may k → x ∈ may' k) (hn : ∀ k, k < 4 * v.t.length → (v.write c fr s).sh k ∈ may' k) : Told (v.write c fr s) may' := by
  unfold IV.write at hn ⊢
  split
  · next hw =>
    rw [if_pos hw] at hn
    obtain ⟨w1, w2, w3, w4, w5⟩ := wrOk_of hw.1
    obtain ⟨t0, t1⟩ := IV.there_of w1
    obtain ⟨p0, p1, p2⟩ := hok.place w1 hw.2
    unfold IV.writeD at hn ⊢
    have hcs : s.size = s.size / 16 * 16 := by omega
    have hrange : beginN v.h (v.ent c).2.toNat + fr.toNat + s.size / 16 ≤ v.d.fl.length := by omega
    have hl := puts_len hok.d hcs hrange (by omega)
    have hpv := puts_ver v.d (beginN v.h (v.ent c).2.toNat + fr.toNat) s (s.size / 16) hl (by rw [hok.d.ok.same]; exact hrange) _ (Nat.le_refl _)
    have hlow := puts_low v.d (beginN v.h (v.ent c).2.toNat + fr.toNat) s (s.size / 16)
    refine ⟨fun c2 hc2 x hv j hj => ?_, hn, h.held⟩
    have hc2' : c2 < v.t.length := hc2
    have hold := h.vers c2 hc2 x ((hlow (1 + c2 / 8) (by have := begin_low hok (v.ent c).2.toNat; have := rows_lt hc2'; omega)).1 x hv) j hj
    refine ⟨fun g => hmay _ _ (hold.1 g), fun g => hmay _ _ (hold.2.1 g), fun g => ⟨(hold.2.2 g).1, fun y hy => ?_⟩⟩
    rcases hpv _ y hy with h1 | ⟨h1, h2, h3⟩
    · exact hmay _ _ ((hold.2.2 g).2 y h1)
    · rcases (hold.2.2 g).1 with g1 | g1
      · exfalso
        have hq : (entAt (bytesOf x) (c2 % 8)).2.toNat = (v.ent c).2.toNat := by
          have h1' : beginN v.h (v.ent c).2.toNat + fr.toNat ≤ beginN v.h (entAt (bytesOf x) (c2 % 8)).2.toNat + j := h1
          have h2' : beginN v.h (entAt (bytesOf x) (c2 % 8)).2.toNat + j < beginN v.h (v.ent c).2.toNat + fr.toNat + s.size / 16 := h2
          clear h1 h2 hpv hlow hl
          unfold beginN at h1' h2'
          omega
        rw [hq] at g1
        refine h.held _ g1 (v.ent c) ?_ ?_
        · unfold IV.ent; exact getD_mem (by omega)
        · exact Prod.ext hw.2 (by show (v.ent c).2 = _; omega)
      · have h4 := hn (4 * c2 + j) (by omega)
        rw [sh_at _ c2 j hj] at h4
        have e1 : ({ v with d := (v.d.puts (beginN v.h (v.ent c).2.toNat + fr.toNat) s (s.size / 16)).1 } : IV).t.getD c2 (0, 0) = entAt (bytesOf x) (c2 % 8) := g1.symm
        rw [e1, if_pos g] at h4
        rw [h3]; exact h4
  · next hw =>
    rw [if_neg hw] at hn
    exact h.mono hmay

theorem Told.clear {v : IV} {U : List (Int × Int)} {m : Nat} {may may' : Nat → List (List UInt8)} (h : Told v may) (hs : Safe v U) (hok : v.ok m) (hm : m + 10 < 1000000000) (hnf : v.d.fail = -1) (c : Int)
    (hmay : ∀ k x, x ∈ may k → x ∈ may' k) (hn : ∀ k, k < 4 * v.t.length → (v.clear c).sh k ∈ may' k) : Told (v.clear c) may' := by
  unfold IV.clear at hn ⊢
  split
  · next hw =>
    rw [if_pos hw] at hn
    obtain ⟨t0, t1⟩ := IV.there_of hw.1
    exact h.set hs hok (by omega) (putF_nf hnf) (by omega) (entB_1 _) hmay hn (fun g => by cases g)
  · exact h.mono hmay

theorem Told.fill {v : IV} {U : List (Int × Int)} {m : Nat} {may may' : Nat → List (List UInt8)} (h : Told v may) (hs : Safe v U) (hok : v.ok m) (hm : m + 10 < 1000000000) (hnf : v.d.fail = -1) (c : Int) (s : ByteArray)
    (hmay : ∀ k x, x ∈ may k → x ∈ may' k) (hn : ∀ k, k < 4 * v.t.length → (v.fill c s).sh k ∈ may' k) : Told (v.fill c s) may' := by
  unfold IV.fill at hn ⊢
  split
  · next h1 =>
    rw [if_pos h1] at hn
    split
    · exact h.mono hmay
    · next h2 =>
      rw [if_neg h2] at hn
      cases hq : v.freeL with
      | nil => exact h.mono hmay
      | cons q tl =>
        rw [hq] at hn
        have hz : (v.fillD q s).2 = 0 := (puts_nf hnf _ _ _).2
        have hqm : q ∈ v.freeL := by rw [hq]; exact List.mem_cons_self
        have hop := (IV.freeTo_mem hqm).2
        unfold IV.openB IV.usedB at hop
        simp only [Bool.and_eq_true, Bool.not_eq_true', List.any_eq_false, decide_eq_true_eq] at hop
        obtain ⟨t0, t1⟩ := IV.there_of h1.1
        have hc : c.toNat < v.t.length := by omega
        have hfd := hok.fillD hqm h1.2 (by omega)
        have hs2 : Safe { v with d := (v.fillD q s).1 } U := by
          unfold IV.fillD
          exact hs.puts (by have := begin_low hok q; omega) s 4
        have hs3 : Safe (v.fillV q s) v.t := hs2.flush hfd.sn
        have hok3 := hok.fillV hqm h1.2 (show m + 10 ≤ 1000000000 by omega)
        have hflat : ∀ i x, (v.fillV q s).d.ver i x → x = (v.fillV q s).d.seen.getD i [] := fun i x hx => by
          rcases hx with hx | ⟨y, hy, _⟩
          · exact hx
          · cases hy
        have hsh : ∀ k, k < 4 * v.t.length → (v.fillV q s).sh k = v.sh k := fun k hk => by
          unfold IV.sh
          by_cases g : (v.t.getD (k / 4) (0, 0)).1 = 2
          · have e1 : ((v.fillV q s).t.getD (k / 4) (0, 0)).1 = 2 := g
            rw [if_pos g, if_pos e1]
            show (v.d.puts (beginN v.h q + 0) s 4).1.seen.getD (beginN v.h (v.t.getD (k / 4) (0, 0)).2.toNat + k % 4) [] = _
            refine puts_seen_out _ _ _ _ _ ?_
            have hb := entB_of (hok.ents _ (getD_mem (show k / 4 < v.t.length by omega)))
            have hne : (v.t.getD (k / 4) (0, 0)).2.toNat ≠ q := fun e => by
              refine hop.1 _ (getD_mem (show k / 4 < v.t.length by omega)) ?_
              rcases hb with hb | hb
              · exact Prod.ext g (by show (v.t.getD (k / 4) (0, 0)).2 = _; omega)
              · omega
            unfold beginN
            omega
          · have e1 : ¬ ((v.fillV q s).t.getD (k / 4) (0, 0)).1 = 2 := g
            rw [if_neg g, if_neg e1]; rfl
        have hT : Told (v.fillV q s) may := told_flat hs3 hok3 hflat rfl (fun k hk => by rw [hsh k hk]; exact h.now k hk)
        have hn2 : ∀ k, k < 4 * v.t.length → ((v.fillV q s).set c.toNat (2, (q : Int))).sh k ∈ may' k := fun k hk => by
          have := hn k hk
          simp only [hz, if_true] at this
          exact this
        have hpf : (v.fillV q s).d.putF = 0 := putF_nf (show (v.fillD q s).1.fail = -1 from (puts_nf hnf _ _ _).1)
        have hres := hT.set (may' := may') hs3 hok3 (by omega) hpf (c := c.toNat) hc (e := (2, (q : Int))) (free_ent hok hqm) hmay hn2 (fun _ => ⟨fun j hj x hx => ?_, (fun hx => by cases hx), h2⟩)
        · show Told (if (v.fillD q s).2 = 0 then (v.fillV q s).set c.toNat (2, (q : Int)) else { v with d := (v.fillD q s).1 }) may'
          rw [if_pos hz]; exact hres
        · have h4 := hn2 (4 * c.toNat + j) (by omega)
          have hset : (v.fillV q s).set c.toNat (2, (q : Int)) = ⟨(v.fillV q s).setD c.toNat (2, (q : Int)), v.h, v.t.set c.toNat (2, (q : Int)), if (v.t.getD c.toNat (0, 0)).1 = 2 then [] ++ [(v.t.getD c.toNat (0, 0)).2.toNat] else []⟩ := by unfold IV.set; rw [if_pos hpf]; rfl
          rw [sh_at _ _ j hj, hset] at h4
          simp only [getD_tset _ hc, if_true] at h4
          rw [show ((v.fillV q s).setD c.toNat (2, (q : Int))).seen.getD (beginN v.h (q : Int).toNat + j) [] = (v.fillV q s).d.seen.getD (beginN v.h (q : Int).toNat + j) [] from by
            unfold IV.setD
            exact seen_put_ne _ _ (begin_row hok3 hc)] at h4
          rw [hflat _ x hx]; exact h4
  · exact h.mono hmay

/- Behind a crash. -/
theorem Told.crash {v : IV} {U : List (Int × Int)} {m : Nat} {may : Nat → List (List UInt8)} (h : Told v may) (hs : Safe v U) (hok : v.ok m) (ks : List Bool) (wr : Nat) :
    ∀ k, k < 4 * v.t.length → (openV (DV.made (keepTo v.d.pend ks v.d.fl v.d.pend.length) wr)).sh k ∈ may k := by
  have hv := ver_keepTo v.d ks _ (Nat.le_refl _)
  obtain ⟨h1, h2, h3, h4⟩ := hs.opens hok (d := DV.made (keepTo v.d.pend ks v.d.fl v.d.pend.length) wr) (keepTo_len _ _ _ _) hv
  generalize hl : keepTo v.d.pend ks v.d.fl v.d.pend.length = l at h1 h2 h3 h4 hv ⊢
  intro k hk
  have hc : k / 4 < v.t.length := by omega
  have hlen : (openV (DV.made l wr)).t.length = v.t.length := by rw [h3.1]; exact hs.sub.1.symm
  have he : entAt (bytesOf (l.getD (1 + k / 4 / 8) [])) (k / 4 % 8) = (openV (DV.made l wr)).t.getD (k / 4) (0, 0) := by
    have := h4 (k / 4 / 8) (rows_lt hc)
    rw [show l.getD (1 + k / 4 / 8) [] = (rowS (openV (DV.made l wr)).t ((k / 4 / 8 : Nat) : Int)).data.toList from this, bytesOf_data, row_ent hok.h (by rw [hlen]; exact hok.len) (fun i => h3.entB hs.good i) (by rw [hlen]; exact rows_lt hc) (by omega), show k / 4 / 8 * 8 + k / 4 % 8 = k / 4 by omega]
  have hf := h.vers (k / 4) hc _ (hv (1 + k / 4 / 8)) (k % 4) (by omega)
  rw [he, show 4 * (k / 4) + k % 4 = k by omega] at hf
  have hb := entB_of (h3.entB hs.good (k / 4))
  unfold IV.sh
  split
  · next g =>
    show l.getD (beginN (openH (DV.made l wr)) _ + k % 4) [] ∈ may k
    rw [h2]
    exact (hf.2.2 g).2 _ (hv _)
  · split
    · next g => exact hf.2.1 g
    · next g1 g2 => exact hf.1 (by omega)

/- Made anew. -/
theorem crV_told {d : DV} {m : Nat} {h : HV} (hd : d.fine d.fl.length m) (hk : h.ok = true) (hn : needN h ≤ d.fl.length) (hm : m + 20 < 1000000000) (hf : crF d h = 0) : Told (crV d h) (fun _ => [[45]]) := by
  have hs := crV_safe hd hk hn hm hf
  have hok := crV_ok hd hk hn hm
  have hpf : (crV0 d h).flush.d.putF = 0 := by
    unfold crF at hf
    rw [if_pos hk, if_neg (by omega)] at hf
    by_cases h0 : (crD d h).2 = 0
    · rw [if_pos h0] at hf; exact hf
    · rw [if_neg h0] at hf; exact absurd hf h0
  have ht : ∀ c, (crV d h).t.getD c (0, 0) = (0, 0) := fun c => by
    have : (crV d h).t = crT h := by unfold crV IV.headV; rw [if_pos hpf]; rfl
    rw [this]
    show (List.replicate h.c.toNat ((0 : Int), (0 : Int))).getD c (0, 0) = _
    rw [List.getD_eq_getElem?_getD, List.getElem?_replicate]
    split <;> rfl
  refine told_flat hs hok (fun i s hv => ?_) (by unfold crV IV.headV; rw [if_pos hpf]; rfl) (fun k _ => ?_)
  · have e : (crV d h).d = ((crV0 d h).flush.d.put 0 (sealS h.bytes).data.toList).flushed := by unfold crV IV.headV; rw [if_pos hpf]; rfl
    rw [e] at hv ⊢
    rcases hv with hv | ⟨x, hx, _⟩
    · exact hv
    · cases hx
  · unfold IV.sh
    rw [ht, if_neg (by decide), if_neg (by decide)]
    exact List.mem_singleton.2 rfl
end Go.Proofs.Ytncjnjlakhohgaa
