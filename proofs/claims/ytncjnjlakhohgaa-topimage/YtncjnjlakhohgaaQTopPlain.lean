/-
What a sector of an image may be behind a crash: what it was at the last flush, or since (D2 to D4), in plain words.
-/
import Derived.Test.YtncjnjlakhohgaaQCrashC
namespace Go.Proofs.Ytncjnjlakhohgaa
open Go.RowKit

/- What is shown of an image's sector. -/
def IV.sh (v : IV) (k : Nat) : List UInt8 :=
  if (v.t.getD (k / 4) (0, 0)).1 = 2 then v.d.seen.getD (beginN v.h (v.t.getD (k / 4) (0, 0)).2.toNat + k % 4) []
  else if (v.t.getD (k / 4) (0, 0)).1 = 1 then noughts else [45]

/- An entry that a crash may leave at cluster c: what it shows may be. -/
def Fits (v : IV) (may : Nat → List (List UInt8)) (c : Nat) (e : Int × Int) : Prop :=
  ∀ j, j < 4 → (e.1 = 0 → [45] ∈ may (4 * c + j)) ∧ (e.1 = 1 → noughts ∈ may (4 * c + j)) ∧
    (e.1 = 2 → (e.2.toNat ∈ v.held ∨ e = v.t.getD c (0, 0)) ∧ ∀ s, v.d.ver (beginN v.h e.2.toNat + j) s → s ∈ may (4 * c + j))

structure Told (v : IV) (may : Nat → List (List UInt8)) : Prop where
  vers : ∀ c, c < v.t.length → ∀ s, v.d.ver (1 + c / 8) s → Fits v may c (entAt (bytesOf s) (c % 8))
  now : ∀ k, k < 4 * v.t.length → v.sh k ∈ may k
  held : ∀ q ∈ v.held, ∀ e ∈ v.t, e ≠ (2, (q : Int))

theorem div4 {c j : Nat} (h : j < 4) : (4 * c + j) / 4 = c ∧ (4 * c + j) % 4 = j := by omega

theorem sh_at (v : IV) (c j : Nat) (h : j < 4) : v.sh (4 * c + j) = if (v.t.getD c (0, 0)).1 = 2 then v.d.seen.getD (beginN v.h (v.t.getD c (0, 0)).2.toNat + j) [] else if (v.t.getD c (0, 0)).1 = 1 then noughts else [45] := by
  unfold IV.sh
  rw [(div4 h).1, (div4 h).2]

theorem Fits.mono {v : IV} {may may' : Nat → List (List UInt8)} {c : Nat} {e : Int × Int} (h : Fits v may c e) (hm : ∀ k s, s ∈ may k → s ∈ may' k) : Fits v may' c e := fun j hj =>
  ⟨fun h0 => hm _ _ ((h j hj).1 h0), fun h1 => hm _ _ ((h j hj).2.1 h1), fun h2 => ⟨((h j hj).2.2 h2).1, fun s hs => hm _ _ (((h j hj).2.2 h2).2 s hs)⟩⟩

theorem Told.mono {v : IV} {may may' : Nat → List (List UInt8)} (h : Told v may) (hm : ∀ k s, s ∈ may k → s ∈ may' k) : Told v may' :=
  ⟨fun c hc s hs => (h.vers c hc s hs).mono hm, fun k hk => hm _ _ (h.now k hk), h.held⟩

/- What is current fits. -/
theorem seen_ent {v : IV} {U : List (Int × Int)} {m : Nat} (hs : Safe v U) (hok : v.ok m) {c : Nat} (hc : c < v.t.length) : entAt (bytesOf (v.d.seen.getD (1 + c / 8) [])) (c % 8) = v.t.getD c (0, 0) := by
  rw [hs.seen (c / 8) (rows_lt hc), bytesOf_data, row_ent hok.h hok.len (fun k => hs.sub.entB hs.good k) (rows_lt hc) (by omega), show c / 8 * 8 + c % 8 = c by omega]

theorem Told.cur {v : IV} {U : List (Int × Int)} {m : Nat} {may : Nat → List (List UInt8)} (h : Told v may) (hs : Safe v U) (hok : v.ok m) {c : Nat} (hc : c < v.t.length) : Fits v may c (v.t.getD c (0, 0)) := by
  have := h.vers c hc _ (ver_seen hok.d.sn (1 + c / 8))
  rw [seen_ent hs hok hc] at this
  exact this

/- Where nothing is pending. -/
theorem told_flat {v : IV} {U : List (Int × Int)} {m : Nat} {may : Nat → List (List UInt8)} (hs : Safe v U) (hok : v.ok m) (hp : ∀ i s, v.d.ver i s → s = v.d.seen.getD i []) (hh : v.held = []) (hn : ∀ k, k < 4 * v.t.length → v.sh k ∈ may k) : Told v may := by
  refine ⟨fun c hc s hv => ?_, hn, fun q hq => by rw [hh] at hq; cases hq⟩
  rw [hp _ s hv, seen_ent hs hok hc]
  intro j hj
  have h1 := hn (4 * c + j) (by omega)
  rw [sh_at v c j hj] at h1
  refine ⟨fun h0 => ?_, fun h0 => ?_, fun h0 => ⟨.inr rfl, fun x hx => ?_⟩⟩
  · rw [if_neg (by omega), if_neg (by omega)] at h1; exact h1
  · rw [if_neg (by omega), if_pos h0] at h1; exact h1
  · rw [if_pos h0] at h1; rw [hp _ x hx]; exact h1

theorem sh_flush (v : IV) (k : Nat) : v.flush.sh k = v.sh k := rfl

theorem Told.flush {v : IV} {U : List (Int × Int)} {m : Nat} {may may' : Nat → List (List UInt8)} (_h : Told v may) (hs : Safe v U) (hok : v.ok m) (hn : ∀ k, k < 4 * v.t.length → v.sh k ∈ may' k) : Told v.flush may' :=
  told_flat (hs.flush hok.d.sn) hok.flush (fun i s h => by
    rcases h with h | ⟨x, hx, _⟩
    · exact h
    · cases hx) rfl hn

/- Sectors that are written: a version is an old one, or what is seen; elsewhere it is an old one. -/
theorem puts_ver (d : DV) (a : Nat) (s : ByteArray) (n : Nat) (hl : ∀ k, k ≤ n → (d.puts a s k).1.seen.length = d.seen.length) (ha : a + n ≤ d.seen.length) : ∀ k, k ≤ n → ∀ i t, (d.puts a s k).1.ver i t → d.ver i t ∨ (a ≤ i ∧ i < a + k ∧ t = (d.puts a s k).1.seen.getD i []) := by
  intro k
  induction k with
  | zero => intro _ i t h; exact .inl h
  | succ k ih =>
    intro hk i t h
    by_cases h0 : (d.puts a s k).2 = 0
    · rw [DV.puts_yes h0] at h ⊢
      by_cases hp : (d.puts a s k).1.putF = 0
      · rcases ver_put h with h1 | ⟨h1, h2⟩
        · rcases ih (by omega) i t h1 with h3 | ⟨h3, h4, h5⟩
          · exact .inl h3
          · refine .inr ⟨h3, by omega, ?_⟩
            show t = ((d.puts a s k).1.put (a + k) (chunk s k)).seen.getD i []
            rw [seen_put_ne _ _ (by omega)]; exact h5
        · subst h1
          refine .inr ⟨by omega, by omega, ?_⟩
          show t = ((d.puts a s k).1.put (a + k) (chunk s k)).seen.getD (a + k) []
          rw [seen_put_same _ _ hp (by rw [hl k (by omega)]; omega)]; exact h2.symm
      · have e : (d.puts a s k).1.put (a + k) (chunk s k) = (d.puts a s k).1.failing (-1) := put_no _ _ hp
        have h' : ((d.puts a s k).1.put (a + k) (chunk s k)).ver i t := h
        rw [e] at h'
        rcases ih (by omega) i t h' with h3 | ⟨h3, h4, h5⟩
        · exact .inl h3
        · refine .inr ⟨h3, by omega, ?_⟩
          show t = ((d.puts a s k).1.put (a + k) (chunk s k)).seen.getD i []
          rw [e]; exact h5
    · rw [DV.puts_no h0 (k + 1) (by omega)] at h ⊢
      rcases ih (by omega) i t h with h3 | ⟨h3, h4, h5⟩
      · exact .inl h3
      · exact .inr ⟨h3, by omega, h5⟩

theorem puts_seen_out (d : DV) (a : Nat) (s : ByteArray) : ∀ k i, i < a ∨ a + k ≤ i → (d.puts a s k).1.seen.getD i [] = d.seen.getD i [] := by
  intro k
  induction k with
  | zero => intro i _; rfl
  | succ k ih =>
    intro i hi
    by_cases h0 : (d.puts a s k).2 = 0
    · rw [DV.puts_yes h0]
      show ((d.puts a s k).1.put (a + k) (chunk s k)).seen.getD i [] = _
      rw [seen_put_ne _ _ (by omega)]; exact ih i (by omega)
    · rw [DV.puts_no h0 (k + 1) (by omega)]; exact ih i (by omega)

/- A row's write turns no place. -/
theorem begin_row {v : IV} {m : Nat} (hok : v.ok m) {c q j : Nat} (hc : c < v.t.length) : 1 + c / 8 ≠ beginN v.h q + j := by
  have := begin_low hok q
  have := rows_lt hc
  omega

theorem ver_setD {v : IV} {c : Nat} {e : Int × Int} {i : Nat} {s : List UInt8} (h : (v.setD c e).ver i s) (hi : 1 + c / 8 ≠ i) : v.d.ver i s := by
  rcases ver_put h with h1 | ⟨h1, _⟩
  · exact h1
  · exact absurd h1 hi

theorem getD_tset (t : List (Int × Int)) {c : Nat} (hc : c < t.length) (e : Int × Int) (k : Nat) : (t.set c e).getD k (0, 0) = if c = k then e else t.getD k (0, 0) := by
  rw [List.getD_eq_getElem?_getD, List.getD_eq_getElem?_getD]
  by_cases h : c = k
  · subst h; rw [List.getElem?_set_self hc, if_pos rfl]; rfl
  · rw [List.getElem?_set_ne h, if_neg h]

/- An entry is set. -/
theorem Told.set {v : IV} {U : List (Int × Int)} {m : Nat} {may may' : Nat → List (List UInt8)} (h : Told v may) (hs : Safe v U) (hok : v.ok m) (hm : m < 1000000000) (hpf : v.d.putF = 0) {c : Nat} (hc : c < v.t.length) {e : Int × Int} (heb : entB e.1 e.2 v.h.p = true)
    (hmay : ∀ k s, s ∈ may k → s ∈ may' k) (hn : ∀ k, k < 4 * v.t.length → (v.set c e).sh k ∈ may' k)
    (hq : e.1 = 2 → (∀ j, j < 4 → ∀ s, v.d.ver (beginN v.h e.2.toNat + j) s → s ∈ may' (4 * c + j)) ∧ (e.2.toNat ∉ v.held) ∧ (v.t.getD c (0, 0)).1 ≠ 2) : Told (v.set c e) may' := by
  have hset : v.set c e = ⟨v.setD c e, v.h, v.t.set c e, if (v.t.getD c (0, 0)).1 = 2 then v.held ++ [(v.t.getD c (0, 0)).2.toNat] else v.held⟩ := by unfold IV.set; rw [if_pos hpf]
  have hgood := hs.sub.good hs.good
  have hoks := hok.set hc heb hm
  have hheld : ∀ q, q ∈ v.held → q ∈ (v.set c e).held := fun q hq2 => by
    rw [hset]
    show q ∈ (if (v.t.getD c (0, 0)).1 = 2 then v.held ++ [(v.t.getD c (0, 0)).2.toNat] else v.held)
    split
    · exact List.mem_append_left _ hq2
    · exact hq2
  have hold : ∀ c2, c2 < v.t.length → ∀ y, Fits v may c2 y → Fits (v.set c e) may' c2 y := fun c2 hc2 y hf j hj => by
    obtain ⟨h0, h1, h2⟩ := hf j hj
    refine ⟨fun g => hmay _ _ (h0 g), fun g => hmay _ _ (h1 g), fun g => ⟨?_, fun s hv => ?_⟩⟩
    · rcases (h2 g).1 with g1 | g1
      · exact .inl (hheld _ g1)
      · by_cases hcc : c = c2
        · subst hcc
          left
          rw [hset]
          show y.2.toNat ∈ (if (v.t.getD c (0, 0)).1 = 2 then v.held ++ [(v.t.getD c (0, 0)).2.toNat] else v.held)
          rw [← g1, if_pos g]
          exact List.mem_append_right _ (by simp)
        · right
          rw [hset]
          show y = (v.t.set c e).getD c2 (0, 0)
          rw [getD_tset _ hc, if_neg hcc]; exact g1
    · rw [hset] at hv
      exact hmay _ _ ((h2 g).2 s (ver_setD hv (begin_row hok hc)))
  have hlen : (v.set c e).t.length = v.t.length := by rw [hset]; exact List.length_set
  refine ⟨fun c2 hc2 s hv => ?_, fun k hk => hn k (by rw [← hlen]; exact hk), fun q hq2 y hy heq => ?_⟩
  · rw [hlen] at hc2
    have hv2 : (v.setD c e).ver (1 + c2 / 8) s := by rw [hset] at hv; exact hv
    rcases ver_put hv2 with h1 | ⟨h1, h2⟩
    · exact hold c2 hc2 _ (h.vers c2 hc2 s h1)
    · have hrow : c / 8 = c2 / 8 := by omega
      rw [← h2, bytesOf_data, hrow, row_ent hok.h (by rw [List.length_set]; exact hok.len) (fun k => ?_) (by rw [List.length_set]; exact rows_lt hc2) (by omega), show c2 / 8 * 8 + c2 % 8 = c2 by omega, getD_tset _ hc]
      · by_cases hcc : c = c2
        · subst hcc
          rw [if_pos rfl]
          intro j hj
          have h3 := hn (4 * c + j) (by omega)
          have hte : (v.set c e).t.getD c (0, 0) = e := by rw [hset]; show (v.t.set c e).getD c (0, 0) = e; rw [getD_tset _ hc, if_pos rfl]
          rw [sh_at _ c j hj, hte] at h3
          refine ⟨fun g => ?_, fun g => ?_, fun g => ⟨.inr hte.symm, fun x hx => ?_⟩⟩
          · rw [if_neg (by omega), if_neg (by omega)] at h3; exact h3
          · rw [if_neg (by omega), if_pos g] at h3; exact h3
          · rw [hset] at hx
            exact (hq g).1 j hj x (ver_setD hx (begin_row hok hc))
        · rw [if_neg hcc]
          exact hold c2 hc2 _ (h.cur hs hok hc2)
      · rw [getD_tset _ hc]
        split
        · exact heb
        · exact hgood.at k
  · rw [hset] at hq2 hy
    have hq3 : q ∈ (if (v.t.getD c (0, 0)).1 = 2 then v.held ++ [(v.t.getD c (0, 0)).2.toNat] else v.held) := hq2
    have hy2 : y ∈ v.t.set c e := hy
    obtain ⟨i, hi, hyi⟩ := mem_getD hy2
    rw [List.length_set] at hi
    rw [getD_tset _ hc] at hyi
    subst heq
    by_cases hci : c = i
    · rw [if_pos hci] at hyi
      subst hyi
      obtain ⟨_, h5, h6⟩ := hq rfl
      rw [if_neg h6] at hq3
      exact h5 hq3
    · rw [if_neg hci] at hyi
      have hmem : ((2 : Int), (q : Int)) ∈ v.t := hyi ▸ getD_mem hi
      split at hq3
      · next hd =>
        rcases List.mem_append.1 hq3 with h5 | h5
        · exact h.held q h5 _ hmem rfl
        · simp only [List.mem_singleton] at h5
          have hb := entB_of (hgood.at c)
          have e1 : v.t.getD c (0, 0) = (2, (q : Int)) := by
            rcases hb with hb | hb
            · exact Prod.ext hd (by show (v.t.getD c (0, 0)).2 = _; omega)
            · omega
          rcases Nat.lt_or_ge c i with hlt | hge
          · exact hgood.once c i hlt hi (by rw [hyi]) (by rw [e1, hyi])
          · exact hgood.once i c (by omega) hc (by rw [e1]) (by rw [e1, hyi])
      · exact h.held q hq3 _ hmem rfl
end Go.Proofs.Ytncjnjlakhohgaa
