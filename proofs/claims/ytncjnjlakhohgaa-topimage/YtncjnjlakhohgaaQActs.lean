/-
Acts that came in: how a list of them lies in memory, how it is read, and whether it is few and short (LightActs).
-/
import Derived.Test.YtncjnjlakhohgaaQDevCrash
import Derived.ProofKit
import Derived.OpenShut
import Derived.ShutString
import Derived.Deep.Grids
namespace Go.Proofs.Ytncjnjlakhohgaa
open Go.RowKit Go.ChangeShapes Go.WideShapes

structure ActV where
  kind : ByteArray
  a : Int
  b : Int
  c : Int
  d : Int
  s : ByteArray
  ka : Option Addr
  kl : Nat
  kc : Nat
  ks : List Bool

def ActV.none_ : ActV := ⟨⟨#[]⟩, 0, 0, 0, 0, ⟨#[]⟩, none, 0, 0, []⟩

def ActV.cells (x : ActV) : List Value := [.string x.kind, .int .i64 x.a, .int .i64 x.b, .int .i64 x.c, .int .i64 x.d, .string x.s, .slice x.ka x.kl x.kc]

structure ActOk (w : World) (x : ActV) : Prop where
  k1 : x.kind.size ≤ maxLen
  s1 : x.s.size ≤ maxLen
  a1 : -9223372036854775808 ≤ x.a ∧ x.a ≤ 9223372036854775807
  kl1 : x.kl ≤ maxLen
  keep : Bools w x.ka x.kl x.ks
  kn : x.ka = none → x.kc = 0

def Acts (w : World) (la : Option Addr) (len : Nat) (xs : List ActV) : Prop :=
  xs.length = len ∧ ∀ k, k < len → ∃ b off, la = some ⟨b, off, none⟩ ∧ w.rangeAt b (off + k * 7) (xs.getD k ActV.none_).cells ∧ ActOk w (xs.getD k ActV.none_)

theorem rangeAt_below {w w' : World} {b o : Nat} {cs : List Value} (h : w.rangeAt b o cs) (hb : Below w.heap.size w w') : w'.rangeAt b o cs := fun j v hv => by
  have := h j v hv
  rw [hb.cell (World.block_lt_of_cell? w _ this)]; exact this

theorem Acts.below {w w' : World} {la : Option Addr} {len : Nat} {xs : List ActV} (h : Acts w la len xs) (hb : Below w.heap.size w w') : Acts w' la len xs := by
  refine ⟨h.1, fun k hk => ?_⟩
  obtain ⟨b, off, e, hr, ho⟩ := h.2 k hk
  exact ⟨b, off, e, rangeAt_below hr hb, ho.k1, ho.s1, ho.a1, ho.kl1, ho.keep.below hb, ho.kn⟩

section
variable {H : Type} {enc : TypeId × Value → H}

theorem open_boolsB {w : World} {fuel : Nat} {v : Value} {x : DataW H × List MemPlace} (h : DataW.trod enc Try.prog w 0 (fun _ => true) true fuel 45 [v] = some x) :
    ∃ ka kl kc ks, v = .slice ka kl kc ∧ kl ≤ maxLen ∧ Bools w ka kl ks ∧ (ka = none → kc = 0) := by
  rcases Go.Deep.open_bools Try.underlying45 Try.underlying4 (by kernel_rfl) h with ⟨hcs, _⟩ | ⟨a, len, cap, Bf, hcs, _, hl, hm, _, hcell⟩
  · have : v = .slice none 0 0 := by simpa using hcs
    exact ⟨none, 0, 0, [], this, by unfold maxLen; omega, ⟨rfl, fun j hj => by omega⟩, fun _ => rfl⟩
  · have : v = .slice (some a) len cap := by simpa using hcs
    refine ⟨some a, len, cap, (List.range len).map Bf, this, by omega, ⟨by simp, fun j hj => ?_⟩, fun e => by cases e⟩
    obtain ⟨b, off, spot⟩ := a
    have h0 := hcell 0 (by omega)
    have hspot : spot = none := by simpa [Addr.add] using World.cell?_spot h0
    subst hspot
    refine ⟨b, off, rfl, ?_⟩
    rw [← Go.WideShapes.add_plain, hcell j (by omega)]
    simp [List.getD, hj]

set_option maxRecDepth 100000 in
theorem open_act {w : World} {fuel : Nat} {cs : List Value} {x : DataW H × List MemPlace} (h : DataW.trod enc Try.prog w 0 (fun _ => true) true fuel 47 cs = some x) :
    ∃ y : ActV, cs = y.cells ∧ ActOk w y := by
  obtain ⟨xs, n, _, _, hl, hlen, hf⟩ := DataW.trod_struct Try.underlying47 h
  have h7 : cs.length = 7 := by rw [hl]; kernel_rfl
  have c9 : Try.prog.cellsOf 9 = 1 := by kernel_rfl
  have c3 : Try.prog.cellsOf 3 = 1 := by kernel_rfl
  have c45 : Try.prog.cellsOf 45 = 1 := by kernel_rfl
  match cs, h7, xs, hlen with
  | [v0, v1, v2, v3, v4, v5, v6], _, [y0, y1, y2, y3, y4, y5, y6], _ =>
    have f0 : DataW.trod enc Try.prog w 0 (fun _ => true) true n 9 [v0] = some y0 := by simpa [c9] using hf 0 _ rfl
    have f1 : DataW.trod enc Try.prog w 0 (fun _ => true) true n 3 [v1] = some y1 := by simpa [c3] using hf 1 _ rfl
    have f2 : DataW.trod enc Try.prog w 0 (fun _ => true) true n 3 [v2] = some y2 := by simpa [c3] using hf 2 _ rfl
    have f3 : DataW.trod enc Try.prog w 0 (fun _ => true) true n 3 [v3] = some y3 := by simpa [c3] using hf 3 _ rfl
    have f4 : DataW.trod enc Try.prog w 0 (fun _ => true) true n 3 [v4] = some y4 := by simpa [c3] using hf 4 _ rfl
    have f5 : DataW.trod enc Try.prog w 0 (fun _ => true) true n 9 [v5] = some y5 := by simpa [c9] using hf 5 _ rfl
    have f6 : DataW.trod enc Try.prog w 0 (fun _ => true) true n 45 [v6] = some y6 := by simpa [c45] using hf 6 _ rfl
    obtain ⟨s0, e0, _, m0⟩ := DataW.trod_string Try.underlying9 f0
    obtain ⟨a1, e1, _, w1⟩ := DataW.trod_int Try.underlying3 f1
    obtain ⟨a2, e2, _, _⟩ := DataW.trod_int Try.underlying3 f2
    obtain ⟨a3, e3, _, _⟩ := DataW.trod_int Try.underlying3 f3
    obtain ⟨a4, e4, _, _⟩ := DataW.trod_int Try.underlying3 f4
    obtain ⟨s5, e5, _, m5⟩ := DataW.trod_string Try.underlying9 f5
    obtain ⟨ka, kl, kc, ks, e6, m6, hk, hkn⟩ := open_boolsB f6
    simp only [List.cons.injEq, and_true] at e0 e1 e2 e3 e4 e5
    subst e0 e1 e2 e3 e4 e5 e6
    have b1 := bounds_i64 w1
    exact ⟨⟨s0, a1, a2, a3, a4, s5, ka, kl, kc, ks⟩, rfl, m0, m5, ⟨b1.1, b1.2⟩, m6, hk, hkn⟩

theorem open_acts {w : World} {la : Option Addr} {len cap fuel : Nat} {x : DataW H × List MemPlace} (h : DataW.trod enc Try.prog w 0 (fun _ => true) true fuel 32 [.slice la len cap] = some x) :
    ∃ xs, Acts w la len xs ∧ len ≤ maxLen := by
  rcases Go.Deep.open_slice Try.underlying32 h with ⟨hcs, _⟩ | ⟨a, len', cap', m, n, D, Pl, hcs, _, hl, hm, hmm, _, hx⟩
  · simp at hcs
    obtain ⟨rfl, rfl, rfl⟩ := hcs
    exact ⟨[], ⟨rfl, fun k hk => by omega⟩, by unfold maxLen; omega⟩
  · simp at hcs
    obtain ⟨rfl, rfl, rfl⟩ := hcs
    have c47 : Try.prog.cellsOf 47 = 7 := by kernel_rfl
    simp only [if_true] at hmm
    subst hmm
    have : ∀ i, i < len → ∃ y : ActV, (∀ j, j < 7 → w.cell? (a.add (i * 7 + j)) = y.cells[j]?) ∧ ActOk w y := fun i hi => by
      obtain ⟨cs', h1, h2⟩ := hx i (by omega)
      obtain ⟨y, rfl, hok⟩ := open_act h2
      obtain ⟨_, _, hc⟩ := World.cells?_some h1
      rw [c47] at hc
      exact ⟨y, fun j hj => by rw [← Go.Deep.add_add]; exact hc j hj, hok⟩
    refine ⟨(List.range len).attach.map fun i => Classical.choose (this i.1 (List.mem_range.1 i.2)), ⟨by simp, fun k hk => ?_⟩, by omega⟩
    have hk' := this k hk
    have e : ((List.range len).attach.map fun i => Classical.choose (this i.1 (List.mem_range.1 i.2))).getD k ActV.none_ = Classical.choose (this k hk) := by
      simp [List.getD, hk]
    rw [e]
    obtain ⟨hc, hok⟩ := Classical.choose_spec (this k hk)
    obtain ⟨b, off, spot⟩ := a
    have hc0 := (Classical.choose_spec (this 0 (by omega))).1 0 (by omega)
    have hspot : spot = none := by
      have h0 : w.cell? ((⟨b, off, spot⟩ : Addr).add (0 * 7 + 0)) = some (.string (Classical.choose (this 0 (by omega))).kind) := hc0.trans rfl
      simpa [Addr.add] using World.cell?_spot h0
    subst hspot
    refine ⟨b, off, rfl, fun j v hv => ?_, hok⟩
    have hj : j < 7 := by
      rcases Nat.lt_or_ge j 7 with q | q
      · exact q
      · rw [List.getElem?_eq_none (by exact q)] at hv; cases hv
    have := hc j hj
    rw [Go.WideShapes.add_plain, hv] at this
    rw [show off + k * 7 + j = off + (k * 7 + j) by omega]; exact this
end

def lightB (xs : List ActV) (most : Nat) : Bool := decide (xs.length ≤ most ∧ ∀ k, k < xs.length → (xs.getD k ActV.none_).s.size ≤ 700 ∧ (xs.getD k ActV.none_).kl ≤ 300)

theorem ret_lb {a b : Bool} (h : a = b) : Ending.returned (.bool a) = .returned (.bool b) := by rw [h]

set_option maxRecDepth 100000 in
set_option maxHeartbeats 400000 in
theorem light_any (la : Option Addr) (len cap most : Nat) (xs : List ActV) (w : World) (hT : Acts w la len xs) (_hn : len ≤ maxLen) (hm : most ≤ 100) :
    Calls Try.prog 18 #[.slice la len cap, .int .i64 (most : Int)] w fun e w' => e = .returned (.bool (lightB xs most)) ∧ w' = w := by
  obtain ⟨hlen, hT⟩ := hT
  by_cases h20 : most < len
  · have HF : Hid (lightB xs most = false) := by unfold Hid lightB; simp; omega
    clear hT
    go_enter Try.func18, Try.ntmps18
    go_wp2
    go_ret
    exact ⟨ret_lb HF.out.symm, rfl⟩
  · have HT : Hid (∀ k, k < len → ∃ b off, la = some ⟨b, off, none⟩ ∧ w.rangeAt b (off + k * 7) (xs.getD k ActV.none_).cells ∧ ActOk w (xs.getD k ActV.none_)) := hT
    have HL : Hid (xs.length = len) := hlen
    clear hT hlen
    go_enter Try.func18, Try.ntmps18
    go_wp2
    go_loop [5] (fun i => ∃ k : Nat, k ≤ len ∧ i = .int .i64 k ∧ ∀ j, j < k → (xs.getD j ActV.none_).s.size ≤ 700 ∧ (xs.getD j ActV.none_).kl ≤ 300) (fun i => len - (intOf i).toNat)
    case atStart => exact ⟨0, Nat.zero_le _, rfl, fun j hj => by omega⟩
    case round =>
      obtain ⟨k, hk, rfl, hall⟩ := hrel
      by_cases hlt : k < len
      · obtain ⟨b, off, rfl, hr, hok⟩ := HT.out k hlt
        have c5 : w.cell? ⟨b, off + k * 7 + 5, none⟩ = some (.string (xs.getD k ActV.none_).s) := hr 5 _ rfl
        have c6 : w.cell? ⟨b, off + k * 7 + 6, none⟩ = some (.slice (xs.getD k ActV.none_).ka (xs.getD k ActV.none_).kl (xs.getD k ActV.none_).kc) := hr 6 _ rfl
        have hs1 := hok.s1
        have hk1 := hok.kl1
        unfold maxLen at hs1 hk1
        have HA : Hid ((xs.getD k ActV.none_).s.size ≤ 700 → (xs.getD k ActV.none_).kl ≤ 300 → ∀ j, j < k + 1 → (xs.getD j ActV.none_).s.size ≤ 700 ∧ (xs.getD j ActV.none_).kl ≤ 300) := by
          intro h1 h2 j hj
          by_cases e : j = k
          · rw [e]; exact ⟨h1, h2⟩
          · exact hall j (by omega)
        have HF : Hid ((700 < (xs.getD k ActV.none_).s.size ∨ 300 < (xs.getD k ActV.none_).kl) → lightB xs most = false) := by
          intro h
          unfold lightB
          simp only [decide_eq_false_iff_not]
          rintro ⟨_, q⟩
          have := q k (by rw [HL.out]; exact hlt)
          omega
        clear hall hr hok
        generalize xs.getD k ActV.none_ = x at c5 c6 hs1 hk1 HA HF
        by_cases h7 : 700 < x.s.size
        · have g7 : decide (700 < (x.s.size : Int)) = true := by simp; omega
          go_wp2
          go_ret
          exact ⟨ret_lb (HF.out (.inl h7)).symm, rfl⟩
        · have g7 : decide (700 < (x.s.size : Int)) = false := by simp; omega
          by_cases h3 : 300 < x.kl
          · have g3 : decide (300 < (x.kl : Int)) = true := by simp; omega
            go_wp2
            go_ret
            exact ⟨ret_lb (HF.out (.inr h3)).symm, rfl⟩
          · have g3 : decide (300 < (x.kl : Int)) = false := by simp; omega
            go_wp2
            go_round
            case rel => exact ⟨k + 1, by omega, by go_num, HA.out (by omega) (by omega)⟩
            case measure => simp [intOf]; omega
      · have HF : Hid (lightB xs most = true) := by
          unfold Hid lightB
          simp only [decide_eq_true_eq]
          exact ⟨by rw [HL.out]; omega, fun j hj => hall j (by have := HL.out; omega)⟩
        clear hall
        go_wp2
        go_ret
        exact ⟨ret_lb HF.out.symm, rfl⟩

/- So many noughts. -/
set_option maxRecDepth 100000 in
set_option maxHeartbeats 400000 in
theorem noughts_any (w : World) :
    Calls Try.prog 36 #[.int .i64 16] w fun e w' => e = .returned (.string (bytesOf noughts)) ∧ Below w.heap.size w w' := by
  obtain ⟨i0, hi0, hz0, hz1, hz2⟩ := info_parts info_byte
  obtain ⟨w1, hmk, hown, hgr⟩ := run_make_full (P := Try.prog) w w.heap.size 62 5 i0 (.int .u8 0) 1 Try.underlying62 hi0 hz0 hz1 .i64 .i64 16 (by rw [hz2]; omega) (by unfold maxLen; omega) (Nat.le_refl _)
  have hmk' : (Instr.makeSlice 62 (.int .i64 16) (.int .i64 16)).run Try.prog w = .ok (.slice (some ⟨w.heap.size, 0, none⟩) 16 16) w1 := hmk
  clear hmk
  have hb : Below w.heap.size w w1 := (Below.refl _ _).grown hgr (Nat.le_refl _) (fun k e => by cases e)
  have hr : w1.rangeAt w.heap.size 0 (secV noughts) := fun j v hv => by
    have hj : j < 16 := by
      rcases Nat.lt_or_ge j 16 with q | q
      · exact q
      · rw [List.getElem?_eq_none (by exact q)] at hv; cases hv
    rw [Nat.zero_add, hown.cellAt j (by omega)]
    have e : (madeCells (Value.int .u8 0).cells (16 * 1)).toList = secV noughts := by
      show (madeCells #[Value.int .u8 0] 16).toList = _
      rw [toList_madeCells_one]; rfl
    rw [e]; exact hv
  have hcv := conv_sec 16 16 rfl hr
  have HB : Hid (Below w.heap.size w w1) := hb
  clear hr hown hgr hb hi0 hz0 hz1 hz2
  go_enter Try.func36, Try.ntmps36
  go_wp2
  go_ret
  exact ⟨rfl, HB.out⟩
end Go.Proofs.Ytncjnjlakhohgaa
