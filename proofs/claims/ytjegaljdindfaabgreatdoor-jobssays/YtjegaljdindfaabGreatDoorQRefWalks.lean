/-
Acts that came in: how a list of them lies in memory, how it is read, and whether it is few and short (LightActs).
How the document's own device lies in memory: the same numbers, in lists of texts.
The document's own device: what its calls give.
-/
import Derived.Test.YtjegaljdindfaabGreatDoorQDevOf
import Derived.ProofKit
import Derived.OpenShut
import Derived.ShutString
import Derived.Deep.Grids
import Derived.BigRegion
namespace Go.Proofs.YtjegaljdindfaabGreatDoor
open Go.RowKit Go.ChangeShapes Go.WideShapes

structure ActV where
  kind : ByteArray
  a : Int
  b : Int
  c : Int
  d : Int
  s : ByteArray
  ka : Option Addr
  kl : Nat
  kc : Nat
  ks : List Bool

def ActV.none_ : ActV := ⟨⟨#[]⟩, 0, 0, 0, 0, ⟨#[]⟩, none, 0, 0, []⟩

def ActV.cells (x : ActV) : List Value := [.string x.kind, .int .i64 x.a, .int .i64 x.b, .int .i64 x.c, .int .i64 x.d, .string x.s, .slice x.ka x.kl x.kc]

structure ActOk (w : World) (x : ActV) : Prop where
  k1 : x.kind.size ≤ maxLen
  s1 : x.s.size ≤ maxLen
  a1 : -9223372036854775808 ≤ x.a ∧ x.a ≤ 9223372036854775807
  kl1 : x.kl ≤ maxLen
  keep : Bools w x.ka x.kl x.ks
  kn : x.ka = none → x.kc = 0

def Acts (w : World) (la : Option Addr) (len : Nat) (xs : List ActV) : Prop :=
  xs.length = len ∧ ∀ k, k < len → ∃ b off, la = some ⟨b, off, none⟩ ∧ w.rangeAt b (off + k * 7) (xs.getD k ActV.none_).cells ∧ ActOk w (xs.getD k ActV.none_)

theorem rangeAt_below {w w' : World} {b o : Nat} {cs : List Value} (h : w.rangeAt b o cs) (hb : Below w.heap.size w w') : w'.rangeAt b o cs := fun j v hv => by
  have := h j v hv
  rw [hb.cell (World.block_lt_of_cell? w _ this)]; exact this

theorem Acts.below {w w' : World} {la : Option Addr} {len : Nat} {xs : List ActV} (h : Acts w la len xs) (hb : Below w.heap.size w w') : Acts w' la len xs := by
  refine ⟨h.1, fun k hk => ?_⟩
  obtain ⟨b, off, e, hr, ho⟩ := h.2 k hk
  exact ⟨b, off, e, rangeAt_below hr hb, ho.k1, ho.s1, ho.a1, ho.kl1, ho.keep.below hb, ho.kn⟩

section
variable {H : Type} {enc : TypeId × Value → H}

theorem open_boolsB {w : World} {fuel : Nat} {v : Value} {x : DataW H × List MemPlace} (h : DataW.trod enc Tryz.prog w 0 (fun _ => true) true fuel 41 [v] = some x) :
    ∃ ka kl kc ks, v = .slice ka kl kc ∧ kl ≤ maxLen ∧ Bools w ka kl ks ∧ (ka = none → kc = 0) := by
  rcases Go.Deep.open_bools Tryz.underlying41 Tryz.underlying4 (by kernel_rfl) h with ⟨hcs, _⟩ | ⟨a, len, cap, Bf, hcs, _, hl, hm, _, hcell⟩
  · have : v = .slice none 0 0 := by simpa using hcs
    exact ⟨none, 0, 0, [], this, by unfold maxLen; omega, ⟨rfl, fun j hj => by omega⟩, fun _ => rfl⟩
  · have : v = .slice (some a) len cap := by simpa using hcs
    refine ⟨some a, len, cap, (List.range len).map Bf, this, by omega, ⟨by simp, fun j hj => ?_⟩, fun e => by cases e⟩
    obtain ⟨b, off, spot⟩ := a
    have h0 := hcell 0 (by omega)
    have hspot : spot = none := by simpa [Addr.add] using World.cell?_spot h0
    subst hspot
    refine ⟨b, off, rfl, ?_⟩
    rw [← Go.WideShapes.add_plain, hcell j (by omega)]
    simp [List.getD, hj]

set_option maxRecDepth 100000 in
theorem open_act {w : World} {fuel : Nat} {cs : List Value} {x : DataW H × List MemPlace} (h : DataW.trod enc Tryz.prog w 0 (fun _ => true) true fuel 43 cs = some x) :
    ∃ y : ActV, cs = y.cells ∧ ActOk w y := by
  obtain ⟨xs, n, _, _, hl, hlen, hf⟩ := DataW.trod_struct Tryz.underlying43 h
  have h7 : cs.length = 7 := by rw [hl]; kernel_rfl
  have c9 : Tryz.prog.cellsOf 9 = 1 := by kernel_rfl
  have c3 : Tryz.prog.cellsOf 3 = 1 := by kernel_rfl
  have c45 : Tryz.prog.cellsOf 41 = 1 := by kernel_rfl
  match cs, h7, xs, hlen with
  | [v0, v1, v2, v3, v4, v5, v6], _, [y0, y1, y2, y3, y4, y5, y6], _ =>
    have f0 : DataW.trod enc Tryz.prog w 0 (fun _ => true) true n 9 [v0] = some y0 := by simpa [c9] using hf 0 _ rfl
    have f1 : DataW.trod enc Tryz.prog w 0 (fun _ => true) true n 3 [v1] = some y1 := by simpa [c3] using hf 1 _ rfl
    have f2 : DataW.trod enc Tryz.prog w 0 (fun _ => true) true n 3 [v2] = some y2 := by simpa [c3] using hf 2 _ rfl
    have f3 : DataW.trod enc Tryz.prog w 0 (fun _ => true) true n 3 [v3] = some y3 := by simpa [c3] using hf 3 _ rfl
    have f4 : DataW.trod enc Tryz.prog w 0 (fun _ => true) true n 3 [v4] = some y4 := by simpa [c3] using hf 4 _ rfl
    have f5 : DataW.trod enc Tryz.prog w 0 (fun _ => true) true n 9 [v5] = some y5 := by simpa [c9] using hf 5 _ rfl
    have f6 : DataW.trod enc Tryz.prog w 0 (fun _ => true) true n 41 [v6] = some y6 := by simpa [c45] using hf 6 _ rfl
    obtain ⟨s0, e0, _, m0⟩ := DataW.trod_string Tryz.underlying9 f0
    obtain ⟨a1, e1, _, w1⟩ := DataW.trod_int Tryz.underlying3 f1
    obtain ⟨a2, e2, _, _⟩ := DataW.trod_int Tryz.underlying3 f2
    obtain ⟨a3, e3, _, _⟩ := DataW.trod_int Tryz.underlying3 f3
    obtain ⟨a4, e4, _, _⟩ := DataW.trod_int Tryz.underlying3 f4
    obtain ⟨s5, e5, _, m5⟩ := DataW.trod_string Tryz.underlying9 f5
    obtain ⟨ka, kl, kc, ks, e6, m6, hk, hkn⟩ := open_boolsB f6
    simp only [List.cons.injEq, and_true] at e0 e1 e2 e3 e4 e5
    subst e0 e1 e2 e3 e4 e5 e6
    have b1 := bounds_i64 w1
    exact ⟨⟨s0, a1, a2, a3, a4, s5, ka, kl, kc, ks⟩, rfl, m0, m5, ⟨b1.1, b1.2⟩, m6, hk, hkn⟩

theorem open_acts {w : World} {la : Option Addr} {len cap fuel : Nat} {x : DataW H × List MemPlace} (h : DataW.trod enc Tryz.prog w 0 (fun _ => true) true fuel 23 [.slice la len cap] = some x) :
    ∃ xs, Acts w la len xs ∧ len ≤ maxLen := by
  rcases Go.Deep.open_slice Tryz.underlying23 h with ⟨hcs, _⟩ | ⟨a, len', cap', m, n, D, Pl, hcs, _, hl, hm, hmm, _, hx⟩
  · simp at hcs
    obtain ⟨rfl, rfl, rfl⟩ := hcs
    exact ⟨[], ⟨rfl, fun k hk => by omega⟩, by unfold maxLen; omega⟩
  · simp at hcs
    obtain ⟨rfl, rfl, rfl⟩ := hcs
    have c47 : Tryz.prog.cellsOf 43 = 7 := by kernel_rfl
    simp only [if_true] at hmm
    subst hmm
    have : ∀ i, i < len → ∃ y : ActV, (∀ j, j < 7 → w.cell? (a.add (i * 7 + j)) = y.cells[j]?) ∧ ActOk w y := fun i hi => by
      obtain ⟨cs', h1, h2⟩ := hx i (by omega)
      obtain ⟨y, rfl, hok⟩ := open_act h2
      obtain ⟨_, _, hc⟩ := World.cells?_some h1
      rw [c47] at hc
      exact ⟨y, fun j hj => by rw [← Go.Deep.add_add]; exact hc j hj, hok⟩
    refine ⟨(List.range len).attach.map fun i => Classical.choose (this i.1 (List.mem_range.1 i.2)), ⟨by simp, fun k hk => ?_⟩, by omega⟩
    have hk' := this k hk
    have e : ((List.range len).attach.map fun i => Classical.choose (this i.1 (List.mem_range.1 i.2))).getD k ActV.none_ = Classical.choose (this k hk) := by
      simp [List.getD, hk]
    rw [e]
    obtain ⟨hc, hok⟩ := Classical.choose_spec (this k hk)
    obtain ⟨b, off, spot⟩ := a
    have hc0 := (Classical.choose_spec (this 0 (by omega))).1 0 (by omega)
    have hspot : spot = none := by
      have h0 : w.cell? ((⟨b, off, spot⟩ : Addr).add (0 * 7 + 0)) = some (.string (Classical.choose (this 0 (by omega))).kind) := hc0.trans rfl
      simpa [Addr.add] using World.cell?_spot h0
    subst hspot
    refine ⟨b, off, rfl, fun j v hv => ?_, hok⟩
    have hj : j < 7 := by
      rcases Nat.lt_or_ge j 7 with q | q
      · exact q
      · rw [List.getElem?_eq_none (by exact q)] at hv; cases hv
    have := hc j hj
    rw [Go.WideShapes.add_plain, hv] at this
    rw [show off + k * 7 + j = off + (k * 7 + j) by omega]; exact this
end

def lightB (xs : List ActV) (most : Nat) : Bool := decide (xs.length ≤ most ∧ ∀ k, k < xs.length → (xs.getD k ActV.none_).s.size ≤ 700 ∧ (xs.getD k ActV.none_).kl ≤ 300)

theorem ret_lb {a b : Bool} (h : a = b) : Ending.returned (.bool a) = .returned (.bool b) := by rw [h]

set_option maxRecDepth 100000 in
set_option maxHeartbeats 400000 in
theorem light_any (la : Option Addr) (len cap most : Nat) (xs : List ActV) (w : World) (hT : Acts w la len xs) (_hn : len ≤ maxLen) (hm : most ≤ 100) :
    Calls Tryz.prog 7 #[.slice la len cap, .int .i64 (most : Int)] w fun e w' => e = .returned (.bool (lightB xs most)) ∧ w' = w := by
  obtain ⟨hlen, hT⟩ := hT
  by_cases h20 : most < len
  · have HF : Hid (lightB xs most = false) := by unfold Hid lightB; simp; omega
    clear hT
    go_enter Tryz.func7, Tryz.ntmps7
    go_wp2
    go_ret
    exact ⟨ret_lb HF.out.symm, rfl⟩
  · have HT : Hid (∀ k, k < len → ∃ b off, la = some ⟨b, off, none⟩ ∧ w.rangeAt b (off + k * 7) (xs.getD k ActV.none_).cells ∧ ActOk w (xs.getD k ActV.none_)) := hT
    have HL : Hid (xs.length = len) := hlen
    clear hT hlen
    go_enter Tryz.func7, Tryz.ntmps7
    go_wp2
    go_loop [5] (fun i => ∃ k : Nat, k ≤ len ∧ i = .int .i64 k ∧ ∀ j, j < k → (xs.getD j ActV.none_).s.size ≤ 700 ∧ (xs.getD j ActV.none_).kl ≤ 300) (fun i => len - (intOf i).toNat)
    case atStart => exact ⟨0, Nat.zero_le _, rfl, fun j hj => by omega⟩
    case round =>
      obtain ⟨k, hk, rfl, hall⟩ := hrel
      by_cases hlt : k < len
      · obtain ⟨b, off, rfl, hr, hok⟩ := HT.out k hlt
        have c5 : w.cell? ⟨b, off + k * 7 + 5, none⟩ = some (.string (xs.getD k ActV.none_).s) := hr 5 _ rfl
        have c6 : w.cell? ⟨b, off + k * 7 + 6, none⟩ = some (.slice (xs.getD k ActV.none_).ka (xs.getD k ActV.none_).kl (xs.getD k ActV.none_).kc) := hr 6 _ rfl
        have hs1 := hok.s1
        have hk1 := hok.kl1
        unfold maxLen at hs1 hk1
        have HA : Hid ((xs.getD k ActV.none_).s.size ≤ 700 → (xs.getD k ActV.none_).kl ≤ 300 → ∀ j, j < k + 1 → (xs.getD j ActV.none_).s.size ≤ 700 ∧ (xs.getD j ActV.none_).kl ≤ 300) := by
          intro h1 h2 j hj
          by_cases e : j = k
          · rw [e]; exact ⟨h1, h2⟩
          · exact hall j (by omega)
        have HF : Hid ((700 < (xs.getD k ActV.none_).s.size ∨ 300 < (xs.getD k ActV.none_).kl) → lightB xs most = false) := by
          intro h
          unfold lightB
          simp only [decide_eq_false_iff_not]
          rintro ⟨_, q⟩
          have := q k (by rw [HL.out]; exact hlt)
          omega
        clear hall hr hok
        generalize xs.getD k ActV.none_ = x at c5 c6 hs1 hk1 HA HF
        by_cases h7 : 700 < x.s.size
        · have g7 : decide (700 < (x.s.size : Int)) = true := by simp; omega
          go_wp2
          go_ret
          exact ⟨ret_lb (HF.out (.inl h7)).symm, rfl⟩
        · have g7 : decide (700 < (x.s.size : Int)) = false := by simp; omega
          by_cases h3 : 300 < x.kl
          · have g3 : decide (300 < (x.kl : Int)) = true := by simp; omega
            go_wp2
            go_ret
            exact ⟨ret_lb (HF.out (.inr h3)).symm, rfl⟩
          · have g3 : decide (300 < (x.kl : Int)) = false := by simp; omega
            go_wp2
            go_round
            case rel => exact ⟨k + 1, by omega, by go_num, HA.out (by omega) (by omega)⟩
            case measure => simp [intOf]; omega
      · have HF : Hid (lightB xs most = true) := by
          unfold Hid lightB
          simp only [decide_eq_true_eq]
          exact ⟨by rw [HL.out]; omega, fun j hj => hall j (by have := HL.out; omega)⟩
        clear hall
        go_wp2
        go_ret
        exact ⟨ret_lb HF.out.symm, rfl⟩

/- So many noughts. -/
set_option maxRecDepth 100000 in
set_option maxHeartbeats 400000 in
theorem noughts_any (w : World) :
    Calls Tryz.prog 38 #[.int .i64 16] w fun e w' => e = .returned (.string (bytesOf noughts)) ∧ Below w.heap.size w w' := by
  obtain ⟨i0, hi0, hz0, hz1, hz2⟩ := info_parts info_byte
  obtain ⟨w1, hmk, hown, hgr⟩ := run_make_full (P := Tryz.prog) w w.heap.size 132 5 i0 (.int .u8 0) 1 Tryz.underlying132 hi0 hz0 hz1 .i64 .i64 16 (by rw [hz2]; omega) (by unfold maxLen; omega) (Nat.le_refl _)
  have hmk' : (Instr.makeSlice 132 (.int .i64 16) (.int .i64 16)).run Tryz.prog w = .ok (.slice (some ⟨w.heap.size, 0, none⟩) 16 16) w1 := hmk
  clear hmk
  have hb : Below w.heap.size w w1 := (Below.refl _ _).grown hgr (Nat.le_refl _) (fun k e => by cases e)
  have hr : w1.rangeAt w.heap.size 0 (secV noughts) := fun j v hv => by
    have hj : j < 16 := by
      rcases Nat.lt_or_ge j 16 with q | q
      · exact q
      · rw [List.getElem?_eq_none (by exact q)] at hv; cases hv
    rw [Nat.zero_add, hown.cellAt j (by omega)]
    have e : (madeCells (Value.int .u8 0).cells (16 * 1)).toList = secV noughts := by
      show (madeCells #[Value.int .u8 0] 16).toList = _
      rw [toList_madeCells_one]; rfl
    rw [e]; exact hv
  have hcv := conv_sec 16 16 rfl hr
  have HB : Hid (Below w.heap.size w w1) := hb
  clear hr hown hgr hb hi0 hz0 hz1 hz2
  go_enter Tryz.func38, Tryz.ntmps38
  go_wp2
  go_ret
  exact ⟨rfl, HB.out⟩
end Go.Proofs.YtjegaljdindfaabGreatDoor

namespace Go.Proofs.YtjegaljdindfaabGreatDoor
open Go.RowKit
attribute [local go_sem ↓] Go.wp_at_zero Go.wp_at_succ

structure Rh where
  p : Nat
  bf : Nat
  cf : Nat
  v1 : Value
  v2 : Value

def flS (l : List (List UInt8)) : List Value := l.map fun s => .string (bytesOf s)
def atS (l : List (Nat × List UInt8)) : List Value := l.map fun x => .int .i64 (x.1 : Int)
def whS (l : List (Nat × List UInt8)) : List Value := l.map fun x => .string (bytesOf x.2)

def Rh.fp (q : Rh) (k : Nat) : Prop := k = q.p ∨ k = q.bf ∨ q.v1.ownBlock = some k ∨ q.v2.ownBlock = some k

structure IsRef (B : Nat) (w : World) (q : Rh) (d : DV) : Prop where
  pB : B ≤ q.p
  blk : w.heap[q.p]? = some (.cells #[.slice (some ⟨q.bf, 0, none⟩) d.fl.length q.cf, q.v1, q.v2, .int .i64 d.fail, .int .i64 (d.wr : Int)] 140 (0, 0))
  of : w.ownsRow B 9 1 (.slice (some ⟨q.bf, 0, none⟩) d.fl.length q.cf) d.fl.length (flS d.fl)
  o1 : w.ownsRow B 3 1 q.v1 d.pend.length (atS d.pend)
  o2 : w.ownsRow B 9 1 q.v2 d.pend.length (whS d.pend)
  ne : q.v2.ownBlock ≠ some q.bf

theorem info_str : (Tryz.prog.info? 9).map (fun i => (i.zero, i.size, i.bytes)) = some (some (.string ⟨#[]⟩), 1, 16) := by kernel_rfl
theorem info_int : (Tryz.prog.info? 3).map (fun i => (i.zero, i.size, i.bytes)) = some (some (.int .i64 0), 1, 8) := by kernel_rfl

theorem IsRef.keep {B : Nat} {w w' : World} {q : Rh} {d : DV} (hd : IsRef B w q d) (hk : ∀ k, q.fp k → w'.heap[k]? = w.heap[k]?) : IsRef B w' q d :=
  ⟨hd.pB, by rw [hk _ (.inl rfl)]; exact hd.blk, ownsRow_keep hd.of (fun k e => hk k (.inr (.inl (by simpa [Value.ownBlock] using e.symm)))), ownsRow_keep hd.o1 (fun k e => hk k (.inr (.inr (.inl e)))), ownsRow_keep hd.o2 (fun k e => hk k (.inr (.inr (.inr e)))), hd.ne⟩

theorem IsRef.lt {B : Nat} {w : World} {q : Rh} {d : DV} (hd : IsRef B w q d) : ∀ k, q.fp k → B ≤ k ∧ k < w.heap.size := by
  intro k hk
  rcases hk with rfl | rfl | hk | hk
  · exact ⟨hd.pB, lt_of_some hd.blk⟩
  · obtain ⟨hb, cur, hh, _⟩ := ownsRow_block hd.of; exact ⟨hb, lt_of_some hh⟩
  · exact hd.o1.lt k hk
  · exact hd.o2.lt k hk

/- What kind of cells a block of it holds. -/
theorem ownsRow_kind {w : World} {B e size n : Nat} {v : Value} {xs : List Value} (h : w.ownsRow B e size v n xs) (k : Nat) (hk : v.ownBlock = some k) : ∃ cur, w.heap[k]? = some (.cells cur e (0, 0)) := by
  rcases h.2 with ⟨q, _⟩ | ⟨g, cap, cur, q, _, hg, _⟩
  · rw [q] at hk; cases hk
  · rw [q] at hk
    have : g = k := by simpa [Value.ownBlock] using hk
    subst this
    exact ⟨cur, hg⟩

theorem IsRef.kinds {B : Nat} {w : World} {q : Rh} {d : DV} (hd : IsRef B w q d) (k : Nat) (hk : q.fp k) : ∃ cur t, w.heap[k]? = some (.cells cur t (0, 0)) ∧ (t = 140 ∨ t = 9 ∨ t = 3) := by
  rcases hk with rfl | rfl | hk | hk
  · exact ⟨_, _, hd.blk, .inl rfl⟩
  · obtain ⟨_, cur, hh, _⟩ := ownsRow_block hd.of; exact ⟨cur, _, hh, .inr (.inl rfl)⟩
  · obtain ⟨cur, hh⟩ := ownsRow_kind hd.o1 k hk; exact ⟨cur, _, hh, .inr (.inr rfl)⟩
  · obtain ⟨cur, hh⟩ := ownsRow_kind hd.o2 k hk; exact ⟨cur, _, hh, .inr (.inl rfl)⟩

theorem IsDev.kinds {B : Nat} {w : World} {h : Hd} {d : DV} (hd : IsDev B w h d) (k : Nat) (hk : h.fp k) : ∃ cur t, w.heap[k]? = some (.cells cur t (0, 0)) ∧ (t = 194 ∨ t = 191 ∨ t = 220) := by
  rcases hk with rfl | rfl | rfl | hk
  · exact ⟨_, _, hd.blk, .inl rfl⟩
  · obtain ⟨_, cur, hh, _⟩ := ownsRow_block hd.of; exact ⟨cur, _, hh, .inr (.inl rfl)⟩
  · obtain ⟨_, cur, hh, _⟩ := ownsRow_block hd.os; exact ⟨cur, _, hh, .inr (.inl rfl)⟩
  · obtain ⟨cur, hh⟩ := ownsRow_kind hd.op k hk; exact ⟨cur, _, hh, .inr (.inr rfl)⟩

/- The two never share a block. -/
theorem apart_kinds {B B' : Nat} {w : World} {h : Hd} {q : Rh} {d d' : DV} (hd : IsDev B w h d) (hr : IsRef B' w q d') : ∀ k, h.fp k → ¬ q.fp k := by
  intro k h1 h2
  obtain ⟨c1, t1, e1, p1⟩ := hd.kinds k h1
  obtain ⟨c2, t2, e2, p2⟩ := hr.kinds k h2
  rw [e1] at e2
  simp only [Option.some.injEq, Obj.cells.injEq] at e2
  obtain ⟨_, rfl, _⟩ := e2
  rcases p1 with rfl | rfl | rfl <;> rcases p2 with p2 | p2 | p2 <;> cases p2

theorem IsRef.cells {B : Nat} {w : World} {q : Rh} {d : DV} (hd : IsRef B w q d) :
    w.cell? ⟨q.p, 0, none⟩ = some (.slice (some ⟨q.bf, 0, none⟩) d.fl.length q.cf) ∧ w.cell? ⟨q.p, 1, none⟩ = some q.v1 ∧ w.cell? ⟨q.p, 2, none⟩ = some q.v2 ∧ w.cell? ⟨q.p, 3, none⟩ = some (.int .i64 d.fail) ∧ w.cell? ⟨q.p, 4, none⟩ = some (.int .i64 (d.wr : Int)) ∧ ∀ j, w.frozen? ⟨q.p, j, none⟩ = false := by
  have hb := hd.blk
  refine ⟨?_, ?_, ?_, ?_, ?_, fun j => frozen_of_row w q.p j _ _ hb⟩ <;> rw [cell_of_row w q.p _ _ _ _ hb] <;> rfl

theorem ownsRow_shape {w : World} {B e size n : Nat} {v : Value} {xs : List Value} (h : w.ownsRow B e size v n xs) : ∃ a cap, v = .slice a n cap := by
  rcases h.2 with ⟨h0, h1⟩ | ⟨g, cap, cur, hv, _⟩
  · exact ⟨none, 0, by rw [h0, h1]⟩
  · exact ⟨_, cap, hv⟩

/- One element of a row that is owned. -/
theorem ownsRow_cell {w : World} {B e n : Nat} {v : Value} {xs : List Value} (h : w.ownsRow B e 1 v n xs) (k : Nat) (hk : k < n) : ∃ g cap, v = .slice (some ⟨g, 0, none⟩) n cap ∧ w.cell? ⟨g, k, none⟩ = xs[k]? ∧ g < w.heap.size ∧ w.frozen? ⟨g, k, none⟩ = false := by
  obtain ⟨g, cap, hv, _, hg⟩ := h.form (by omega)
  subst hv
  exact ⟨g, cap, rfl, h.cellAt k (by omega), hg, h.frozenAt k⟩

theorem IsRef.apart {B : Nat} {w : World} {q : Rh} {d : DV} (hd : IsRef B w q d) : q.bf ≠ q.p ∧ q.v1.ownBlock ≠ some q.p ∧ q.v2.ownBlock ≠ some q.p ∧ q.v1.ownBlock ≠ some q.bf ∧ (∀ k, q.v1.ownBlock = some k → q.v2.ownBlock ≠ some k) := by
  obtain ⟨_, cf, hf2, _⟩ := ownsRow_block hd.of
  have hp := hd.blk
  refine ⟨fun e => ?_, fun e => ?_, fun e => ?_, fun e => ?_, fun k e1 e2 => ?_⟩
  · rw [← e, hf2] at hp; cases hp
  · obtain ⟨cur, hh⟩ := ownsRow_kind hd.o1 _ e; rw [hh] at hp; cases hp
  · obtain ⟨cur, hh⟩ := ownsRow_kind hd.o2 _ e; rw [hh] at hp; cases hp
  · obtain ⟨cur, hh⟩ := ownsRow_kind hd.o1 _ e; rw [hh] at hf2; cases hf2
  · obtain ⟨c1, h1⟩ := ownsRow_kind hd.o1 _ e1
    obtain ⟨c2, h2⟩ := ownsRow_kind hd.o2 _ e2
    rw [h1] at h2; cases h2
end Go.Proofs.YtjegaljdindfaabGreatDoor

namespace Go.Proofs.YtjegaljdindfaabGreatDoor
open Go.RowKit
attribute [local go_sem ↓] Go.wp_at_zero Go.wp_at_succ

theorem ret_s {a b : ByteArray} (h : a = b) : Ending.returned (.string a) = .returned (.string b) := by rw [h]
theorem val_s {a b : ByteArray} (h : a = b) : Value.string a = Value.string b := by rw [h]

/- The last of the writes there, else what is flushed. -/
def lastTo (d : DV) (i : Nat) : Nat → List UInt8
  | 0 => d.fl.getD i []
  | k + 1 => if (d.pend.getD k (0, [])).1 = i then (d.pend.getD k (0, [])).2 else lastTo d i k

theorem lastTo_yes {d : DV} {i k : Nat} (e : (d.pend.getD k (0, [])).1 = i) : lastTo d i (k + 1) = (d.pend.getD k (0, [])).2 := by
  show (if _ then _ else _) = _
  rw [if_pos e]
theorem lastTo_no {d : DV} {i k : Nat} (e : ¬ (d.pend.getD k (0, [])).1 = i) : lastTo d i (k + 1) = lastTo d i k := by
  show (if _ then _ else _) = _
  rw [if_neg e]

theorem flS_at (l : List (List UInt8)) (i : Nat) (h : i < l.length) : (flS l)[i]? = some (.string (bytesOf (l.getD i []))) := by
  simp [flS, List.getD, List.getElem?_eq_getElem h]
theorem atS_at (l : List (Nat × List UInt8)) (i : Nat) (h : i < l.length) : (atS l)[i]? = some (.int .i64 ((l.getD i (0, [])).1 : Int)) := by
  simp [atS, List.getD, List.getElem?_eq_getElem h]
theorem whS_at (l : List (Nat × List UInt8)) (i : Nat) (h : i < l.length) : (whS l)[i]? = some (.string (bytesOf (l.getD i (0, [])).2)) := by
  simp [whS, List.getD, List.getElem?_eq_getElem h]

set_option maxRecDepth 100000 in
set_option maxHeartbeats 400000 in
theorem seen_any {B : Nat} {q : Rh} {d : DV} (i : Nat) (w : World) (hd : IsRef B w q d) (hi : i < d.fl.length) (hp : d.pend.length ≤ 1000000000) :
    Calls Tryz.prog 150 #[.pointer (some ⟨q.p, 0, none⟩), .int .i64 (i : Int)] w fun e w' => e = .returned (.string (bytesOf (lastTo d i d.pend.length))) ∧ w' = w := by
  obtain ⟨c0, c1, c2, c3, c4, fz⟩ := hd.cells
  obtain ⟨a1, k1, e1⟩ := ownsRow_shape hd.o1
  obtain ⟨a2, k2, e2⟩ := ownsRow_shape hd.o2
  have cf := hd.of.cellAt i (by omega)
  rw [flS_at _ _ hi] at cf
  have HD : Hid (IsRef B w q d) := hd
  have HE1 : Hid (q.v1 = .slice a1 d.pend.length k1) := e1
  have HE2 : Hid (q.v2 = .slice a2 d.pend.length k2) := e2
  rw [e1] at c1
  rw [e2] at c2
  clear hd fz c3 c4 e1 e2
  have hl0 : lastTo d i 0 = d.fl.getD i [] := rfl
  rw [← hl0] at cf
  clear hl0
  generalize hL : lastTo d i 0 = L0 at cf
  have HL : Hid (lastTo d i 0 = L0) := hL
  clear hL
  go_enter Tryz.func150, Tryz.ntmps150
  go_wp2
  go_loop [5, 6] (fun x i' => ∃ k : Nat, k ≤ d.pend.length ∧ i' = .int .i64 k ∧ x = .string (bytesOf (lastTo d i k))) (fun _ i' => d.pend.length - (intOf i').toNat)
  case atStart => exact ⟨0, Nat.zero_le _, rfl, val_s (by rw [HL.out])⟩
  case round =>
    obtain ⟨k, hk, rfl, rfl⟩ := hrel
    by_cases hlt : k < d.pend.length
    · obtain ⟨g1, z1, f1, q1, _⟩ := ownsRow_cell HD.out.o1 k hlt
      obtain ⟨g2, z2, f2, q2, _⟩ := ownsRow_cell HD.out.o2 k hlt
      rw [HE1.out] at f1
      rw [HE2.out] at f2
      cases f1
      cases f2
      rw [atS_at _ _ hlt] at q1
      rw [whS_at _ _ hlt] at q2
      have HY : Hid ((d.pend.getD k (0, [])).1 = i → lastTo d i (k + 1) = (d.pend.getD k (0, [])).2) := fun e => lastTo_yes e
      have HN : Hid (¬ (d.pend.getD k (0, [])).1 = i → lastTo d i (k + 1) = lastTo d i k) := fun e => lastTo_no e
      generalize d.pend.getD k (0, []) = x at q1 q2 HY HN
      generalize lastTo d i k = Lk at HN ⊢
      by_cases hx : x.1 = i
      · have g1 : ((x.1 : Int) == (i : Int)) = true := beq_iff_eq.2 (by omega)
        go_wp2
        go_round
        case rel => exact ⟨k + 1, by omega, by go_num, val_s (by rw [HY.out hx])⟩
        case measure => simp [intOf]; omega
      · have g1 : ((x.1 : Int) == (i : Int)) = false := beq_eq_false_iff_ne.2 (by omega)
        go_wp2
        go_round
        case rel => exact ⟨k + 1, by omega, by go_num, val_s (by rw [HN.out hx])⟩
        case measure => simp [intOf]; omega
    · have hkn : k = d.pend.length := by omega
      subst hkn
      go_wp2
      go_ret
      exact ⟨rfl, rfl⟩

theorem bytesOf_append (a b : List UInt8) : bytesOf a ++ bytesOf b = bytesOf (a ++ b) := by
  apply ByteArray.ext
  simp [bytesOf]

set_option maxRecDepth 100000 in
set_option maxHeartbeats 400000 in
theorem refBytes_any {B : Nat} {q : Rh} {d : DV} (w : World) (hd : IsRef B w q d) (hf : d.fl.length ≤ 200) (hl : ∀ s ∈ d.fl, s.length = 16) :
    Calls Tryz.prog 154 #[.pointer (some ⟨q.p, 0, none⟩)] w fun e w' => e = .returned (.string (bytesOf d.fl.flatten)) ∧ w' = w := by
  obtain ⟨c0, c1, c2, c3, c4, fz⟩ := hd.cells
  have HD : Hid (IsRef B w q d) := hd
  have HL : Hid (∀ s ∈ d.fl, s.length = 16) := hl
  clear hd fz c1 c2 c3 c4 hl
  go_enter Tryz.func154, Tryz.ntmps154
  go_wp2
  go_loop [3, 4] (fun x i' => ∃ k : Nat, k ≤ d.fl.length ∧ i' = .int .i64 k ∧ x = .string (bytesOf (d.fl.take k).flatten)) (fun _ i' => d.fl.length - (intOf i').toNat)
  case atStart => exact ⟨0, Nat.zero_le _, rfl, rfl⟩
  case round =>
    obtain ⟨k, hk, rfl, rfl⟩ := hrel
    by_cases hlt : k < d.fl.length
    · have cf := HD.out.of.cellAt k (by omega)
      rw [flS_at _ _ hlt] at cf
      have h16 : ∀ j, j ≤ d.fl.length → (d.fl.take j).flatten.length = j * 16 := fun j hj => by
        have := secsV_len (d.fl.take j) (fun s hs => HL.out s (List.mem_of_mem_take hs))
        rw [secsV_flat, secV_len, List.length_take] at this
        omega
      have HC : Hid (bytesOf (d.fl.take k).flatten ++ bytesOf (d.fl.getD k []) = bytesOf (d.fl.take (k + 1)).flatten) := by
        unfold Hid
        have e : d.fl.getD k [] = d.fl[k] := by simp [List.getD, List.getElem?_eq_getElem hlt]
        rw [bytesOf_append, List.take_succ_eq_append_getElem hlt, List.flatten_append, e, List.flatten_singleton]
      have hs1 : (bytesOf (d.fl.take k).flatten).size ≤ 3200 := by
        show (d.fl.take k).flatten.toArray.size ≤ 3200
        rw [List.size_toArray, h16 k hk]; omega
      have hs2 : (bytesOf (d.fl.getD k [])).size ≤ 16 := by
        show (d.fl.getD k []).toArray.size ≤ 16
        rw [List.size_toArray, List.getD_eq_getElem?_getD, List.getElem?_eq_getElem hlt]
        exact Nat.le_of_eq (HL.out _ (List.getElem_mem hlt))
      clear h16
      generalize bytesOf (d.fl.getD k []) = y at cf HC hs2
      generalize bytesOf (d.fl.take k).flatten = x at HC hs1 ⊢
      go_wp2
      go_round
      case rel => exact ⟨k + 1, by omega, by go_num, val_s HC.out⟩
      case measure => simp [intOf]; omega
    · have hkn : k = d.fl.length := by omega
      subst hkn
      rw [List.take_of_length_le (Nat.le_refl _)]
      go_wp2
      go_ret
      exact ⟨rfl, rfl⟩

def DV.atWrote (d : DV) (i : Nat) (s : List UInt8) : DV := d.wrote i s

/- Its own numbers are set: the cells of its block, one after the other. -/
theorem IsRef.setP {B : Nat} {w : World} {q : Rh} {d d' : DV} (hd : IsRef B w q d) (v1 v2 : Value) (i : Nat) (u : Value) (hf : d'.fl = d.fl)
    (hc : (#[.slice (some ⟨q.bf, 0, none⟩) d.fl.length q.cf, q.v1, q.v2, .int .i64 d.fail, .int .i64 (d.wr : Int)] : Array Value).setIfInBounds i u = #[.slice (some ⟨q.bf, 0, none⟩) d.fl.length q.cf, v1, v2, .int .i64 d'.fail, .int .i64 (d'.wr : Int)])
    (h1 : w.ownsRow B 3 1 v1 d'.pend.length (atS d'.pend)) (h2 : w.ownsRow B 9 1 v2 d'.pend.length (whS d'.pend)) (hne : v2.ownBlock ≠ some q.bf) : IsRef B (w.setCell ⟨q.p, i, none⟩ u) { q with v1 := v1, v2 := v2 } d' := by
  obtain ⟨_, cf, hf2, _⟩ := ownsRow_block hd.of
  have hp := hd.blk
  have npf : q.bf ≠ q.p := hd.apart.1
  have np1 : ∀ k, v1.ownBlock = some k → k ≠ q.p := fun k e e2 => by
    obtain ⟨cur, hh⟩ := ownsRow_kind h1 k e; rw [e2] at hh; rw [hh] at hp; cases hp
  have np2 : ∀ k, v2.ownBlock = some k → k ≠ q.p := fun k e e2 => by
    obtain ⟨cur, hh⟩ := ownsRow_kind h2 k e; rw [e2] at hh; rw [hh] at hp; cases hp
  refine ⟨hd.pB, ?_, ?_, ownsRow_keep h1 (fun k e => heap_setCell_other _ _ _ _ (np1 k e)), ownsRow_keep h2 (fun k e => heap_setCell_other _ _ _ _ (np2 k e)), hne⟩
  · rw [hf]
    show _ = some (Obj.cells #[.slice (some ⟨q.bf, 0, none⟩) d.fl.length q.cf, v1, v2, .int .i64 d'.fail, .int .i64 (d'.wr : Int)] 140 (0, 0))
    rw [heap_setCell_same w q.p i _ _ u hp, hc]
  · rw [hf]; exact ownsRow_keep hd.of (fun k e => heap_setCell_other _ _ _ _ (by
      have : q.bf = k := by simpa [Value.ownBlock] using e
      rw [← this]; exact npf))

theorem IsRef.failing {B : Nat} {w : World} {q : Rh} {d : DV} (hd : IsRef B w q d) (n : Int) : IsRef B (w.setCell ⟨q.p, 3, none⟩ (.int .i64 n)) q (d.failing n) :=
  hd.setP q.v1 q.v2 3 (.int .i64 n) rfl rfl hd.o1 hd.o2 hd.ne

set_option maxRecDepth 100000 in
set_option maxHeartbeats 400000 in
theorem refWrite_bound {B : Nat} {q : Rh} {d : DV} (at_ : Int) (s : ByteArray) (w : World) (hd : IsRef B w q d) (hn : d.has at_ = false ∨ s.size ≠ 16) :
    Calls Tryz.prog 80 #[.pointer (some ⟨q.p, 0, none⟩), .int .i64 at_, .string s] w fun e w' => e = .returned (.int .i64 1) ∧ w' = w := by
  obtain ⟨c0, c1, c2, c3, c4, fz⟩ := hd.cells
  clear hd fz c1 c2 c3 c4
  by_cases h0 : at_ < 0
  · have g0 : decide (at_ < 0) = true := by simpa using h0
    go_enter Tryz.func80, Tryz.ntmps80
    go_wp2
    go_ret
    exact ⟨rfl, rfl⟩
  · have g0 : decide (at_ < 0) = false := by simpa using h0
    by_cases h1 : (d.fl.length : Int) ≤ at_
    · have g1 : decide ((d.fl.length : Int) ≤ at_) = true := by simpa using h1
      go_enter Tryz.func80, Tryz.ntmps80
      go_wp2
      go_ret
      exact ⟨rfl, rfl⟩
    · have g1 : decide ((d.fl.length : Int) ≤ at_) = false := by simpa using h1
      have h16 : ((s.size : Int) != 16) = true := by
        rcases hn with hn | hn
        · unfold DV.has at hn; simp at hn; omega
        · simp; omega
      go_enter Tryz.func80, Tryz.ntmps80
      go_wp2
      go_ret
      exact ⟨rfl, rfl⟩

set_option maxRecDepth 100000 in
set_option maxHeartbeats 400000 in
theorem refWrite_io {B : Nat} {q : Rh} {d : DV} (i : Nat) (s : ByteArray) (w : World) (hd : IsRef B w q d) (hs : s.size = 16) (hi : i < d.fl.length) (hf : d.fail = 0) :
    Calls Tryz.prog 80 #[.pointer (some ⟨q.p, 0, none⟩), .int .i64 (i : Int), .string s] w fun e w' => e = .returned (.int .i64 7) ∧ IsRef B w' q (d.failing (-1)) ∧ Kept q.fp w w' := by
  obtain ⟨c0, c1, c2, c3, c4, fz⟩ := hd.cells
  have fz3 := fz 3
  rw [hf] at c3
  have HD : Hid (IsRef B w q d) := hd
  have g0 : decide ((i : Int) < 0) = false := by simp
  have g1 : decide ((d.fl.length : Int) ≤ (i : Int)) = false := by simp; omega
  have h16 : ((s.size : Int) != 16) = false := by simp; omega
  clear hd fz c1 c2 c4
  go_enter Tryz.func80, Tryz.ntmps80
  go_wp2
  go_ret
  exact ⟨rfl, HD.out.failing (-1), (Kept.refl _ _).setCell (.inl (.inl rfl)) _⟩
end Go.Proofs.YtjegaljdindfaabGreatDoor
