/-
ChainSays: where it ends early, and its rounds.
Files that came in, as they are read.
-/
import Derived.Test.YtjegaljdindfaabGreatDoorQChainLaws
import Derived.Test.YtjegaljdindfaabGreatDoorQLawChained
import Derived.Test.YtjegaljdindfaabGreatDoorQLawLaid0
import Derived.ChangeSlices
namespace Go.Proofs.YtjegaljdindfaabGreatDoor
open Go.RowKit Go.Maps
attribute [local go_sem ↓] Go.wp_at_zero Go.wp_at_succ

set_option maxRecDepth 100000 in
set_option maxHeartbeats 1000000 in
theorem chain_early (la : Option Addr) (len cap : Nat) (fs : List FileV) (root : Int) (lb : Option Addr) (blen bcap : Nat) (xs : List ActV) (w : World) (hF : Files w la len fs) (hlen : len ≤ maxLen) (hA : Acts w lb blen xs) (hbl : blen ≤ maxLen) (hf : lightF fs = false ∨ lightB xs 40 = false) :
    Calls Tryz.prog 3 #[.slice la len cap, .int .i64 root, .slice lb blen bcap] w fun e w' => e = .returned (.bool true) ∧ Below w.heap.size w w' := by
  have HLF : Hid (∀ W : World, Below w.heap.size w W → Calls Tryz.prog 6 #[.slice la len cap] W fun e w' => e = .returned (.bool (lightF fs)) ∧ w' = W) := fun W hb => lightFiles_any la len cap fs W (hF.below hb) hlen
  have HLA : Hid (∀ W : World, Below w.heap.size w W → Calls Tryz.prog 7 #[.slice lb blen bcap, .int .i64 40] W fun e w' => e = .returned (.bool (lightB xs 40)) ∧ w' = W) := fun W hb => light_any lb blen bcap 40 xs W (hA.below hb) hbl (by omega)
  clear hF hA hlen hbl
  generalize lightF fs = b1 at HLF hf
  generalize lightB xs 40 = b2 at HLA hf
  go_enter Tryz.func3, Tryz.ntmps3
  go_wp2_with fail
  refine (stacks_any _).mono ?_
  rintro e w1 ⟨rfl, hb1⟩
  have HB1 := toHid hb1
  clear hb1
  go_wp2_with fail
  refine (HLF.out _ HB1.out).mono ?_
  rintro e w' ⟨rfl, hw⟩
  have hw' := hw.symm
  subst hw'
  clear hw
  cases b1 with
  | false =>
    go_wp2
    go_ret
    exact ⟨rfl, HB1.out⟩
  | true =>
    have hb2 : b2 = false := by simpa using hf
    subst hb2
    clear hf
    go_wp2_with fail
    refine (HLA.out _ HB1.out).mono ?_
    rintro e w' ⟨rfl, hw⟩
    have hw' := hw.symm
    subst hw'
    clear hw
    go_wp2
    go_ret
    exact ⟨rfl, HB1.out⟩

theorem good_few {s : SV} {m : Nat} {c : Int} {l : List Int} (hok : s.ok m) (hg : s.good c l) : ∃ C : Nat, C ≤ 40 ∧ s.good (C : Int) l := by
  cases l with
  | nil => exact ⟨0, by omega, fun n h => by cases h⟩
  | cons n r =>
    obtain ⟨v, h1, h2⟩ := hg n List.mem_cons_self
    have hh := (hok _ _ (SV.file_of h1).2.2).h
    unfold HV.ok at hh
    simp only [decide_eq_true_eq] at hh
    refine ⟨c.toNat, by omega, ?_⟩
    rw [show ((c.toNat : Nat) : Int) = c by omega]
    exact hg

theorem size_actC : (Tryz.prog.info? 43).map (·.size) = some 7 := by kernel_rfl

set_option maxRecDepth 100000 in
set_option maxHeartbeats 4000000 in
theorem chain_rounds (la : Option Addr) (len cap : Nat) (fs : List FileV) (root : Int) (lb : Option Addr) (blen bcap : Nat) (xs : List ActV) (w : World) (hF : Files w la len fs) (hlen : len ≤ maxLen) (hA : Acts w lb blen xs) (hbl : blen ≤ maxLen) (hf1 : lightF fs = true) (hf2 : lightB xs 40 = true) :
    Calls Tryz.prog 3 #[.slice la len cap, .int .i64 root, .slice lb blen bcap] w fun e w' => e = .returned (.bool true) ∧ Below w.heap.size w w' := by
  have HLF : Hid (∀ W : World, Below w.heap.size w W → Calls Tryz.prog 6 #[.slice la len cap] W fun e w' => e = .returned (.bool true) ∧ w' = W) := fun W hb => by
    have := lightFiles_any la len cap fs W (hF.below hb) hlen
    rw [hf1] at this; exact this
  have HLA : Hid (∀ W : World, Below w.heap.size w W → Calls Tryz.prog 7 #[.slice lb blen bcap, .int .i64 40] W fun e w' => e = .returned (.bool true) ∧ w' = W) := fun W hb => by
    have := light_any lb blen bcap 40 xs W (hA.below hb) hbl (by omega)
    rw [hf2] at this; exact this
  have hb40 : blen ≤ 40 := by
    unfold lightB at hf2
    simp only [decide_eq_true_eq] at hf2
    have := hA.1
    omega
  have HLT : Hid (∀ k, k < blen → (xs.getD k ActV.none_).s.size ≤ 10000) := fun k hk => by
    unfold lightB at hf2
    simp only [decide_eq_true_eq] at hf2
    have h1 := hA.1
    have := (hf2.2 k (by omega)).1
    omega
  have HLD : Hid (∀ W : World, Below w.heap.size w W → Calls Tryz.prog 8 #[.slice la len cap] W fun e w' => ∃ (sp mp : Nat) (xs : Nat → Ih) (qs : Nat → Qh), e = .returned (.tuple #[.pointer (some ⟨sp, 0, none⟩), .pointer (some ⟨mp, 0, none⟩), .bool true]) ∧ Lay W.heap.size W w' sp mp xs qs (filesS fs) 500) := fun W hb => by
    unfold lightF at hf1
    simp only [decide_eq_true_eq] at hf1
    have h1 := hF.1
    exact laid_any la len cap fs W (hF.below hb) (by omega) (fun k hk => hf1.2 k (by omega))
  have HAC : Hid (Acts w lb blen xs) := hA
  clear hF hA hlen hbl hf1 hf2
  generalize filesS fs = s at HLD
  go_enter Tryz.func3, Tryz.ntmps3
  go_wp2_with fail
  refine (stacks_any _).mono ?_
  rintro e w1 ⟨rfl, hb1⟩
  have HB1 := toHid hb1
  clear hb1
  go_wp2_with fail
  refine (HLF.out _ HB1.out).mono ?_
  rintro e w' ⟨rfl, hw⟩
  have hw' := hw.symm
  subst hw'
  clear hw
  go_wp2_with fail
  refine (HLA.out _ HB1.out).mono ?_
  rintro e w' ⟨rfl, hw⟩
  have hw' := hw.symm
  subst hw'
  clear hw
  go_wp2_with fail
  refine (HLD.out _ HB1.out).mono ?_
  rintro e w2 ⟨sp, mp, ys, qs, rfl, hL⟩
  have HL := toHid hL
  have HWP := toHid (cwalk_any root w2 hL.prog)
  clear hL HLF HLA HLD
  obtain ⟨hg, hl5, hf0, _⟩ := s.walk_good root
  obtain ⟨C, hC, hgC⟩ := good_few HL.out.prog.ok hg
  have HGC := toHid hgC
  clear hg hgC
  have HRW : Hid (∀ W : World, Below w2.heap.size w2 W → Calls Tryz.prog 10 #[.pointer (some ⟨mp, 0, none⟩), .int .i64 root] W fun e w' => ∃ (a : Option Addr) (cap : Nat), e = .returned (.tuple #[.slice a (s.walk root).1.length cap, .int .i64 (s.walk root).2]) ∧ Nums w' a (s.walk root).1 ∧ (∀ g o, a = some ⟨g, o, none⟩ → W.heap.size ≤ g ∧ (s.walk root).1.length ≤ cap) ∧ Below W.heap.size W w') := fun W hb => rwalk_any root W (HL.out.ref.below hb)
  generalize s.walk root = R at HWP hl5 hf0 HGC HRW
  obtain ⟨l, f⟩ := R
  go_wp2_with fail
  refine HWP.out.mono ?_
  rintro e w3 ⟨a, ac, rfl, hn3, ha3, hb3⟩
  have HY3 : Hid (Yoke w1.heap.size w1 w3 sp mp ys qs s 500 a l C) := ⟨HL.out.below hb3, hn3, fun g o e hf => absurd (HL.out.prog.fpLt hf) (Nat.not_lt.2 (ha3 g o e).1), fun g o e hf => absurd (HL.out.ref.fpLt hf) (Nat.not_lt.2 (ha3 g o e).1), fun g o e => (ha3 g o e).2.1, HGC.out, Nat.le_trans hl5 (by decide), hC⟩
  have HRW3 := toHid (HRW.out w3 hb3)
  clear hn3 ha3 hb3 HWP HRW HL HGC hC
  go_wp2_with fail
  refine HRW3.out.mono ?_
  rintro e w4 ⟨b, bc, rfl, hn4, _, hb4⟩
  have HY4 := toHid (HY3.out.below hb4)
  have HSN := toHid (sameNums_any (c1 := ac) (c2 := bc) l w4 HY4.out.nums hn4 (Nat.le_trans hl5 (by decide)))
  have HSM : Hid (∀ W : World, Calls Tryz.prog 11 #[erV f, .int .i64 f] W fun e w' => e = .returned (.bool true) ∧ w' = W) := fun W => errSame f W hf0
  clear hn4 hb4 HRW3 HY3
  generalize hlen : l.length = ln at HSN
  have HCH : Hid (∀ (m : Nat) (x : ActV) (W : World), Yoked w1.heap.size w1 sp mp m a l C W → m + 3000 < 1000000000 → (-9223372036854775808 ≤ x.a ∧ x.a ≤ 9223372036854775807) → x.s.size ≤ 10000 → Calls Tryz.prog 13 #[.pointer (some ⟨sp, 0, none⟩), .pointer (some ⟨mp, 0, none⟩), .slice a ln ac, .agg #[.string x.kind, .int .i64 x.a, .int .i64 x.b, .int .i64 x.c, .int .i64 x.d, .string x.s, .slice x.ka x.kl x.kc]] W fun e w' => e = .returned (.bool true) ∧ Yoked w1.heap.size w1 sp mp (m + 2000) a l C w') := fun m x W ⟨_, _, _, hy⟩ hm ha ht => by
    rw [← hlen]
    exact chained_any x W hy hm ha ht
  clear hlen hl5
  generalize hef : erV f = ef at HSM
  go_wp2_with fail
  refine (HSM.out _).mono ?_
  rintro e w' ⟨rfl, hw⟩
  have hw' := hw.symm
  subst hw'
  clear hw
  go_wp2_with fail
  refine HSN.out.mono ?_
  rintro e w5 ⟨rfl, hb5⟩
  have HY5 := toHid (HY4.out.below hb5)
  clear hb5 HY4 HSN
  by_cases hfp : 0 < f
  · have gf : decide (0 < f) = true := decide_eq_true hfp
    have HBE : Hid (Below w.heap.size w w5) := HB1.out.trans (HY5.out.lay.bel.mono HB1.out.size)
    go_wp2
    go_ret
    exact ⟨rfl, HBE.out⟩
  · have gf : decide (0 < f) = false := decide_eq_false hfp
    have HY0 : Hid (Yoked w1.heap.size w1 sp mp (500 + 2000 * 0) a l C w5) := ⟨_, _, _, HY5.out⟩
    clear HY5 hfp hf0 hef HSM
    go_wp2
    go_loopw [14] (fun i wr => ∃ k : Nat, k ≤ blen ∧ i = .int .i64 (k : Int) ∧ Yoked w1.heap.size w1 sp mp (500 + 2000 * k) a l C wr) (fun i _ => blen - (intOf i).toNat)
    case atStart => exact ⟨0, Nat.zero_le _, rfl, HY0.out⟩
    case round =>
      clear HY0
      obtain ⟨k, hk, rfl, hy⟩ := hrel
      have HYK := toHid hy
      have hbk : Below w.heap.size w wr := by
        obtain ⟨_, _, _, h⟩ := hy
        exact HB1.out.trans (h.lay.bel.mono HB1.out.size)
      have HBK := toHid hbk
      clear hy hbk
      by_cases hlt : k < blen
      · obtain ⟨blk, off, hla, hrg, hok⟩ := (HAC.out.below HBK.out).2 k hlt
        have hlx := HLT.out k hlt
        generalize xs.getD k ActV.none_ = y at hrg hok hlx
        subst hla
        have HRG := toHid hrg
        have HI : Hid ((Tryz.prog.info? 43).map (·.size) = some y.cells.length) := size_actC
        have HCK := toHid (HCH.out _ y wr HYK.out (by omega) hok.a1 hlx)
        clear hrg hok hlx HCH
        have j0 : (0 : Int) ≤ (k : Int) := by omega
        have j1 : (k : Int) < (blen : Int) := by omega
        go_wp2_with (refine wpList_load_mid (by rfl) 43 (.tmp 73) (by rfl) blk (off + k * 7) (by rfl) y.cells _ HRG.out Tryz.underlying43 rfl HI.out ?_)
        refine HCK.out.mono ?_
        rintro e w6 ⟨rfl, hy6⟩
        have HY6 := toHid hy6
        clear hy6 HCK HYK HBK HRG
        go_wp2
        go_roundw
        case rel =>
          have fin : ∃ k1 : Nat, k1 ≤ blen ∧ Value.int .i64 ((k : Int) + 1) = .int .i64 (k1 : Int) ∧ Yoked w1.heap.size w1 sp mp (500 + 2000 * k1) a l C w6 := ⟨k + 1, by omega, by go_num, by rw [show 500 + 2000 * (k + 1) = 500 + 2000 * k + 2000 by omega]; exact HY6.out⟩
          first | exact fin | ((repeat apply Exists.intro); exact ⟨fin, rfl⟩)
        case measure => simp [intOf]; omega
      · have hke : k = blen := by omega
        have HAS : Hid (Calls Tryz.prog 14 #[.pointer (some ⟨sp, 0, none⟩), .pointer (some ⟨mp, 0, none⟩)] wr fun e w' => e = .returned (.bool true) ∧ Below wr.heap.size wr w') := by
          obtain ⟨_, _, _, h⟩ := HYK.out
          exact asShelf_any wr h.lay (by omega)
        have gk : decide ((k : Int) < (blen : Int)) = false := decide_eq_false (by omega)
        go_wp2_with fail
        refine HAS.out.mono ?_
        rintro e w6 ⟨rfl, hb6⟩
        have HB6 : Hid (Below w.heap.size w w6) := HBK.out.trans (hb6.mono HBK.out.size)
        clear hb6
        go_wp2
        go_ret
        exact ⟨rfl, HB6.out⟩

theorem chain_all (la : Option Addr) (len cap : Nat) (fs : List FileV) (root : Int) (lb : Option Addr) (blen bcap : Nat) (xs : List ActV) (w : World) (hF : Files w la len fs) (hlen : len ≤ maxLen) (hA : Acts w lb blen xs) (hbl : blen ≤ maxLen) :
    Calls Tryz.prog 3 #[.slice la len cap, .int .i64 root, .slice lb blen bcap] w fun e w' => e = .returned (.bool true) ∧ Below w.heap.size w w' := by
  cases h1 : lightF fs with
  | false => exact chain_early la len cap fs root lb blen bcap xs w hF hlen hA hbl (.inl h1)
  | true =>
    cases h2 : lightB xs 40 with
    | false => exact chain_early la len cap fs root lb blen bcap xs w hF hlen hA hbl (.inr h2)
    | true => exact chain_rounds la len cap fs root lb blen bcap xs w hF hlen hA hbl h1 h2
end Go.Proofs.YtjegaljdindfaabGreatDoor

namespace Go.Proofs.YtjegaljdindfaabGreatDoor
open Go.RowKit Go.ChangeShapes Go.WideShapes

section
variable {H : Type} {enc : TypeId × Value → H}

theorem open_nums {w : World} {fuel : Nat} {v : Value} {x : DataW H × List MemPlace} (h : DataW.trod enc Tryz.prog w 0 (fun _ => true) true fuel 31 [v] = some x) :
    ∃ ia il ic is, v = .slice ia il ic ∧ il ≤ maxLen ∧ Nums w ia is ∧ is.length = il := by
  rcases open_ints Tryz.underlying31 Tryz.underlying3 (by kernel_rfl) h with ⟨hcs, _⟩ | ⟨a, len, cap, zs, hcs, _, hl, hm, hz, _, hcell, _⟩
  · have : v = .slice none 0 0 := by simpa using hcs
    exact ⟨none, 0, 0, [], this, Nat.zero_le _, Nums.nil _ _, rfl⟩
  · have : v = .slice (some a) len cap := by simpa using hcs
    simp only [if_true] at hz
    refine ⟨some a, len, cap, zs.take len, this, by omega, fun j hj => ?_, by rw [List.length_take]; omega⟩
    have hj' : j < len := by rw [List.length_take] at hj; omega
    obtain ⟨b, off, spot⟩ := a
    have h0 := hcell 0 (by omega)
    have hspot : spot = none := by simpa [Addr.add] using World.cell?_spot h0
    subst hspot
    refine ⟨b, off, rfl, ?_⟩
    rw [← Go.WideShapes.add_plain, hcell j (by omega)]
    simp [List.getD, hj']

set_option maxRecDepth 100000 in
theorem open_headC {w : World} {fuel : Nat} {cs : List Value} {x : DataW H × List MemPlace} (h : DataW.trod enc Tryz.prog w 0 (fun _ => true) true fuel 60 cs = some x) :
    ∃ c p b : Int, cs = [.int .i64 c, .int .i64 p, .int .i64 b] := by
  obtain ⟨xs, n, _, _, hl, hlen, hf⟩ := DataW.trod_struct Tryz.underlying60 h
  have h7 : cs.length = 3 := by rw [hl]; kernel_rfl
  have c3 : Tryz.prog.cellsOf 3 = 1 := by kernel_rfl
  match cs, h7, xs, hlen with
  | [v0, v1, v2], _, [y0, y1, y2], _ =>
    have f0 : DataW.trod enc Tryz.prog w 0 (fun _ => true) true n 3 [v0] = some y0 := by simpa [c3] using hf 0 _ rfl
    have f1 : DataW.trod enc Tryz.prog w 0 (fun _ => true) true n 3 [v1] = some y1 := by simpa [c3] using hf 1 _ rfl
    have f2 : DataW.trod enc Tryz.prog w 0 (fun _ => true) true n 3 [v2] = some y2 := by simpa [c3] using hf 2 _ rfl
    obtain ⟨a0, e0, _, _⟩ := DataW.trod_int Tryz.underlying3 f0
    obtain ⟨a1, e1, _, _⟩ := DataW.trod_int Tryz.underlying3 f1
    obtain ⟨a2, e2, _, _⟩ := DataW.trod_int Tryz.underlying3 f2
    simp only [List.cons.injEq, and_true] at e0 e1 e2
    subst e0 e1 e2
    exact ⟨a0, a1, a2, rfl⟩

set_option maxRecDepth 100000 in
theorem open_file {w : World} {fuel : Nat} {cs : List Value} {x : DataW H × List MemPlace} (h : DataW.trod enc Tryz.prog w 0 (fun _ => true) true fuel 62 cs = some x) :
    ∃ y : FileV, cs = y.cells ∧ FileOk w y := by
  obtain ⟨xs, n, _, _, hl, hlen, hf⟩ := DataW.trod_struct Tryz.underlying62 h
  have h5 : cs.length = 5 := by rw [hl]; kernel_rfl
  have cb : Tryz.prog.cellsOf 4 = 1 := by kernel_rfl
  have ch : Tryz.prog.cellsOf 60 = 3 := by kernel_rfl
  have ci : Tryz.prog.cellsOf 31 = 1 := by kernel_rfl
  match cs, h5, xs, hlen with
  | [v0, v1, v2, v3, v4], _, [y0, y1, y2], _ =>
    have f0 : DataW.trod enc Tryz.prog w 0 (fun _ => true) true n 4 [v0] = some y0 := by simpa [cb] using hf 0 _ rfl
    have f1 : DataW.trod enc Tryz.prog w 0 (fun _ => true) true n 60 [v1, v2, v3] = some y1 := by simpa [ch] using hf 1 _ rfl
    have f2 : DataW.trod enc Tryz.prog w 0 (fun _ => true) true n 31 [v4] = some y2 := by simpa [ci] using hf 2 _ rfl
    obtain ⟨b0, e0, _⟩ := DataW.trod_bool Tryz.underlying4 f0
    obtain ⟨c, p, b, e1⟩ := open_headC f1
    obtain ⟨ia, il, ic, is, e2, m2, hn, hi⟩ := open_nums f2
    simp only [List.cons.injEq, and_true] at e0 e1
    obtain ⟨rfl, rfl, rfl⟩ := e1
    subst e0 e2
    exact ⟨⟨b0, c, p, b, ia, il, ic, is⟩, rfl, hn, hi, m2⟩

theorem open_files {w : World} {la : Option Addr} {len cap fuel : Nat} {x : DataW H × List MemPlace} (h : DataW.trod enc Tryz.prog w 0 (fun _ => true) true fuel 22 [.slice la len cap] = some x) :
    ∃ xs, Files w la len xs ∧ len ≤ maxLen := by
  rcases Go.Deep.open_slice Tryz.underlying22 h with ⟨hcs, _⟩ | ⟨a, len', cap', m, n, D, Pl, hcs, _, hl, hm, hmm, _, hx⟩
  · simp at hcs
    obtain ⟨rfl, rfl, rfl⟩ := hcs
    exact ⟨[], ⟨rfl, fun k hk => by omega⟩, by unfold maxLen; omega⟩
  · simp at hcs
    obtain ⟨rfl, rfl, rfl⟩ := hcs
    have c47 : Tryz.prog.cellsOf 62 = 5 := by kernel_rfl
    simp only [if_true] at hmm
    subst hmm
    have : ∀ i, i < len → ∃ y : FileV, (∀ j, j < 5 → w.cell? (a.add (i * 5 + j)) = y.cells[j]?) ∧ FileOk w y := fun i hi => by
      obtain ⟨cs', h1, h2⟩ := hx i (by omega)
      obtain ⟨y, rfl, hok⟩ := open_file h2
      obtain ⟨_, _, hc⟩ := World.cells?_some h1
      rw [c47] at hc
      exact ⟨y, fun j hj => by rw [← Go.Deep.add_add]; exact hc j hj, hok⟩
    refine ⟨(List.range len).attach.map fun i => Classical.choose (this i.1 (List.mem_range.1 i.2)), ⟨by simp, fun k hk => ?_⟩, by omega⟩
    have hk' := this k hk
    have e : ((List.range len).attach.map fun i => Classical.choose (this i.1 (List.mem_range.1 i.2))).getD k FileV.none_ = Classical.choose (this k hk) := by
      simp [List.getD, hk]
    rw [e]
    obtain ⟨hc, hok⟩ := Classical.choose_spec (this k hk)
    obtain ⟨b, off, spot⟩ := a
    have hc0 := (Classical.choose_spec (this 0 (by omega))).1 0 (by omega)
    have hspot : spot = none := by
      have h0 : w.cell? ((⟨b, off, spot⟩ : Addr).add (0 * 5 + 0)) = some (.bool (Classical.choose (this 0 (by omega))).there) := hc0.trans rfl
      simpa [Addr.add] using World.cell?_spot h0
    subst hspot
    refine ⟨b, off, rfl, fun j v hv => ?_, hok⟩
    have hj : j < 5 := by
      rcases Nat.lt_or_ge j 5 with q | q
      · exact q
      · rw [List.getElem?_eq_none (by exact q)] at hv; cases hv
    have := hc j hj
    rw [Go.WideShapes.add_plain, hv] at this
    rw [show off + k * 5 + j = off + (k * 5 + j) by omega]; exact this
end
end Go.Proofs.YtjegaljdindfaabGreatDoor
