/-
What the small calls on a device give: its numbers, whether it has a sector, the write that is to fail.
Copies of rows (slices.Clone), new devices: what New, made and the two Clones give.
-/
import Derived.Test.YtncjnjlakhohgaaQDevDefs
namespace Go.Proofs.Ytncjnjlakhohgaa
open Go.RowKit

theorem ret_b {a b : Bool} (h : a = b) : Ending.returned (.bool a) = .returned (.bool b) := by rw [h]
theorem ret_i {a b : Int} (h : a = b) : Ending.returned (.int .i64 a) = .returned (.int .i64 b) := by rw [h]

set_option maxRecDepth 100000 in
set_option maxHeartbeats 400000 in
theorem size_any {B : Nat} {h : Hd} {d : DV} (w : World) (hd : IsDev B w h d) :
    Calls Try.prog 22 #[.pointer (some ⟨h.p, 0, none⟩)] w fun e w' => e = .returned (.int .i64 (d.fl.length : Int)) ∧ w' = w := by
  obtain ⟨c0, c1, c2, c3, c4, fz⟩ := hd.cells
  clear hd
  go_enter Try.func22, Try.ntmps22
  go_wp2
  go_ret
  exact ⟨rfl, rfl⟩

set_option maxRecDepth 100000 in
set_option maxHeartbeats 400000 in
theorem pending_any {B : Nat} {h : Hd} {d : DV} (w : World) (hd : IsDev B w h d) :
    Calls Try.prog 66 #[.pointer (some ⟨h.p, 0, none⟩)] w fun e w' => e = .returned (.int .i64 (d.pend.length : Int)) ∧ w' = w := by
  obtain ⟨c0, c1, c2, c3, c4, fz⟩ := hd.cells
  obtain ⟨a, cap, e2⟩ := hd.v2
  rw [e2] at c2
  clear hd e2
  go_enter Try.func66, Try.ntmps66
  go_wp2
  go_ret
  exact ⟨rfl, rfl⟩

set_option maxRecDepth 100000 in
set_option maxHeartbeats 400000 in
theorem writes_any {B : Nat} {h : Hd} {d : DV} (w : World) (hd : IsDev B w h d) :
    Calls Try.prog 71 #[.pointer (some ⟨h.p, 0, none⟩)] w fun e w' => e = .returned (.int .i64 (d.wr : Int)) ∧ w' = w := by
  obtain ⟨c0, c1, c2, c3, c4, fz⟩ := hd.cells
  clear hd
  go_enter Try.func71, Try.ntmps71
  go_wp2
  go_ret
  exact ⟨rfl, rfl⟩

def DV.has (d : DV) (at_ : Int) : Bool := decide (0 ≤ at_ ∧ at_ < d.fl.length)

set_option maxRecDepth 100000 in
set_option maxHeartbeats 400000 in
theorem has_any {B : Nat} {h : Hd} {d : DV} (at_ : Int) (w : World) (hd : IsDev B w h d) :
    Calls Try.prog 68 #[.pointer (some ⟨h.p, 0, none⟩), .int .i64 at_] w fun e w' => e = .returned (.bool (d.has at_)) ∧ w' = w := by
  obtain ⟨c0, c1, c2, c3, c4, fz⟩ := hd.cells
  clear hd
  by_cases h0 : 0 ≤ at_
  · have g0 : decide (0 ≤ at_) = true := by simpa using h0
    have HF : Hid (d.has at_ = decide (at_ < (d.fl.length : Int))) := by unfold Hid DV.has; simp [h0]
    go_enter Try.func68, Try.ntmps68
    go_wp2
    go_ret
    exact ⟨ret_b HF.out.symm, rfl⟩
  · have g0 : decide (0 ≤ at_) = false := by simpa using h0
    have HF : Hid (d.has at_ = false) := by unfold Hid DV.has; simp [h0]
    go_enter Try.func68, Try.ntmps68
    go_wp2
    go_ret
    exact ⟨ret_b HF.out.symm, rfl⟩

/- A cell of the device's own block is set. -/
theorem IsDev.setP {B : Nat} {w : World} {h : Hd} {d d' : DV} (hd : IsDev B w h d) (v2 : Value) (i : Nat) (u : Value) (hok : d'.ok) (hf : d'.fl = d.fl) (hs : d'.seen = d.seen)
    (hc : (#[.slice (some ⟨h.bf, 0, none⟩) d.fl.length h.cf, .slice (some ⟨h.bs, 0, none⟩) d.fl.length h.cs, h.v2, .int .i64 (d.wr : Int), .int .i64 d.fail] : Array Value).setIfInBounds i u = #[.slice (some ⟨h.bf, 0, none⟩) d.fl.length h.cf, .slice (some ⟨h.bs, 0, none⟩) d.fl.length h.cs, v2, .int .i64 (d'.wr : Int), .int .i64 d'.fail])
    (hp : w.ownsRow B 123 17 v2 d'.pend.length (wrsV d'.pend)) (hpn : d'.pend = [] → v2 = .slice none 0 0) : IsDev B (w.setCell ⟨h.p, i, none⟩ u) { h with v2 := v2 } d' := by
  obtain ⟨_, cf, hf2, _⟩ := ownsRow_block hd.of
  obtain ⟨_, cs, hs2, _⟩ := ownsRow_block hd.os
  have npf : h.bf ≠ h.p := fun e => by
    have h1 := hd.blk
    rw [← e, hf2] at h1
    cases h1
  have nps : h.bs ≠ h.p := fun e => by
    have h1 := hd.blk
    rw [← e, hs2] at h1
    cases h1
  have npp : ∀ k, v2.ownBlock = some k → k ≠ h.p := fun k hk e => by
    have h1 := hd.blk
    rcases hp.2 with ⟨h0, _⟩ | ⟨g, cap, cur, hv, _, hh, _⟩
    · rw [h0] at hk; cases hk
    · rw [hv] at hk
      have : g = k := by simpa [Value.ownBlock] using hk
      rw [← e, ← this, hh] at h1
      cases h1
  refine ⟨hok, hd.pB, ?_, ?_, ?_, ownsRow_keep hp (fun k e => heap_setCell_other _ _ _ _ (npp k e)), hd.ne, hpn⟩
  · rw [hf]
    show _ = some (Obj.cells #[.slice (some ⟨h.bf, 0, none⟩) d.fl.length h.cf, .slice (some ⟨h.bs, 0, none⟩) d.fl.length h.cs, v2, .int .i64 (d'.wr : Int), .int .i64 d'.fail] 120 (0, 0))
    rw [heap_setCell_same w h.p i _ _ u hd.blk, hc]
  · rw [hf]; exact ownsRow_keep hd.of (fun k e => heap_setCell_other _ _ _ _ (by
      have : h.bf = k := by simpa [Value.ownBlock] using e
      rw [← this]; exact npf))
  · rw [hf, hs]; exact ownsRow_keep hd.os (fun k e => heap_setCell_other _ _ _ _ (by
      have : h.bs = k := by simpa [Value.ownBlock] using e
      rw [← this]; exact nps))

def DV.failing (d : DV) (n : Int) : DV := { d with fail := n }

theorem DV.ok.failing {d : DV} (h : d.ok) {n : Int} (h1 : -1 ≤ n) (h2 : n ≤ 9223372036854775807) : (d.failing n).ok :=
  ⟨h.n1, h.n2, h.same, h.l1, h.l2, h.l3, h.few, h.few2, h1, h2⟩

theorem IsDev.failing {B : Nat} {w : World} {h : Hd} {d : DV} (hd : IsDev B w h d) {n : Int} (h1 : -1 ≤ n) (h2 : n ≤ 9223372036854775807) : IsDev B (w.setCell ⟨h.p, 4, none⟩ (.int .i64 n)) h (d.failing n) :=
  hd.setP h.v2 4 (.int .i64 n) (hd.ok.failing h1 h2) rfl rfl rfl hd.op hd.pn

set_option maxRecDepth 100000 in
set_option maxHeartbeats 400000 in
theorem fail_no {B : Nat} {h : Hd} {d : DV} (n : Int) (w : World) (_hd : IsDev B w h d) (hn : n < 0) :
    Calls Try.prog 31 #[.pointer (some ⟨h.p, 0, none⟩), .int .i64 n] w fun e w' => e = .returned (.iface 112 (.int .i64 1)) ∧ w' = w := by
  go_enter Try.func31, Try.ntmps31
  go_wp2
  go_ret
  exact ⟨rfl, rfl⟩

set_option maxRecDepth 100000 in
set_option maxHeartbeats 400000 in
theorem fail_yes {B : Nat} {h : Hd} {d : DV} (n : Int) (w : World) (hd : IsDev B w h d) (hn : 0 ≤ n) (hm : n ≤ 9223372036854775807) :
    Calls Try.prog 31 #[.pointer (some ⟨h.p, 0, none⟩), .int .i64 n] w fun e w' => e = .returned .nilIface ∧ IsDev B w' h (d.failing n) ∧ Kept h.fp w w' := by
  obtain ⟨c0, c1, c2, c3, c4, fz⟩ := hd.cells
  have HD : Hid (IsDev B w h d) := hd
  clear hd
  go_enter Try.func31, Try.ntmps31
  go_wp2
  go_ret
  exact ⟨rfl, HD.out.failing (by omega) hm, (Kept.refl _ _).setCell (.inl (.inl rfl)) _⟩

set_option maxRecDepth 100000 in
set_option maxHeartbeats 400000 in
theorem fails_never {B : Nat} {h : Hd} {d : DV} (w : World) (hd : IsDev B w h d) (hn : d.fail = -1) :
    Calls Try.prog 69 #[.pointer (some ⟨h.p, 0, none⟩)] w fun e w' => e = .returned (.bool false) ∧ w' = w := by
  obtain ⟨c0, c1, c2, c3, c4, fz⟩ := hd.cells
  rw [hn] at c4
  clear hd hn
  go_enter Try.func69, Try.ntmps69
  go_wp2
  go_ret
  exact ⟨rfl, rfl⟩

set_option maxRecDepth 100000 in
set_option maxHeartbeats 400000 in
theorem fails_some {B : Nat} {h : Hd} {d : DV} (w : World) (hd : IsDev B w h d) (hn : 0 ≤ d.fail) :
    Calls Try.prog 69 #[.pointer (some ⟨h.p, 0, none⟩)] w fun e w' => e = .returned (.bool (decide (d.fail = 0))) ∧ IsDev B w' h (d.failing (d.fail - 1)) ∧ Kept h.fp w w' := by
  obtain ⟨c0, c1, c2, c3, c4, fz⟩ := hd.cells
  have HD : Hid (IsDev B w h (d)) := hd
  have hm := hd.ok.f2
  have g1 : (d.fail == -1) = false := beq_eq_false_iff_ne.2 (by omega)
  have HE : Hid ((d.fail - 1 == -1) = decide (d.fail = 0)) := by
    unfold Hid
    rw [Bool.eq_iff_iff, beq_iff_eq, decide_eq_true_eq]; omega
  clear hd
  go_enter Try.func69, Try.ntmps69
  go_wp2
  go_ret
  exact ⟨ret_b HE.out, HD.out.failing (by omega) (by omega), (Kept.refl _ _).setCell (.inl (.inl rfl)) _⟩
end Go.Proofs.Ytncjnjlakhohgaa

namespace Go.Proofs.Ytncjnjlakhohgaa
open Go.RowKit

def zeroSec : Value := .agg #[.int .u8 0, .int .u8 0, .int .u8 0, .int .u8 0, .int .u8 0, .int .u8 0, .int .u8 0, .int .u8 0, .int .u8 0, .int .u8 0, .int .u8 0, .int .u8 0, .int .u8 0, .int .u8 0, .int .u8 0, .int .u8 0]
def zeroWr : Value := .agg #[.int .i64 0, .int .u8 0, .int .u8 0, .int .u8 0, .int .u8 0, .int .u8 0, .int .u8 0, .int .u8 0, .int .u8 0, .int .u8 0, .int .u8 0, .int .u8 0, .int .u8 0, .int .u8 0, .int .u8 0, .int .u8 0, .int .u8 0]
theorem info_sec : (Try.prog.info? 115).map (fun i => (i.zero, i.size, i.bytes)) = some (some zeroSec, 16, 16) := by kernel_rfl
theorem info_wr : (Try.prog.info? 123).map (fun i => (i.zero, i.size, i.bytes)) = some (some zeroWr, 17, 24) := by kernel_rfl

theorem secV_len (s : List UInt8) : (secV s).length = s.length := by simp [secV]
theorem secsV_len (l : List (List UInt8)) (h : ∀ s ∈ l, s.length = 16) : (secsV l).length = l.length * 16 := by
  induction l with
  | nil => simp [secsV]
  | cons s l ih =>
    have h1 := h s (by simp)
    have h2 := ih (fun x hx => h x (by simp [hx]))
    simp only [secsV, List.map_cons, List.flatten_cons, List.length_append, List.length_cons] at h2 ⊢
    rw [secV_len, h1, h2]; omega
theorem secV_one (s : List UInt8) : ∀ u ∈ secV s, u.oneCell' = true := by
  intro u hu
  obtain ⟨b, _, rfl⟩ := List.mem_map.1 hu
  rfl
theorem secsV_one (l : List (List UInt8)) : ∀ u ∈ secsV l, u.oneCell' = true := by
  intro u hu
  simp only [secsV, List.mem_flatten, List.mem_map] at hu
  obtain ⟨x, ⟨s, _, rfl⟩, hx⟩ := hu
  exact secV_one s u hx
theorem wrV_len (x : Nat × List UInt8) : (wrV x).length = x.2.length + 1 := by simp [wrV, secV]
theorem wrsV_len (l : List (Nat × List UInt8)) (h : ∀ x ∈ l, x.2.length = 16) : (wrsV l).length = l.length * 17 := by
  induction l with
  | nil => simp [wrsV]
  | cons s l ih =>
    have h1 := h s (by simp)
    have h2 := ih (fun x hx => h x (by simp [hx]))
    simp only [wrsV, List.map_cons, List.flatten_cons, List.length_append, List.length_cons] at h2 ⊢
    rw [wrV_len, h1, h2]; omega
theorem wrsV_one (l : List (Nat × List UInt8)) : ∀ u ∈ wrsV l, u.oneCell' = true := by
  intro u hu
  simp only [wrsV, List.mem_flatten, List.mem_map] at hu
  obtain ⟨x, ⟨s, _, rfl⟩, hx⟩ := hu
  simp only [wrV, List.mem_cons] at hx
  rcases hx with rfl | hx
  · rfl
  · exact secV_one s.2 u hx

/- A row that is owned, read as cells to be appended. -/
theorem ownsRow_news {w : World} {B e size g n cap : Nat} {xs : List Value} (h : w.ownsRow B e size (.slice (some ⟨g, 0, none⟩) n cap) n xs) :
    ∀ j u, xs[j]? = some u → w.cell? ((⟨g, 0, none⟩ : Addr).add j) = some u := h.cells (g := g) rfl

theorem ownsRow_empty (w : World) (e size : Nat) : (w.alloc (.cells #[] e)).ownsRow w.heap.size e size (.slice (some ⟨w.heap.size, 0, none⟩) 0 0) 0 [] :=
  ⟨by simp, .inr ⟨w.heap.size, 0, #[], rfl, Nat.le_refl _, heap_alloc_new w _, Nat.le_refl _, by unfold maxLen; omega, by simp, by simp⟩⟩

set_option maxRecDepth 100000 in
set_option maxHeartbeats 400000 in
theorem cloneSec_any {B g cap : Nat} (l : List (List UInt8)) (w : World) (h1 : 1 ≤ l.length) (h2 : l.length ≤ 200) (hl : ∀ s ∈ l, s.length = 16)
    (ho : w.ownsRow B 115 16 (.slice (some ⟨g, 0, none⟩) l.length cap) l.length (secsV l)) :
    Calls Try.prog 70 #[.slice (some ⟨g, 0, none⟩) l.length cap] w fun e w' =>
      ∃ g' cap', e = .returned (.slice (some ⟨g', 0, none⟩) l.length cap') ∧ w'.ownsRow w.heap.size 115 16 (.slice (some ⟨g', 0, none⟩) l.length cap') l.length (secsV l) ∧ Below w.heap.size w w' := by
  obtain ⟨i0, hi, hz0, hz1, hz2⟩ := info_parts info_sec
  have hn := ownsRow_news ho
  have hlen := secsV_len l hl
  have h1c := secsV_one l
  obtain ⟨_, cur, hh, _⟩ := ownsRow_block ho
  have hg : g < w.heap.size := lt_of_some hh
  have HN : Hid (∀ j u, (secsV l)[j]? = some u → (w.alloc (.cells #[] 115)).cell? ((⟨g, 0, none⟩ : Addr).add j) = some u) := fun j u hj => by
    have := hn j u hj
    rw [World.cell?_alloc_lt _ _ _ (World.block_lt_of_cell? w _ this)]; exact this
  have hq : ∀ w : World, (binOp .eql 113 (.slice (some ⟨g, 0, none⟩) l.length cap) (.slice none 0 0)).run Try.prog w = .ok (.bool false) w := fun w => by
    simpa using Lib.run_eql_slice_nil (P := Try.prog) w 113 115 (some ⟨g, 0, none⟩) l.length cap 0 0 Try.underlying113
  clear hn hh
  go_enter Try.func70, Try.ntmps70
  go_wp2_with (at_builtin; refine wpList_append_lies _ rfl _ _ 113 rfl w.heap.size 115 i0 zeroSec 16 16 Try.underlying113 hi hz0 hz1 hz2 rfl (by decide) _ 0 [] rfl (ownsRow_empty w 115 16) ⟨g, 0, none⟩ l.length cap (secsV l) rfl hlen HN.out h1c (by omega) (by unfold maxLen; omega) (by omega) (by simp) _ rfl ?_; intro g' cap' w1 hown hgrow hat hlt)
  rw [Nat.zero_add] at hown
  go_ret
  exact ⟨g', cap', rfl, by simpa using hown, ((Below.refl _ _).alloc (Nat.le_refl _) _).grown (row := some w.heap.size) hgrow (by simp) (fun k e => by
    have : w.heap.size = k := by simpa using e
    omega)⟩

def DV.made (l : List (List UInt8)) (wr : Nat) : DV := ⟨l, l, [], wr, -1⟩

theorem DV.made_ok {l : List (List UInt8)} {wr : Nat} (h1 : 1 ≤ l.length) (h2 : l.length ≤ 200) (hl : ∀ s ∈ l, s.length = 16) (hw : wr ≤ 1000000000) : (DV.made l wr).ok :=
  ⟨h1, h2, rfl, hl, hl, (fun x hx => by cases hx), Nat.zero_le _, hw, (by show (-1 : Int) ≤ -1; decide), (by show (-1 : Int) ≤ _; decide)⟩

set_option maxRecDepth 100000 in
set_option maxHeartbeats 400000 in
theorem made_any {B g cap : Nat} (l : List (List UInt8)) (wr : Nat) (w : World) (h1 : 1 ≤ l.length) (h2 : l.length ≤ 200) (hl : ∀ s ∈ l, s.length = 16) (hw : wr ≤ 1000000000)
    (ho : w.ownsRow B 115 16 (.slice (some ⟨g, 0, none⟩) l.length cap) l.length (secsV l)) (hB : B ≤ w.heap.size) :
    Calls Try.prog 67 #[.slice (some ⟨g, 0, none⟩) l.length cap, .int .i64 (wr : Int)] w fun e w' =>
      ∃ h : Hd, e = .returned (.pointer (some ⟨h.p, 0, none⟩)) ∧ IsDev B w' h (DV.made l wr) ∧ Below w.heap.size w w' ∧ h.bf = g ∧ w.heap.size ≤ h.p ∧ w.heap.size ≤ h.bs ∧ h.v2 = .slice none 0 0 := by
  have HO : Hid (w.ownsRow B 115 16 (.slice (some ⟨g, 0, none⟩) l.length cap) l.length (secsV l)) := ho
  obtain ⟨hbg, cur, hh, _⟩ := ownsRow_block ho
  have hg : g < w.heap.size := lt_of_some hh
  clear ho hh
  go_enter Try.func67, Try.ntmps67
  go_wp2_with fail
  refine (cloneSec_any l w h1 h2 hl HO.out).mono ?_
  rintro e w1 ⟨g', cap', rfl, ho1, hb1⟩
  have HO1 : Hid (w1.ownsRow w.heap.size 115 16 (.slice (some ⟨g', 0, none⟩) l.length cap') l.length (secsV l)) := ho1
  clear ho1
  go_wp2
  go_ret
  have hs1 := hb1.size
  obtain ⟨hbg1, cur1, hh1, _⟩ := ownsRow_block HO1.out
  have hg1 : g' < w1.heap.size := lt_of_some hh1
  refine ⟨⟨w1.heap.size, g, cap, g', cap', .slice none 0 0⟩, rfl, ⟨DV.made_ok h1 h2 hl hw, by show B ≤ w1.heap.size; omega, ?_, ?_, ?_, World.ownsRow_nil _ _ _ _, ?_, fun _ => rfl⟩, hb1.alloc hs1 _, rfl, hs1, hbg1, rfl⟩
  · exact heap_alloc_new w1 _
  · refine ownsRow_keep HO.out (fun k e => ?_)
    have : g = k := by simpa [Value.ownBlock] using e
    subst this
    rw [Below.heap_alloc w1 _ g (by omega), hb1.block g hg]
  · exact ownsRow_base (HO1.out.alloc _) hB
  · show g ≠ g'; omega
end Go.Proofs.Ytncjnjlakhohgaa
