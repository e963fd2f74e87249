/-
Copies of rows (slices.Clone), new devices: what New, made and the two Clones give.
-/
import Derived.Test.YtmallmchibdkgaaDevGets
namespace Go.Proofs.Ytmallmchibdkgaa
open Go.RowKit

def zeroSec : Value := .agg #[.int .u8 0, .int .u8 0, .int .u8 0, .int .u8 0, .int .u8 0, .int .u8 0, .int .u8 0, .int .u8 0, .int .u8 0, .int .u8 0, .int .u8 0, .int .u8 0, .int .u8 0, .int .u8 0, .int .u8 0, .int .u8 0]
def zeroWr : Value := .agg #[.int .i64 0, .int .u8 0, .int .u8 0, .int .u8 0, .int .u8 0, .int .u8 0, .int .u8 0, .int .u8 0, .int .u8 0, .int .u8 0, .int .u8 0, .int .u8 0, .int .u8 0, .int .u8 0, .int .u8 0, .int .u8 0, .int .u8 0]
theorem info_sec : (Try.prog.info? 105).map (fun i => (i.zero, i.size, i.bytes)) = some (some zeroSec, 16, 16) := by kernel_rfl
theorem info_wr : (Try.prog.info? 113).map (fun i => (i.zero, i.size, i.bytes)) = some (some zeroWr, 17, 24) := by kernel_rfl

theorem secV_len (s : List UInt8) : (secV s).length = s.length := by simp [secV]
theorem secsV_len (l : List (List UInt8)) (h : ∀ s ∈ l, s.length = 16) : (secsV l).length = l.length * 16 := by
  induction l with
  | nil => simp [secsV]
  | cons s l ih =>
    have h1 := h s (by simp)
    have h2 := ih (fun x hx => h x (by simp [hx]))
    simp only [secsV, List.map_cons, List.flatten_cons, List.length_append, List.length_cons] at h2 ⊢
    rw [secV_len, h1, h2]; omega
theorem secV_one (s : List UInt8) : ∀ u ∈ secV s, u.oneCell' = true := by
  intro u hu
  obtain ⟨b, _, rfl⟩ := List.mem_map.1 hu
  rfl
theorem secsV_one (l : List (List UInt8)) : ∀ u ∈ secsV l, u.oneCell' = true := by
  intro u hu
  simp only [secsV, List.mem_flatten, List.mem_map] at hu
  obtain ⟨x, ⟨s, _, rfl⟩, hx⟩ := hu
  exact secV_one s u hx
theorem wrV_len (x : Nat × List UInt8) : (wrV x).length = x.2.length + 1 := by simp [wrV, secV]
theorem wrsV_len (l : List (Nat × List UInt8)) (h : ∀ x ∈ l, x.2.length = 16) : (wrsV l).length = l.length * 17 := by
  induction l with
  | nil => simp [wrsV]
  | cons s l ih =>
    have h1 := h s (by simp)
    have h2 := ih (fun x hx => h x (by simp [hx]))
    simp only [wrsV, List.map_cons, List.flatten_cons, List.length_append, List.length_cons] at h2 ⊢
    rw [wrV_len, h1, h2]; omega
theorem wrsV_one (l : List (Nat × List UInt8)) : ∀ u ∈ wrsV l, u.oneCell' = true := by
  intro u hu
  simp only [wrsV, List.mem_flatten, List.mem_map] at hu
  obtain ⟨x, ⟨s, _, rfl⟩, hx⟩ := hu
  simp only [wrV, List.mem_cons] at hx
  rcases hx with rfl | hx
  · rfl
  · exact secV_one s.2 u hx

/- A row that is owned, read as cells to be appended. -/
theorem ownsRow_news {w : World} {B e size g n cap : Nat} {xs : List Value} (h : w.ownsRow B e size (.slice (some ⟨g, 0, none⟩) n cap) n xs) :
    ∀ j u, xs[j]? = some u → w.cell? ((⟨g, 0, none⟩ : Addr).add j) = some u := h.cells (g := g) rfl

theorem ownsRow_empty (w : World) (e size : Nat) : (w.alloc (.cells #[] e)).ownsRow w.heap.size e size (.slice (some ⟨w.heap.size, 0, none⟩) 0 0) 0 [] :=
  ⟨by simp, .inr ⟨w.heap.size, 0, #[], rfl, Nat.le_refl _, heap_alloc_new w _, Nat.le_refl _, by unfold maxLen; omega, by simp, by simp⟩⟩

set_option maxRecDepth 100000 in
set_option maxHeartbeats 400000 in
theorem cloneSec_any {B g cap : Nat} (l : List (List UInt8)) (w : World) (h1 : 1 ≤ l.length) (h2 : l.length ≤ 200) (hl : ∀ s ∈ l, s.length = 16)
    (ho : w.ownsRow B 105 16 (.slice (some ⟨g, 0, none⟩) l.length cap) l.length (secsV l)) :
    Calls Try.prog 61 #[.slice (some ⟨g, 0, none⟩) l.length cap] w fun e w' =>
      ∃ g' cap', e = .returned (.slice (some ⟨g', 0, none⟩) l.length cap') ∧ w'.ownsRow w.heap.size 105 16 (.slice (some ⟨g', 0, none⟩) l.length cap') l.length (secsV l) ∧ Below w.heap.size w w' := by
  obtain ⟨i0, hi, hz0, hz1, hz2⟩ := info_parts info_sec
  have hn := ownsRow_news ho
  have hlen := secsV_len l hl
  have h1c := secsV_one l
  obtain ⟨_, cur, hh, _⟩ := ownsRow_block ho
  have hg : g < w.heap.size := lt_of_some hh
  have HN : Hid (∀ j u, (secsV l)[j]? = some u → (w.alloc (.cells #[] 105)).cell? ((⟨g, 0, none⟩ : Addr).add j) = some u) := fun j u hj => by
    have := hn j u hj
    rw [World.cell?_alloc_lt _ _ _ (World.block_lt_of_cell? w _ this)]; exact this
  have hq : ∀ w : World, (binOp .eql 103 (.slice (some ⟨g, 0, none⟩) l.length cap) (.slice none 0 0)).run Try.prog w = .ok (.bool false) w := fun w => by
    simpa using Lib.run_eql_slice_nil (P := Try.prog) w 103 105 (some ⟨g, 0, none⟩) l.length cap 0 0 Try.underlying103
  clear hn hh
  go_enter Try.func61, Try.ntmps61
  go_wp2_with (at_builtin; refine wpList_append_lies _ rfl _ _ 103 rfl w.heap.size 105 i0 zeroSec 16 16 Try.underlying103 hi hz0 hz1 hz2 rfl (by decide) _ 0 [] rfl (ownsRow_empty w 105 16) ⟨g, 0, none⟩ l.length cap (secsV l) rfl hlen HN.out h1c (by omega) (by unfold maxLen; omega) (by omega) (by simp) _ rfl ?_; intro g' cap' w1 hown hgrow hat hlt)
  rw [Nat.zero_add] at hown
  go_ret
  exact ⟨g', cap', rfl, by simpa using hown, ((Below.refl _ _).alloc (Nat.le_refl _) _).grown (row := some w.heap.size) hgrow (by simp) (fun k e => by
    have : w.heap.size = k := by simpa using e
    omega)⟩

set_option maxRecDepth 100000 in
set_option maxHeartbeats 400000 in
theorem cloneWr_any {B g cap : Nat} (l : List (Nat × List UInt8)) (w : World) (h1 : 1 ≤ l.length) (h2 : l.length ≤ 1000000000) (hl : ∀ x ∈ l, x.2.length = 16)
    (ho : w.ownsRow B 113 17 (.slice (some ⟨g, 0, none⟩) l.length cap) l.length (wrsV l)) :
    Calls Try.prog 64 #[.slice (some ⟨g, 0, none⟩) l.length cap] w fun e w' =>
      ∃ g' cap', e = .returned (.slice (some ⟨g', 0, none⟩) l.length cap') ∧ w'.ownsRow w.heap.size 113 17 (.slice (some ⟨g', 0, none⟩) l.length cap') l.length (wrsV l) ∧ Below w.heap.size w w' := by
  obtain ⟨i0, hi, hz0, hz1, hz2⟩ := info_parts info_wr
  have hn := ownsRow_news ho
  have hlen := wrsV_len l hl
  have h1c := wrsV_one l
  obtain ⟨_, cur, hh, _⟩ := ownsRow_block ho
  have hg : g < w.heap.size := lt_of_some hh
  have HN : Hid (∀ j u, (wrsV l)[j]? = some u → (w.alloc (.cells #[] 113)).cell? ((⟨g, 0, none⟩ : Addr).add j) = some u) := fun j u hj => by
    have := hn j u hj
    rw [World.cell?_alloc_lt _ _ _ (World.block_lt_of_cell? w _ this)]; exact this
  have hq : ∀ w : World, (binOp .eql 108 (.slice (some ⟨g, 0, none⟩) l.length cap) (.slice none 0 0)).run Try.prog w = .ok (.bool false) w := fun w => by
    simpa using Lib.run_eql_slice_nil (P := Try.prog) w 108 113 (some ⟨g, 0, none⟩) l.length cap 0 0 Try.underlying108
  clear hn hh
  go_enter Try.func64, Try.ntmps64
  go_wp2_with (at_builtin; refine wpList_append_lies _ rfl _ _ 108 rfl w.heap.size 113 i0 zeroWr 17 24 Try.underlying108 hi hz0 hz1 hz2 rfl (by decide) _ 0 [] rfl (ownsRow_empty w 113 17) ⟨g, 0, none⟩ l.length cap (wrsV l) rfl hlen HN.out h1c (by omega) (by unfold maxLen; omega) (by omega) (by simp) _ rfl ?_; intro g' cap' w1 hown hgrow hat hlt)
  rw [Nat.zero_add] at hown
  go_ret
  exact ⟨g', cap', rfl, by simpa using hown, ((Below.refl _ _).alloc (Nat.le_refl _) _).grown (row := some w.heap.size) hgrow (by simp) (fun k e => by
    have : w.heap.size = k := by simpa using e
    omega)⟩

set_option maxRecDepth 100000 in
set_option maxHeartbeats 400000 in
theorem cloneWr_nil (w : World) :
    Calls Try.prog 64 #[.slice none 0 0] w fun e w' => e = .returned (.slice none 0 0) ∧ w' = w := by
  have hq : ∀ w : World, (binOp .eql 108 (.slice none 0 0) (.slice none 0 0)).run Try.prog w = .ok (.bool true) w := fun w => by
    simpa using Lib.run_eql_slice_nil (P := Try.prog) w 108 113 none 0 0 0 0 Try.underlying108
  go_enter Try.func64, Try.ntmps64
  go_wp2
  go_ret
  exact ⟨rfl, rfl⟩

def DV.made (l : List (List UInt8)) (wr : Nat) : DV := ⟨l, l, [], wr, -1⟩

theorem DV.made_ok {l : List (List UInt8)} {wr : Nat} (h1 : 1 ≤ l.length) (h2 : l.length ≤ 200) (hl : ∀ s ∈ l, s.length = 16) (hw : wr ≤ 1000000000) : (DV.made l wr).ok :=
  ⟨h1, h2, rfl, hl, hl, (fun x hx => by cases hx), Nat.zero_le _, hw, (by show (-1 : Int) ≤ -1; decide), (by show (-1 : Int) ≤ _; decide)⟩

set_option maxRecDepth 100000 in
set_option maxHeartbeats 400000 in
theorem made_any {B g cap : Nat} (l : List (List UInt8)) (wr : Nat) (w : World) (h1 : 1 ≤ l.length) (h2 : l.length ≤ 200) (hl : ∀ s ∈ l, s.length = 16) (hw : wr ≤ 1000000000)
    (ho : w.ownsRow B 105 16 (.slice (some ⟨g, 0, none⟩) l.length cap) l.length (secsV l)) (hB : B ≤ w.heap.size) :
    Calls Try.prog 58 #[.slice (some ⟨g, 0, none⟩) l.length cap, .int .i64 (wr : Int)] w fun e w' =>
      ∃ h : Hd, e = .returned (.pointer (some ⟨h.p, 0, none⟩)) ∧ IsDev B w' h (DV.made l wr) ∧ Below w.heap.size w w' ∧ h.bf = g ∧ w.heap.size ≤ h.p ∧ w.heap.size ≤ h.bs ∧ h.v2 = .slice none 0 0 := by
  have HO : Hid (w.ownsRow B 105 16 (.slice (some ⟨g, 0, none⟩) l.length cap) l.length (secsV l)) := ho
  obtain ⟨hbg, cur, hh, _⟩ := ownsRow_block ho
  have hg : g < w.heap.size := lt_of_some hh
  clear ho hh
  go_enter Try.func58, Try.ntmps58
  go_wp2_with fail
  refine (cloneSec_any l w h1 h2 hl HO.out).mono ?_
  rintro e w1 ⟨g', cap', rfl, ho1, hb1⟩
  have HO1 : Hid (w1.ownsRow w.heap.size 105 16 (.slice (some ⟨g', 0, none⟩) l.length cap') l.length (secsV l)) := ho1
  clear ho1
  go_wp2
  go_ret
  have hs1 := hb1.size
  obtain ⟨hbg1, cur1, hh1, _⟩ := ownsRow_block HO1.out
  have hg1 : g' < w1.heap.size := lt_of_some hh1
  refine ⟨⟨w1.heap.size, g, cap, g', cap', .slice none 0 0⟩, rfl, ⟨DV.made_ok h1 h2 hl hw, by show B ≤ w1.heap.size; omega, ?_, ?_, ?_, World.ownsRow_nil _ _ _ _, ?_, fun _ => rfl⟩, hb1.alloc hs1 _, rfl, hs1, hbg1, rfl⟩
  · exact heap_alloc_new w1 _
  · refine ownsRow_keep HO.out (fun k e => ?_)
    have : g = k := by simpa [Value.ownBlock] using e
    subst this
    rw [Below.heap_alloc w1 _ g (by omega), hb1.block g hg]
  · exact ownsRow_base (HO1.out.alloc _) hB
  · show g ≠ g'; omega
end Go.Proofs.Ytmallmchibdkgaa
