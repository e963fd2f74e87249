/-
Desks as sectors (C3): in the program and in the document's answer: what each call gives.
-/
import Derived.Test.YtmallmchibdkgaaShapeDesk
import Derived.BigRegion
namespace Go.Proofs.Ytmallmchibdkgaa
open Go.RowKit
attribute [local go_sem ↓] Go.wp_at_zero Go.wp_at_succ

set_option maxRecDepth 100000 in
set_option maxHeartbeats 400000 in
theorem pair_any (x y : Int) (w : World) (h0 : 0 ≤ x) (h1 : x < 256) (h2 : 0 ≤ y) (h3 : y < 256) :
    Calls Try.prog 71 #[.int .u8 x, .int .u8 y] w fun e w' => e = .returned (.int .i64 (x + y * 256)) ∧ w' = w := by
  go_enter Try.func71, Try.ntmps71
  go_wp2
  go_ret
  exact ⟨retI (by omega), rfl⟩

set_option maxRecDepth 100000 in
set_option maxHeartbeats 400000 in
theorem desk_yes (r k f a u : Int) (w : World) (hk : KV.fault ⟨r, k, f, a, u⟩ = 0) :
    Calls Try.prog 48 #[.agg #[.int .i64 r, .int .i64 k, .int .i64 f, .int .i64 a, .int .i64 u]] w fun e w' => e = .returned (.tuple #[.string (sealS [68, 75, r, k, f + 1, a % 256, a / 256, u % 256, u / 256]), .nilIface]) ∧ Below w.heap.size w w' := by
  have hch := checkDesk_any r k f a u (w.alloc (.cells #[.int .i64 r, .int .i64 k, .int .i64 f, .int .i64 a, .int .i64 u] 70))
  rw [hk, erV_0] at hch
  have hbd := of_decide_eq_true (KV.of_fault hk).1
  simp only at hbd
  obtain ⟨g1, g2, g3, g4, g5, g6, g7, g8, g9, g10⟩ := hbd
  have HC := toHid hch
  clear hch hk
  go_enter Try.func48, Try.ntmps48
  go_wp2_with fail
  refine HC.out.mono ?_
  rintro e w1 ⟨rfl, hb1⟩
  obtain ⟨hc, hf⟩ := bcell hb1
  have hz : w.heap.size < w1.heap.size := by have := hb1.size; simp at this; omega
  go_wp2_with fail
  refine (sealed_any [68, 75, r, k, f + 1, a % 256, a / 256, u % 256, u / 256] _ 9 _ (by simp) ?_ (cells_row w1 [68, 75, r, k, f + 1, a % 256, a / 256, u % 256, u / 256] 5)).mono ?_
  · simp
  rintro e w2 ⟨rfl, hb2⟩
  go_wp2
  go_ret2
  exact ⟨rfl, ((((Below.refl _ _).alloc (Nat.le_refl _) _).trans (hb1.mono (by simp))).alloc (by omega) _).trans (hb2.mono (by simp; omega))⟩

set_option maxRecDepth 100000 in
set_option maxHeartbeats 400000 in
theorem desk_no (r k f a u : Int) (w : World) (hk : KV.fault ⟨r, k, f, a, u⟩ ≠ 0) :
    Calls Try.prog 48 #[.agg #[.int .i64 r, .int .i64 k, .int .i64 f, .int .i64 a, .int .i64 u]] w fun e w' => e = .returned (.tuple #[.string ⟨#[]⟩, .iface 102 (.int .i64 (KV.fault ⟨r, k, f, a, u⟩))]) ∧ Below w.heap.size w w' := by
  have hch := checkDesk_any r k f a u (w.alloc (.cells #[.int .i64 r, .int .i64 k, .int .i64 f, .int .i64 a, .int .i64 u] 70))
  have e0 : erV (KV.fault ⟨r, k, f, a, u⟩) = .iface 102 (.int .i64 (KV.fault ⟨r, k, f, a, u⟩)) := by unfold erV; rw [if_neg hk]
  rw [e0] at hch
  generalize KV.fault ⟨r, k, f, a, u⟩ = F at hch
  have HC := toHid hch
  clear hch e0 hk
  go_enter Try.func48, Try.ntmps48
  go_wp2_with fail
  refine HC.out.mono ?_
  rintro e w1 ⟨rfl, hb1⟩
  go_wp2
  go_ret2
  exact ⟨rfl, ((Below.refl _ _).alloc (Nat.le_refl _) _).trans (hb1.mono (by simp))⟩

set_option maxRecDepth 100000 in
set_option maxHeartbeats 400000 in
theorem deskSector_any (r k f a u : Int) (w : World) (hk : KV.fault ⟨r, k, f, a, u⟩ = 0) :
    Calls Try.prog 51 #[.agg #[.int .i64 r, .int .i64 k, .int .i64 f, .int .i64 a, .int .i64 u]] w fun e w' => e = .returned (.string (sealS [68, 75, r, k, f + 1, a % 256, a / 256, u % 256, u / 256])) ∧ Below w.heap.size w w' := by
  have hbd := of_decide_eq_true (KV.of_fault hk).1
  simp only at hbd
  obtain ⟨g1, g2, g3, g4, g5, g6, g7, g8, g9, g10⟩ := hbd
  clear hk
  go_enter Try.func51, Try.ntmps51
  go_wp2_with fail
  refine (refSealed_any [68, 75, r, k, f + 1, a % 256, a / 256, u % 256, u / 256] (w.heap.size + 1) _ 9 _ (by simp) ?_ (owns_row (w.alloc (.cells #[.int .i64 r, .int .i64 k, .int .i64 f, .int .i64 a, .int .i64 u] 70)) [68, 75, r, k, f + 1, a % 256, a / 256, u % 256, u / 256] (w.heap.size + 1) (by simp) (by simp))).mono ?_
  · simp
  rintro e w2 ⟨rfl, hb2⟩
  go_wp2
  go_ret
  exact ⟨rfl, (((Below.refl _ _).alloc (Nat.le_refl _) _).alloc (by simp) _).trans (hb2.mono (by omega))⟩
end Go.Proofs.Ytmallmchibdkgaa
