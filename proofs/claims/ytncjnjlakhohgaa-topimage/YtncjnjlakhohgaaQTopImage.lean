/-
Whatever the clusters, the places, the acts and what is kept: TopImage answers true (D2 to D4): behind a crash the image is opened, and each sector is what it was at the last flush, or something that it was since; its arguments stay. No condition.
-/
import Derived.Test.YtncjnjlakhohgaaQTopImg1
import Derived.Test.YtncjnjlakhohgaaQActsB
import Derived.ProofKit
import Derived.OpenShut
import Derived.ShutString
import Derived.SliceStrings
namespace Go.Proofs.Ytncjnjlakhohgaa.topImage
open Go.ChangeShapes Go.WideShapes Go.ChangeAt Go.RowKit

attribute [local go_sem ↓] Go.wp_at_zero Go.wp_at_succ

set_option maxRecDepth 100000 in
set_option maxHeartbeats 1000000 in
theorem e1 (c p : Int) (la : Option Addr) (len cap : Nat) (ka : Option Addr) (kl kc : Nat) (w : World) (h1 : c < 1) :
    Calls Try.prog 9 #[.int .i64 c, .int .i64 p, .slice la len cap, .slice ka kl kc] w fun e w' => e = .returned (.bool true) ∧ Below w.heap.size w w' := by
  have f1 : decide (c < 1) = true := decide_eq_true h1
  go_enter Try.func9, Try.ntmps9
  go_wp2
  go_ret
  exact ⟨rfl, Below.refl _ _⟩

set_option maxRecDepth 100000 in
set_option maxHeartbeats 1000000 in
theorem e2 (c p : Int) (la : Option Addr) (len cap : Nat) (ka : Option Addr) (kl kc : Nat) (w : World) (h1 : ¬ c < 1) (h2 : 12 < c) :
    Calls Try.prog 9 #[.int .i64 c, .int .i64 p, .slice la len cap, .slice ka kl kc] w fun e w' => e = .returned (.bool true) ∧ Below w.heap.size w w' := by
  have f1 : decide (c < 1) = false := decide_eq_false h1
  have f2 : decide (12 < c) = true := decide_eq_true h2
  go_enter Try.func9, Try.ntmps9
  go_wp2
  go_ret
  exact ⟨rfl, Below.refl _ _⟩

set_option maxRecDepth 100000 in
set_option maxHeartbeats 1000000 in
theorem e3 (c p : Int) (la : Option Addr) (len cap : Nat) (ka : Option Addr) (kl kc : Nat) (w : World) (h1 : ¬ c < 1) (h2 : ¬ 12 < c) (h3 : p < 0) :
    Calls Try.prog 9 #[.int .i64 c, .int .i64 p, .slice la len cap, .slice ka kl kc] w fun e w' => e = .returned (.bool true) ∧ Below w.heap.size w w' := by
  have f1 : decide (c < 1) = false := decide_eq_false h1
  have f2 : decide (12 < c) = false := decide_eq_false h2
  have f3 : decide (p < 0) = true := decide_eq_true h3
  go_enter Try.func9, Try.ntmps9
  go_wp2
  go_ret
  exact ⟨rfl, Below.refl _ _⟩

set_option maxRecDepth 100000 in
set_option maxHeartbeats 1000000 in
theorem e4 (c p : Int) (la : Option Addr) (len cap : Nat) (ka : Option Addr) (kl kc : Nat) (w : World) (h1 : ¬ c < 1) (h2 : ¬ 12 < c) (h3 : ¬ p < 0) (h4 : 20 < p) :
    Calls Try.prog 9 #[.int .i64 c, .int .i64 p, .slice la len cap, .slice ka kl kc] w fun e w' => e = .returned (.bool true) ∧ Below w.heap.size w w' := by
  have f1 : decide (c < 1) = false := decide_eq_false h1
  have f2 : decide (12 < c) = false := decide_eq_false h2
  have f3 : decide (p < 0) = false := decide_eq_false h3
  have f4 : decide (20 < p) = true := decide_eq_true h4
  go_enter Try.func9, Try.ntmps9
  go_wp2
  go_ret
  exact ⟨rfl, Below.refl _ _⟩

set_option maxRecDepth 100000 in
set_option maxHeartbeats 1000000 in
theorem e5 (c p : Int) (la : Option Addr) (len cap : Nat) (xs : List ActV) (ka : Option Addr) (kl kc : Nat) (w : World) (hT : Acts w la len xs) (hlen : len ≤ maxLen) (h1 : ¬ c < 1) (h2 : ¬ 12 < c) (h3 : ¬ p < 0) (h4 : ¬ 20 < p) (hf : lightB xs 40 = false ∨ 300 < kl) :
    Calls Try.prog 9 #[.int .i64 c, .int .i64 p, .slice la len cap, .slice ka kl kc] w fun e w' => e = .returned (.bool true) ∧ Below w.heap.size w w' := by
  have HT0 : Hid (Acts w la len xs) := hT
  clear hT
  have f1 : decide (c < 1) = false := decide_eq_false h1
  have f2 : decide (12 < c) = false := decide_eq_false h2
  have f3 : decide (p < 0) = false := decide_eq_false h3
  have f4 : decide (20 < p) = false := decide_eq_false h4
  cases hl : lightB xs 40 with
  | false =>
    clear hf
    go_enter Try.func9, Try.ntmps9
    go_wp2_with fail
    refine (light_any la len cap 40 xs w HT0.out hlen (by omega)).mono ?_
    rintro e w' ⟨he, hw⟩
    have hw' := hw.symm
    subst hw'
    clear hw
    rw [hl] at he
    subst he
    go_wp2
    go_ret
    exact ⟨rfl, Below.refl _ _⟩
  | true =>
    have h5 : 300 < kl := by
      rcases hf with q | q
      · rw [hl] at q; cases q
      · exact q
    have f5 : decide (300 < (kl : Int)) = true := decide_eq_true (by omega)
    clear hf
    go_enter Try.func9, Try.ntmps9
    go_wp2_with fail
    refine (light_any la len cap 40 xs w HT0.out hlen (by omega)).mono ?_
    rintro e w' ⟨he, hw⟩
    have hw' := hw.symm
    subst hw'
    clear hw
    rw [hl] at he
    subst he
    go_wp2
    go_ret
    exact ⟨rfl, Below.refl _ _⟩

theorem walk (c p : Int) (la : Option Addr) (len cap : Nat) (xs : List ActV) (ka : Option Addr) (kl kc : Nat) (ks : List Bool) (w : World) (hT : Acts w la len xs) (hlen : len ≤ maxLen) (hB : ActsB xs) (hK : Bools w ka kl ks) :
    Calls Try.prog 9 #[.int .i64 c, .int .i64 p, .slice la len cap, .slice ka kl kc] w fun e w' => e = .returned (.bool true) ∧ Below w.heap.size w w' := by
  by_cases h1 : c < 1
  · exact e1 c p la len cap ka kl kc w h1
  by_cases h2 : 12 < c
  · exact e2 c p la len cap ka kl kc w h1 h2
  by_cases h3 : p < 0
  · exact e3 c p la len cap ka kl kc w h1 h2 h3
  by_cases h4 : 20 < p
  · exact e4 c p la len cap ka kl kc w h1 h2 h3 h4
  by_cases hf : lightB xs 40 = false ∨ 300 < kl
  · exact e5 c p la len cap xs ka kl kc w hT hlen h1 h2 h3 h4 hf
  · have hl : lightB xs 40 = true := by
      cases q : lightB xs 40 with
      | true => rfl
      | false => exact absurd (.inl q) hf
    obtain ⟨nc, rfl⟩ : ∃ nc : Nat, c = (nc : Int) := ⟨c.toNat, by omega⟩
    exact top_img nc p la len cap xs ka kl kc ks w hT hlen hl hB hK (by omega) (by omega) (by omega) (by omega) (by omega)

theorem own : ownKnob Try.prog.godebug = none := by kernel_rfl
theorem laidOut : laidOutB Try.prog = true := by kernel_rfl

set_option maxRecDepth 100000 in
theorem lifted (os : Os) (started : os.Started) (H : Type) (enc : TypeId × Value → H) :
    ReturnsInHanded {} Try.checked os 9 .any (Rows.topImageSpec.pre6 enc Try.prog Try.f9 Rows.topImageRow.domain false) (Rows.topImageSpec.post enc Try.prog Try.f9 false true false false) := by
  refine returnsInHanded_of_change (C := Try.checked) own started (by kernel_rfl) Try.func9
    (ChangeSpec.witness6 (enc := enc) (C := Try.checked) false ⟨#[], #[.int .i64 0, .int .i64 0, .slice none 0 0, .slice none 0 0], []⟩ 8 (by kernel_rfl) (by kernel_rfl) (by kernel_rfl) (by kernel_rfl)) ?_
  intro W base args ds gs before hval0 hW hcnd _
  have hval : ∀ (j : Nat) t v, Try.f9.params[j]? = some t → args[j]? = some v → Value.okWide Try.prog W .any base t v := hval0
  have hW' := hW
  obtain ⟨p, q, hA0, hV, rfl, hfz, hnd⟩ := hW
  have hA : DataW.TrodAll enc Try.prog W 0 (fun _ => true) true Try.f9.params.toList args.toList ds p := hA0
  rw [Try.params9] at hA hval
  obtain ⟨v0, vs0, d0, ds0, p0, q0, hargs, rfl, rfl, h0, r0⟩ := trodAll_cons hA
  obtain ⟨v1, vs1, d1, ds1, p1, q1, rfl, rfl, rfl, h1, r1⟩ := trodAll_cons r0
  obtain ⟨v2, vs2, d2, ds2, p2, q2, rfl, rfl, rfl, h2, r2⟩ := trodAll_cons r1
  obtain ⟨v3, vs3, d3, ds3, p3, q3, rfl, rfl, rfl, h3, r3⟩ := trodAll_cons r2
  obtain ⟨rfl, rfl, rfl⟩ := trodAll_nil r3
  obtain rfl : args = #[v0, v1, v2, v3] := by cases args; simp_all
  obtain ⟨rfl, rfl⟩ := trodVars_none hV
  obtain ⟨a0, rfl, rfl, rfl, w0⟩ := open_int Try.underlying3 (hval 0 3 v0 rfl rfl) h0
  obtain ⟨a1, rfl, rfl, rfl, w1⟩ := open_int Try.underlying3 (hval 1 3 v1 rfl rfl) h1
  obtain ⟨la, len, cap, rfl⟩ := okWide_slice Try.underlying32 (hval 2 32 v2 rfl rfl)
  obtain ⟨ka, kl, kc, rfl⟩ := okWide_slice Try.underlying45 (hval 3 45 v3 rfl rfl)
  have k2 := h2
  have lt2 : ∀ x ∈ p2, x.block < W.heap.size := by obtain ⟨m, hm⟩ := k2; exact DataW.trod_lt m _ _ _ hm
  have k3 := h3
  have lt3 : ∀ x ∈ p3, x.block < W.heap.size := by obtain ⟨m, hm⟩ := k3; exact DataW.trod_lt m _ _ _ hm
  obtain ⟨xs, hT, hlen, hB⟩ : ∃ xs, Acts W la len xs ∧ len ≤ maxLen ∧ ActsB xs := by
    obtain ⟨fuel, hf⟩ := h2
    exact open_actsB hf
  obtain ⟨ks, hK⟩ : ∃ ks, Bools W ka kl ks := by
    obtain ⟨fuel, hf⟩ := h3
    obtain ⟨ka', kl', kc', ks, e, _, hk, _⟩ := open_boolsB hf
    cases e
    exact ⟨ks, hk⟩
  clear hA0 hval0
  refine (walk a0 a1 la len cap xs ka kl kc ks W hT hlen hB hK).mono fun e W' ⟨he, bel⟩ => ?_
  subst he
  exact ⟨_, rfl, _, _, _, [], _, [], hW', trodAll_mk1 (shut_bool Try.underlying4 _), (trodAll_cons_mk (shut_int Try.underlying3 w0) (trodAll_cons_mk (shut_int Try.underlying3 w1) (trodAll_cons_mk (Below.trod laidOut (by kernel_rfl) (of_decide_eq_true (by kernel_rfl)) k2 bel lt2) (trodAll_cons_mk (Below.trod laidOut (by kernel_rfl) (of_decide_eq_true (by kernel_rfl)) k3 bel lt3) trodAll_mk0)))), rfl, bel.frame _, fun h => by cases h⟩

theorem over : Rows.topImageRow.holds Try.pinned (OpenSpec.ofChange Rows.topImageSpec) :=
  OpenClaim.holds_of_wide 9 Try.f9 rfl rfl rfl rfl rfl rfl rfl ⟨rfl, rfl, rfl, rfl, rfl⟩ rfl rfl rfl rfl rfl (by kernel_rfl) Try.func9 (by kernel_rfl)
    (of_decide_eq_true (by kernel_rfl)) (by unfold Func.isWrapper; first | (rw [if_pos (by decide +kernel)]; kernel_rfl) | (rw [if_neg (by decide +kernel)]; exact ⟨rfl, rfl⟩))
    (fun os started H enc _ => lifted os started H enc)
end Go.Proofs.Ytncjnjlakhohgaa.topImage

namespace Go.Proofs.Ytncjnjlakhohgaa
theorem topImage_holds : Rows.TopImageSaid := topImage.over
#print axioms topImage_holds
end Go.Proofs.Ytncjnjlakhohgaa
