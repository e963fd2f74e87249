/-
Whatever the rate, the burst and the acts: BucketSays answers true (F1): what a bucket has is what the document says; its arguments stay. No condition.
-/
import Derived.Test.YtlfecjgmmhbanaaQBucketSays1
import Derived.ProofKit
import Derived.OpenShut
import Derived.ShutString
import Derived.SliceStrings
namespace Go.Proofs.Ytlfecjgmmhbanaa.bucketSays
open Go.ChangeShapes Go.WideShapes Go.ChangeAt Go.RowKit

theorem walk (r b : Int) (la : Option Addr) (len cap : Nat) (xs : List S4.ActV) (w : World) (hT : S4.Acts w la len xs) (hlen : len ≤ maxLen) :
    Calls Try.prog 10 #[.int .i64 r, .int .i64 b, .slice la len cap] w fun e w' => e = .returned (.bool true) ∧ Below w.heap.size w w' := by
  cases h2 : S4.lightB xs 80 with
  | false => exact S4.buck_early r b la len cap xs w hT hlen h2
  | true =>
    cases h1 : (S4.inB r 1000 && S4.inB b 1000) with
    | false => exact S4.buck_bad r b la len cap xs w hT hlen h2 h1
    | true =>
      rw [Bool.and_eq_true] at h1
      exact S4.buck_front r b la len cap xs w hT hlen h1.1 h1.2 h2

theorem own : ownKnob Try.prog.godebug = none := by kernel_rfl
theorem laidOut : laidOutB Try.prog = true := by kernel_rfl

set_option maxRecDepth 100000 in
theorem lifted (os : Os) (started : os.Started) (H : Type) (enc : TypeId × Value → H) :
    ReturnsInHanded {} Try.checked os 10 .any (Rows.bucketSaysSpec.pre6 enc Try.prog Try.f10 Rows.bucketSaysRow.domain false) (Rows.bucketSaysSpec.post enc Try.prog Try.f10 false true false false) := by
  refine returnsInHanded_of_change (C := Try.checked) own started (by kernel_rfl) Try.func10
    (ChangeSpec.witness6 (enc := enc) (C := Try.checked) false ⟨#[], #[.int .i64 0, .int .i64 0, .slice none 0 0], []⟩ 8 (by kernel_rfl) (by kernel_rfl) (by kernel_rfl) (by kernel_rfl)) ?_
  intro W base args ds gs before hval0 hW hcnd _
  have hval : ∀ (j : Nat) t v, Try.f10.params[j]? = some t → args[j]? = some v → Value.okWide Try.prog W .any base t v := hval0
  have hW' := hW
  obtain ⟨p, q, hA0, hV, rfl, hfz, hnd⟩ := hW
  have hA : DataW.TrodAll enc Try.prog W 0 (fun _ => true) true Try.f10.params.toList args.toList ds p := hA0
  rw [Try.params10] at hA hval
  obtain ⟨v0, vs0, d0, ds0, p0, q0, hargs, rfl, rfl, h0, r0⟩ := trodAll_cons hA
  obtain ⟨v1, vs1, d1, ds1, p1, q1, rfl, rfl, rfl, h1, r1⟩ := trodAll_cons r0
  obtain ⟨v2, vs2, d2, ds2, p2, q2, rfl, rfl, rfl, h2, r2⟩ := trodAll_cons r1
  obtain ⟨rfl, rfl, rfl⟩ := trodAll_nil r2
  obtain rfl : args = #[v0, v1, v2] := by cases args; simp_all
  obtain ⟨rfl, rfl⟩ := trodVars_none hV
  obtain ⟨a0, rfl, rfl, rfl, w0⟩ := open_int Try.underlying3 (hval 0 3 v0 rfl rfl) h0
  obtain ⟨a1, rfl, rfl, rfl, w1⟩ := open_int Try.underlying3 (hval 1 3 v1 rfl rfl) h1
  obtain ⟨la, len, cap, rfl⟩ := okWide_slice Try.underlying32 (hval 2 32 v2 rfl rfl)
  have k2 := h2
  have lt2 : ∀ x ∈ p2, x.block < W.heap.size := by obtain ⟨m, hm⟩ := k2; exact DataW.trod_lt m _ _ _ hm
  obtain ⟨xs, hT, hlen⟩ : ∃ xs, S4.Acts W la len xs ∧ len ≤ maxLen := by
    obtain ⟨fuel, hf⟩ := h2
    exact S4.open_acts hf
  clear hA0 hval0
  refine (walk a0 a1 la len cap xs W hT hlen).mono fun e W' ⟨he, bel⟩ => ?_
  subst he
  exact ⟨_, rfl, _, _, _, [], _, [], hW', trodAll_mk1 (shut_bool Try.underlying4 _), (trodAll_cons_mk (shut_int Try.underlying3 w0) (trodAll_cons_mk (shut_int Try.underlying3 w1) (trodAll_cons_mk (Below.trod laidOut (by kernel_rfl) (of_decide_eq_true (by kernel_rfl)) k2 bel lt2) trodAll_mk0))), rfl, bel.frame _, fun h => by cases h⟩

theorem over : Rows.bucketSaysRow.holds Try.pinned (OpenSpec.ofChange Rows.bucketSaysSpec) :=
  OpenClaim.holds_of_wide 10 Try.f10 rfl rfl rfl rfl rfl rfl rfl ⟨rfl, rfl, rfl, rfl, rfl⟩ rfl rfl rfl rfl rfl (by kernel_rfl) Try.func10 (by kernel_rfl)
    (of_decide_eq_true (by kernel_rfl)) (by unfold Func.isWrapper; first | (rw [if_pos (by decide +kernel)]; kernel_rfl) | (rw [if_neg (by decide +kernel)]; exact ⟨rfl, rfl⟩))
    (fun os started H enc _ => lifted os started H enc)
end Go.Proofs.Ytlfecjgmmhbanaa.bucketSays

namespace Go.Proofs.Ytlfecjgmmhbanaa
theorem bucketSays_holds : Rows.BucketSaysSaid := bucketSays.over
#print axioms bucketSays_holds
end Go.Proofs.Ytlfecjgmmhbanaa
