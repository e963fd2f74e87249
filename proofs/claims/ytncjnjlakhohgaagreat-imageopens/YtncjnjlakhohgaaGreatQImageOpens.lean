/-
Whatever the bytes and the acts: ImageOpens answers true (D1); its arguments stay. No condition.
-/
import Derived.Test.YtncjnjlakhohgaaGreatQOpens1
import Derived.ProofKit
import Derived.OpenShut
import Derived.ShutString
import Derived.SliceStrings
namespace Go.Proofs.YtncjnjlakhohgaaGreat.imageOpens
open Go.ChangeShapes Go.WideShapes Go.ChangeAt Go.RowKit
open Go.ChangeMaps (open_string shut_string)

theorem walk (b : ByteArray) (la : Option Addr) (len cap : Nat) (xs : List ActV) (w : World) (hT : Acts w la len xs) (hlen : len ≤ maxLen) (hB : ActsB xs) (hb : b.size ≤ maxLen) :
    Calls Tryz.prog 4 #[.string b, .slice la len cap] w fun e w' => e = .returned (.bool true) ∧ Below w.heap.size w w' := by
  by_cases h : lightB xs 20 = false ∨ 3200 < b.size
  · exact opens_early b la len cap xs w hT hlen hb h
  · have h1 : lightB xs 20 = true := by
      cases q : lightB xs 20 with
      | true => rfl
      | false => exact absurd (.inl q) h
    by_cases hbn : b.size % 16 ≠ 0 ∨ b.size < 16 ∨ 3200 < b.size
    · exact opens_no b la len cap xs w hT hlen (by omega) h1 hbn
    · exact opens_yes b (b.size / 16) la len cap xs w hT hlen hB h1 (by omega) (by omega) (by omega)

theorem own : ownKnob Tryz.prog.godebug = none := by kernel_rfl
theorem laidOut : laidOutB Tryz.prog = true := by kernel_rfl

set_option maxRecDepth 100000 in
theorem lifted (os : Os) (started : os.Started) (H : Type) (enc : TypeId × Value → H) :
    ReturnsInHanded {} Tryz.checked os 4 .any (Rows.imageOpensSpec.pre6 enc Tryz.prog Tryz.f4 Rows.imageOpensRow.domain false) (Rows.imageOpensSpec.post enc Tryz.prog Tryz.f4 false true false false) := by
  refine returnsInHanded_of_change (C := Tryz.checked) own started (by kernel_rfl) Tryz.func4
    (ChangeSpec.witness6 (enc := enc) (C := Tryz.checked) false ⟨#[], #[.string ByteArray.empty, .slice none 0 0], []⟩ 8 (by kernel_rfl) (by kernel_rfl) (by kernel_rfl) (by kernel_rfl)) ?_
  intro W base args ds gs before hval0 hW hcnd _
  have hval : ∀ (j : Nat) t v, Tryz.f4.params[j]? = some t → args[j]? = some v → Value.okWide Tryz.prog W .any base t v := hval0
  have hW' := hW
  obtain ⟨p, q, hA0, hV, rfl, hfz, hnd⟩ := hW
  have hA : DataW.TrodAll enc Tryz.prog W 0 (fun _ => true) true Tryz.f4.params.toList args.toList ds p := hA0
  rw [Tryz.params4] at hA hval
  obtain ⟨v0, vs0, d0, ds0, p0, q0, hargs, rfl, rfl, h0, r0⟩ := trodAll_cons hA
  obtain ⟨v1, vs1, d1, ds1, p1, q1, rfl, rfl, rfl, h1, r1⟩ := trodAll_cons r0
  obtain ⟨rfl, rfl, rfl⟩ := trodAll_nil r1
  obtain rfl : args = #[v0, v1] := by cases args; simp_all
  obtain ⟨rfl, rfl⟩ := trodVars_none hV
  obtain ⟨a1, rfl, rfl, rfl, w1⟩ := open_string Tryz.underlying9 (hval 0 9 v0 rfl rfl) h0
  obtain ⟨la, len, cap, rfl⟩ := okWide_slice Tryz.underlying24 (hval 1 24 v1 rfl rfl)
  have k2 := h1
  have lt2 : ∀ x ∈ p1, x.block < W.heap.size := by obtain ⟨m, hm⟩ := k2; exact DataW.trod_lt m _ _ _ hm
  obtain ⟨xs, hT, hlen, hB⟩ : ∃ xs, Acts W la len xs ∧ len ≤ maxLen ∧ ActsB xs := by
    obtain ⟨fuel, hf⟩ := h1
    exact open_actsB hf
  clear hA0 hval0
  refine (walk a1 la len cap xs W hT hlen hB w1).mono fun e W' ⟨he, bel⟩ => ?_
  subst he
  exact ⟨_, rfl, _, _, _, [], _, [], hW', trodAll_mk1 (shut_bool Tryz.underlying4 _), (trodAll_cons_mk (shut_string Tryz.underlying9 w1) (trodAll_cons_mk (Below.trod laidOut (by kernel_rfl) (of_decide_eq_true (by kernel_rfl)) k2 bel lt2) trodAll_mk0)), rfl, bel.frame _, fun h => by cases h⟩

theorem over : Rows.imageOpensRow.holds Tryz.pinned (OpenSpec.ofChange Rows.imageOpensSpec) :=
  OpenClaim.holds_of_wide 4 Tryz.f4 rfl rfl rfl rfl rfl rfl rfl ⟨rfl, rfl, rfl, rfl, rfl⟩ rfl rfl rfl rfl rfl (by kernel_rfl) Tryz.func4 (by kernel_rfl)
    (of_decide_eq_true (by kernel_rfl)) (by unfold Func.isWrapper; first | (rw [if_pos (by decide +kernel)]; kernel_rfl) | (rw [if_neg (by decide +kernel)]; exact ⟨rfl, rfl⟩))
    (fun os started H enc _ => lifted os started H enc)
end Go.Proofs.YtncjnjlakhohgaaGreat.imageOpens

namespace Go.Proofs.YtncjnjlakhohgaaGreat
theorem imageOpens_holds : Rows.ImageOpensSaid := imageOpens.over
#print axioms imageOpens_holds
end Go.Proofs.YtncjnjlakhohgaaGreat
