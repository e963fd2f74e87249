/-
Whatever the number of sectors, the acts and what is kept: TopDev answers true (B3): behind a crash each sector is what was flushed, or one of the writes that were pending; behind a flush nothing is lost; its arguments stay. No condition.
-/
import Derived.Test.YtmallmchibdkgaaTopDev1
import Derived.ProofKit
import Derived.OpenShut
import Derived.ShutString
import Derived.SliceStrings
namespace Go.Proofs.Ytmallmchibdkgaa.topDev
open Go.ChangeShapes Go.WideShapes Go.ChangeAt Go.RowKit

theorem walk (sectors : Int) (la : Option Addr) (len cap : Nat) (xs : List ActV) (ka : Option Addr) (kl kc : Nat) (ks : List Bool) (w : World) (hT : Acts w la len xs) (hlen : len ≤ maxLen) (hK : Bools w ka kl ks) :
    Calls Try.prog 6 #[.int .i64 sectors, .slice la len cap, .slice ka kl kc] w fun e w' => e = .returned (.bool true) ∧ Below w.heap.size w w' := by
  by_cases h : sectors < 1 ∨ 20 < sectors ∨ lightB xs 60 = false ∨ 100 < kl
  · exact topEarly sectors la len cap xs ka kl kc w hT hlen h
  · have h1 : lightB xs 60 = true := by
      cases q : lightB xs 60 with
      | true => rfl
      | false => exact absurd (.inr (.inr (.inl q))) h
    obtain ⟨n, rfl⟩ : ∃ n : Nat, sectors = n := ⟨sectors.toNat, by omega⟩
    exact topFront n la len cap xs ka kl kc ks w hT hlen hK h1 (by omega) (by omega) (by omega)

theorem own : ownKnob Try.prog.godebug = none := by kernel_rfl
theorem laidOut : laidOutB Try.prog = true := by kernel_rfl

set_option maxRecDepth 100000 in
theorem lifted (os : Os) (started : os.Started) (H : Type) (enc : TypeId × Value → H) :
    ReturnsInHanded {} Try.checked os 6 .any (Rows.topDevSpec.pre6 enc Try.prog Try.f6 Rows.topDevRow.domain false) (Rows.topDevSpec.post enc Try.prog Try.f6 false true false false) := by
  refine returnsInHanded_of_change (C := Try.checked) own started (by kernel_rfl) Try.func6
    (ChangeSpec.witness6 (enc := enc) (C := Try.checked) false ⟨#[], #[.int .i64 0, .slice none 0 0, .slice none 0 0], []⟩ 8 (by kernel_rfl) (by kernel_rfl) (by kernel_rfl) (by kernel_rfl)) ?_
  intro W base args ds gs before hval0 hW hcnd _
  have hval : ∀ (j : Nat) t v, Try.f6.params[j]? = some t → args[j]? = some v → Value.okWide Try.prog W .any base t v := hval0
  have hW' := hW
  obtain ⟨p, q, hA0, hV, rfl, hfz, hnd⟩ := hW
  have hA : DataW.TrodAll enc Try.prog W 0 (fun _ => true) true Try.f6.params.toList args.toList ds p := hA0
  rw [Try.params6] at hA hval
  obtain ⟨v0, vs0, d0, ds0, p0, q0, hargs, rfl, rfl, h0, r0⟩ := trodAll_cons hA
  obtain ⟨v1, vs1, d1, ds1, p1, q1, rfl, rfl, rfl, h1, r1⟩ := trodAll_cons r0
  obtain ⟨v2, vs2, d2, ds2, p2, q2, rfl, rfl, rfl, h2, r2⟩ := trodAll_cons r1
  obtain ⟨rfl, rfl, rfl⟩ := trodAll_nil r2
  obtain rfl : args = #[v0, v1, v2] := by cases args; simp_all
  obtain ⟨rfl, rfl⟩ := trodVars_none hV
  obtain ⟨a0, rfl, rfl, rfl, w0⟩ := open_int Try.underlying3 (hval 0 3 v0 rfl rfl) h0
  obtain ⟨la, len, cap, rfl⟩ := okWide_slice Try.underlying32 (hval 1 32 v1 rfl rfl)
  obtain ⟨ka, kl, kc, rfl⟩ := okWide_slice Try.underlying45 (hval 2 45 v2 rfl rfl)
  have k1 := h1
  have lt1 : ∀ x ∈ p1, x.block < W.heap.size := by obtain ⟨m, hm⟩ := k1; exact DataW.trod_lt m _ _ _ hm
  have k2 := h2
  have lt2 : ∀ x ∈ p2, x.block < W.heap.size := by obtain ⟨m, hm⟩ := k2; exact DataW.trod_lt m _ _ _ hm
  obtain ⟨xs, hT, hlen⟩ : ∃ xs, Acts W la len xs ∧ len ≤ maxLen := by
    obtain ⟨fuel, hf⟩ := h1
    exact open_acts hf
  obtain ⟨ks, hK⟩ : ∃ ks, Bools W ka kl ks := by
    obtain ⟨fuel, hf⟩ := h2
    obtain ⟨ka', kl', kc', ks, e, _, hk, _⟩ := open_boolsB hf
    cases e
    exact ⟨ks, hk⟩
  clear hA0 hval0
  refine (walk a0 la len cap xs ka kl kc ks W hT hlen hK).mono fun e W' ⟨he, bel⟩ => ?_
  subst he
  exact ⟨_, rfl, _, _, _, [], _, [], hW', trodAll_mk1 (shut_bool Try.underlying4 _), (trodAll_cons_mk (shut_int Try.underlying3 w0) (trodAll_cons_mk (Below.trod laidOut (by kernel_rfl) (of_decide_eq_true (by kernel_rfl)) k1 bel lt1) (trodAll_cons_mk (Below.trod laidOut (by kernel_rfl) (of_decide_eq_true (by kernel_rfl)) k2 bel lt2) trodAll_mk0))), rfl, bel.frame _, fun h => by cases h⟩

theorem over : Rows.topDevRow.holds Try.pinned (OpenSpec.ofChange Rows.topDevSpec) :=
  OpenClaim.holds_of_wide 6 Try.f6 rfl rfl rfl rfl rfl rfl rfl ⟨rfl, rfl, rfl, rfl, rfl⟩ rfl rfl rfl rfl rfl (by kernel_rfl) Try.func6 (by kernel_rfl)
    (of_decide_eq_true (by kernel_rfl)) (by unfold Func.isWrapper; first | (rw [if_pos (by decide +kernel)]; kernel_rfl) | (rw [if_neg (by decide +kernel)]; exact ⟨rfl, rfl⟩))
    (fun os started H enc _ => lifted os started H enc)
end Go.Proofs.Ytmallmchibdkgaa.topDev

namespace Go.Proofs.Ytmallmchibdkgaa
theorem topDev_holds : Rows.TopDevSaid := topDev.over
#print axioms topDev_holds
end Go.Proofs.Ytmallmchibdkgaa
