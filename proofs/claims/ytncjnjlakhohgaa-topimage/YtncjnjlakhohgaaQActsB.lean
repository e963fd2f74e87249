/-
Acts that came in: their second number is one of the language's.
-/
import Derived.Test.YtncjnjlakhohgaaQActs
namespace Go.Proofs.Ytncjnjlakhohgaa
open Go.RowKit Go.ChangeShapes Go.WideShapes
section
variable {H : Type} {enc : TypeId × Value → H}

set_option maxRecDepth 100000 in
theorem open_actB {w : World} {fuel : Nat} {cs : List Value} {x : DataW H × List MemPlace} (h : DataW.trod enc Try.prog w 0 (fun _ => true) true fuel 47 cs = some x) :
    ∃ b : Int, cs[2]? = some (.int .i64 b) ∧ -9223372036854775808 ≤ b ∧ b ≤ 9223372036854775807 := by
  obtain ⟨xs, n, _, _, hl, hlen, hf⟩ := DataW.trod_struct Try.underlying47 h
  have h7 : cs.length = 7 := by rw [hl]; kernel_rfl
  have c3 : Try.prog.cellsOf 3 = 1 := by kernel_rfl
  have c9 : Try.prog.cellsOf 9 = 1 := by kernel_rfl
  match cs, h7, xs, hlen with
  | [v0, v1, v2, v3, v4, v5, v6], _, [y0, y1, y2, y3, y4, y5, y6], _ =>
    have f2 : DataW.trod enc Try.prog w 0 (fun _ => true) true n 3 [v2] = some y2 := by simpa [c3, c9] using hf 2 _ rfl
    obtain ⟨a2, e2, _, w2⟩ := DataW.trod_int Try.underlying3 f2
    simp only [List.cons.injEq, and_true] at e2
    subst e2
    have b2 := bounds_i64 w2
    exact ⟨a2, rfl, b2.1, b2.2⟩

def ActsB (xs : List ActV) : Prop := ∀ k, k < xs.length → -9223372036854775808 ≤ (xs.getD k ActV.none_).b ∧ (xs.getD k ActV.none_).b ≤ 9223372036854775807

theorem open_actsB {w : World} {la : Option Addr} {len cap fuel : Nat} {x : DataW H × List MemPlace} (h : DataW.trod enc Try.prog w 0 (fun _ => true) true fuel 32 [.slice la len cap] = some x) :
    ∃ xs, Acts w la len xs ∧ len ≤ maxLen ∧ ActsB xs := by
  obtain ⟨xs, hT, hl0⟩ := open_acts h
  refine ⟨xs, hT, hl0, fun k hk => ?_⟩
  have hkl : k < len := by have := hT.1; omega
  obtain ⟨b, off, e, hr, _⟩ := hT.2 k hkl
  rcases Go.Deep.open_slice Try.underlying32 h with ⟨hcs, _⟩ | ⟨a, len', cap', m, n, D, Pl, hcs, _, hl, hm, hmm, _, hx⟩
  · simp at hcs
    obtain ⟨rfl, rfl, rfl⟩ := hcs
    omega
  · simp at hcs
    obtain ⟨rfl, rfl, rfl⟩ := hcs
    cases e
    have c47 : Try.prog.cellsOf 47 = 7 := by kernel_rfl
    simp only [if_true] at hmm
    subst hmm
    obtain ⟨cs', h1, h2⟩ := hx k (by omega)
    obtain ⟨b2, e2, e3⟩ := open_actB h2
    obtain ⟨_, _, hc⟩ := World.cells?_some h1
    rw [c47] at hc
    have h3 := hc 2 (by omega)
    rw [e2, Go.Deep.add_add, Go.WideShapes.add_plain] at h3
    have h4 := hr 2 (.int .i64 (xs.getD k ActV.none_).b) rfl
    rw [show off + k * 7 + 2 = off + (k * 7 + 2) by omega, h3] at h4
    cases h4
    exact e3
end
end Go.Proofs.Ytncjnjlakhohgaa
