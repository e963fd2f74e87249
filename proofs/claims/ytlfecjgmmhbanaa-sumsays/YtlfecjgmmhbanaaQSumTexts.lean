/-
A list of texts that lies in memory.
-/
import Derived.Test.YtlfecjgmmhbanaaQSumWalks
import Derived.Deep.QuietTactic
import Derived.BigQuiet
namespace Go.Proofs.Ytlfecjgmmhbanaa
open Go.RowKit

/- A list of texts that lies in memory. -/
def Texts (w : World) (la : Option Addr) (len : Nat) (ls : List ByteArray) : Prop :=
  ls.length = len ∧ ∀ k, k < len → ∃ b off, la = some ⟨b, off, none⟩ ∧ w.cell? ⟨b, off + k, none⟩ = some (.string (ls.getD k ByteArray.empty)) ∧ (ls.getD k ByteArray.empty).size ≤ maxLen

theorem Texts.below {w w' : World} {la : Option Addr} {len : Nat} {ls : List ByteArray} (h : Texts w la len ls) (hb : Below w.heap.size w w') : Texts w' la len ls := by
  refine ⟨h.1, fun k hk => ?_⟩
  obtain ⟨b, off, e, hc, hs⟩ := h.2 k hk
  exact ⟨b, off, e, by rw [hb.cell (World.block_lt_of_cell? w _ hc)]; exact hc, hs⟩

theorem ret_bool {a b : Bool} (h : a = b) : Ending.returned (.bool a) = .returned (.bool b) := by rw [h]
end Go.Proofs.Ytlfecjgmmhbanaa
