/-
TopEnds: its row's closed facts, each walk over the program by itself.
-/
import Derived.Test.YtonhoahnieoebabGreatDoorRows
import Derived.Stop.Joined
import Derived.ProofKit
namespace Go.Proofs.YtonhoahnieoebabGreatDoor.topEndsF
open Go.ChangeShapes Go.WideShapes Go.ChangeAt Go.WideMaps Go.WideElems Go.RowKit
theorem c1 : (Rows.topEndsRow.inPlace == Tryz.checked.prog.inPlace 10) = true := by kernel_rfl
theorem c2 : (Rows.topEndsRow.unfollowed == Tryz.checked.prog.unfollowed 10) = true := by kernel_rfl
theorem c3 : (Rows.topEndsRow.recurses == Tryz.checked.prog.recurses 10) = true := by kernel_rfl
theorem c4 : (Rows.topEndsRow.named == Tryz.checked.prog.varsNamed 10) = true := by kernel_rfl
theorem facts : joinedFacts Tryz.checked.prog 10 Tryz.f10 Rows.topEndsSpec Rows.topEndsRow = true := by
  unfold joinedFacts
  rw [c1, c2, c3, c4]
  kernel_rfl
end Go.Proofs.YtonhoahnieoebabGreatDoor.topEndsF
