/-
TopGuest: its row's closed facts, each walk over the program by itself.
-/
import Derived.Test.YtonhoahnieoebabGreatDoorRows
import Derived.Stop.Joined
import Derived.ProofKit
namespace Go.Proofs.YtonhoahnieoebabGreatDoor.topGuestF
open Go.ChangeShapes Go.WideShapes Go.ChangeAt Go.WideMaps Go.WideElems Go.RowKit
theorem c1 : (Rows.topGuestRow.inPlace == Tryz.checked.prog.inPlace 7) = true := by kernel_rfl
theorem c2 : (Rows.topGuestRow.unfollowed == Tryz.checked.prog.unfollowed 7) = true := by kernel_rfl
theorem c3 : (Rows.topGuestRow.recurses == Tryz.checked.prog.recurses 7) = true := by kernel_rfl
theorem c4 : (Rows.topGuestRow.named == Tryz.checked.prog.varsNamed 7) = true := by kernel_rfl
theorem facts : joinedFacts Tryz.checked.prog 7 Tryz.f7 Rows.topGuestSpec Rows.topGuestRow = true := by
  unfold joinedFacts
  rw [c1, c2, c3, c4]
  kernel_rfl
end Go.Proofs.YtonhoahnieoebabGreatDoor.topGuestF
