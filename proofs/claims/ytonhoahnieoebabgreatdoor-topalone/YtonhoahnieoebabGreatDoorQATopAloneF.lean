/- TopAlone: its row's closed facts, each walk over the program by itself. -/
import Derived.Test.YtonhoahnieoebabGreatDoorRows
import Derived.Stop.Joined
import Derived.ProofKit
namespace Go.Proofs.YtonhoahnieoebabGreatDoor.topAloneF
open Go.ChangeShapes Go.WideShapes Go.ChangeAt Go.WideMaps Go.WideElems Go.RowKit
theorem c1:(Rows.topAloneRow.inPlace==Tryz.checked.prog.inPlace 9)=true:=by kernel_rfl
theorem c2:(Rows.topAloneRow.unfollowed==Tryz.checked.prog.unfollowed 9)=true:=by kernel_rfl
theorem c3:(Rows.topAloneRow.recurses==Tryz.checked.prog.recurses 9)=true:=by kernel_rfl
theorem c4:(Rows.topAloneRow.named==Tryz.checked.prog.varsNamed 9)=true:=by kernel_rfl
theorem facts:joinedFacts Tryz.checked.prog 9 Tryz.f9 Rows.topAloneSpec Rows.topAloneRow=true:=by
 unfold joinedFacts;rw[c1,c2,c3,c4]
 kernel_rfl
end Go.Proofs.YtonhoahnieoebabGreatDoor.topAloneF
