/- TopCrash: its row's closed facts, each walk over the program by itself. -/
import Derived.Test.YtonhoahnieoebabGreatDoorRows
import Derived.Stop.Joined
import Derived.ProofKit
namespace Go.Proofs.YtonhoahnieoebabGreatDoor.topCrashF
open Go.ChangeShapes Go.WideShapes Go.ChangeAt Go.WideMaps Go.WideElems Go.RowKit
theorem c1:(Rows.topCrashRow.inPlace==Tryz.checked.prog.inPlace 8)=true:=by kernel_rfl
theorem c2:(Rows.topCrashRow.unfollowed==Tryz.checked.prog.unfollowed 8)=true:=by kernel_rfl
theorem c3:(Rows.topCrashRow.recurses==Tryz.checked.prog.recurses 8)=true:=by kernel_rfl
theorem c4:(Rows.topCrashRow.named==Tryz.checked.prog.varsNamed 8)=true:=by kernel_rfl
theorem facts:joinedFacts Tryz.checked.prog 8 Tryz.f8 Rows.topCrashSpec Rows.topCrashRow=true:=by
 unfold joinedFacts
 rw[c1,c2,c3,c4]
 kernel_rfl
end Go.Proofs.YtonhoahnieoebabGreatDoor.topCrashF
