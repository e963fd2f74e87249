/- YardSays: its row's closed facts, each walk over the program by itself. -/
import Derived.Test.YtbohmhacdgckgaaGreatDoorQB0
import Derived.Test.YtbohmhacdgckgaaGreatDoorRows
import Derived.Stop.Joined
import Derived.ProofKit
set_option linter.all false
namespace Go.Proofs.YtbohmhacdgckgaaGreatDoor.yardSaysF
open Go.Proofs.Tryz
open Go.ChangeShapes Go.WideShapes Go.ChangeAt Go.WideMaps Go.WideElems Go.RowKit
def c1:(Rows.yardSaysRow.inPlace==checked.prog.inPlace 3)=true:=by kernel_rfl
def c2:(Rows.yardSaysRow.unfollowed==checked.prog.unfollowed 3)=true:=by kernel_rfl
def c3:(Rows.yardSaysRow.recurses==checked.prog.recurses 3)=true:=by kernel_rfl
def c4:(Rows.yardSaysRow.named==checked.prog.varsNamed 3)=true:=by kernel_rfl
def facts:joinedFacts checked.prog 3 f3 Rows.yardSaysSpec Rows.yardSaysRow=true:=by
 unfold joinedFacts;rw[c1,c2,c3,c4]
 kernel_rfl
