/- YardOpens: its row's closed facts, each walk over the program by itself. -/
import Derived.Test.YtbohmhacdgckgaaGreatDoorQOB0
import Derived.Test.YtbohmhacdgckgaaGreatDoorRows
import Derived.Stop.Joined
import Derived.ProofKit
set_option linter.all false
namespace Go.Proofs.YtbohmhacdgckgaaGreatDoor.yardOpensF
open Go.Proofs.Tryz
open Go.ChangeShapes Go.WideShapes Go.ChangeAt Go.WideMaps Go.WideElems Go.RowKit
def c1:(Rows.yardOpensRow.inPlace==checked.prog.inPlace 4)=true:=by kernel_rfl
def c2:(Rows.yardOpensRow.unfollowed==checked.prog.unfollowed 4)=true:=by kernel_rfl
def c3:(Rows.yardOpensRow.recurses==checked.prog.recurses 4)=true:=by kernel_rfl
def c4:(Rows.yardOpensRow.named==checked.prog.varsNamed 4)=true:=by kernel_rfl
def facts:joinedFacts checked.prog 4 f4 Rows.yardOpensSpec Rows.yardOpensRow=true:=by
 unfold joinedFacts;rw[c1,c2,c3,c4]
 kernel_rfl
