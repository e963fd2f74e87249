/- A part. -/
import Derived.Test.YtbohmhacdgckgaaGreatDoorQB0
set_option linter.all false
namespace Go.Proofs.YtbohmhacdgckgaaGreatDoor.consoleSaysF
open Go.Proofs.Tryz
open Go.ChangeShapes Go.WideShapes Go.ChangeAt Go.WideMaps Go.WideElems Go.RowKit
def c1:(Rows.consoleSaysRow.inPlace==checked.prog.inPlace 5)=true:=by kernel_rfl
def c2:(Rows.consoleSaysRow.unfollowed==checked.prog.unfollowed 5)=true:=by kernel_rfl
def c3:(Rows.consoleSaysRow.recurses==checked.prog.recurses 5)=true:=by kernel_rfl
def c4:(Rows.consoleSaysRow.named==checked.prog.varsNamed 5)=true:=by kernel_rfl
def facts:joinedFacts checked.prog 5 f5 Rows.consoleSaysSpec Rows.consoleSaysRow=true:=by
 unfold joinedFacts;rw[c1,c2,c3,c4]
 kernel_rfl
