/- No text of the program starts a goroutine: so no call does. -/
import Derived.Test.YtbohmhacdgckgaaGreatDoorQB0
import Derived.Test.YtbohmhacdgckgaaGreatDoorCards
import Derived.SevenTiedAt
import Derived.ProofKit
set_option linter.all false
namespace Go.Proofs.YtbohmhacdgckgaaGreatDoor
def Ny{P:Program}(h:P.funcs.any Func.goes=false){c:OpenClaim}(d:c.start=.entering):false=c.goesBy P:=by
 have a:∀ f,P.goes f=false:=λf=>by
  unfold Program.goes;rw[h,jbg,jbk,List.any_eq_false];intro g _
  cases e:P.funcs[g]? with
  | none=>simp
  | some b =>
   rw[Array.any_eq_false'] at h
   simpa using h b (Array.mem_of_getElem? e)
 unfold OpenClaim.goesBy Program.goesAt Program.goesFrom;rw[d]
 cases P.funcNamed _ with
 | none=>rfl
 | some f=>simp[a f]
def Pv:Tryz.pinned.checked.prog.funcs.any Func.goes=false:=by kernel_rfl
