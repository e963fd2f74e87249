/- A part. -/
import Derived.Test.YtbohmhacdgckgaaGreatDoorQB0
set_option linter.all false
namespace Go.Proofs.YtbohmhacdgckgaaGreatDoor
def QN{P}(h:P.funcs.any Func.goes=false){c:OpenClaim}(d:c.start=.entering):false=c.goesBy P:=by
 have a:∀ f,P.goes f=false:=λf=>by
  unfold Program.goes;rw[h,jbw,jbB,List.any_eq_false];intro g _
  cases e:P.funcs[g]? with
  | none=>simp
  | some b =>
   rw[Array.any_eq_false'] at h
   simpa using h b (Array.mem_of_getElem? e)
 unfold OpenClaim.goesBy Program.goesAt Program.goesFrom;rw[d]
 cases P.funcNamed _ with
 | none=>rfl
 | some f=>simp[a f]
def Ui:Tryz.pinned.checked.prog.funcs.any Func.goes=false:=by kernel_rfl
