/- Whatever bytes stand on five devices and on the desk, and whatever acts come then: YardOpens answers true (J2; and as J3 to J7 say); its arguments stay. Three tables of Go's library (math/bits.deBruijn64tab, which the road reads; unicode/utf8.acceptRanges, and unicode/utf8.first, a pinned one, which it never reads) are listed; the card ties them to the program's text. No other condition. -/
import Derived.Test.YtbohmhacdgckgaaGreatDoorQOYardOpensR
import Derived.Test.YtbohmhacdgckgaaGreatDoorQOGoesNo
set_option linter.all false
namespace Go.Proofs.YtbohmhacdgckgaaGreatDoor
open Option renaming some->S
open Go.Proofs.Tryz Go.ChangeShapes Go.WideShapes Go.ChangeAt Go.WideMaps Go.WideElems Go.RowKit
theorem yardOpens_holds:Rows.YardOpensCardSaid :=
  Claim7.holds_tied_plain_at .later [] _ true _ true
    yardOpens.row (λ_ h=>by cases h) (by kernel_rfl) (λ_ h=>by cases h) yardOpens_row_tie rfl ⟨rfl,rfl⟩ (by kernel_rfl) rfl
    (λf i d g=>by
      obtain rfl:f=4:=jaN ((show prog.funcNamed _=S 4 by kernel_rfl).symm.trans d) |>.symm
      obtain rfl:i=f4:=(jaN (func4.symm.trans g)).symm
      exact⟨by kernel_rfl,λj t a=>by
        rw[params4] at a;have b:t∈[44,9,22]:=by simpa using Array.mem_of_getElem? a
        have c:([44,9,22].all λu => !prog.wantsStandIn u)=true:=by kernel_rfl
        exact(show prog.wantsStandIn t=false by simpa using List.all_eq_true.1 c t b)⟩)
    (Ny Pv rfl)
#print axioms yardOpens_holds
