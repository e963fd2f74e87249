/- For every number of clusters and places and every list of acts, crashes among them, YardSays answers true, ends, and changes no argument: the yard answers each act as the document's, and stands as the document's after each sixth and in the end. Three tables of Go's library (math/bits.deBruijn64tab, which the road reads; unicode/utf8.acceptRanges, and unicode/utf8.first, a pinned one, which it never reads) are listed; the card ties them to the program's text. No other condition. -/
import Derived.Test.YtbohmhacdgckgaaGreatDoorQYardSaysR
import Derived.Test.YtbohmhacdgckgaaGreatDoorQGoesNo
set_option linter.all false
namespace Go.Proofs.YtbohmhacdgckgaaGreatDoor
open Option renaming some->S
open Go.Proofs.Tryz Go.ChangeShapes Go.WideShapes Go.ChangeAt Go.WideMaps Go.WideElems Go.RowKit
theorem yardSays_holds:Rows.YardSaysCardSaid :=
  Claim7.holds_tied_plain_at .later [] _ true _ true
    yardSays.row (λ_ h=>by cases h) (by kernel_rfl) (λ_ h=>by cases h) yardSays_row_tie rfl ⟨rfl,rfl⟩ (by kernel_rfl) rfl
    (λf i d g=>by
      obtain rfl:f=3:=jaO ((show prog.funcNamed _=S 3 by kernel_rfl).symm.trans d) |>.symm
      obtain rfl:i=f3:=(jaO (func3.symm.trans g)).symm
      exact⟨by kernel_rfl,λj t a=>by
        rw[params3] at a;have b:t∈[3,3,22]:=by simpa using Array.mem_of_getElem? a
        have c:([3,3,22].all λu => !prog.wantsStandIn u)=true:=by kernel_rfl
        exact(show prog.wantsStandIn t=false by simpa using List.all_eq_true.1 c t b)⟩)
    (Ny Pv rfl)
#print axioms yardSays_holds
