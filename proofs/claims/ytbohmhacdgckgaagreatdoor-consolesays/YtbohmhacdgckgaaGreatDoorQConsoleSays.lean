/- For every number of clusters and places and every list of lines, ConsoleSays answers true, ends, and changes no argument: the console answers each line as the document does, over a yard that goes on from line to line. Seven variables of Go's library (math/bits.deBruijn64tab, internal/strconv.uint64pow10, strconv.ErrRange and strconv.ErrSyntax, which the road reads; math/bits.deBruijn32tab, unicode/utf8.acceptRanges, and unicode/utf8.first, a pinned one, which it never reads) are listed; the card ties them to the program's text. No other condition. -/
import Derived.Test.YtbohmhacdgckgaaGreatDoorQConsoleSaysR
import Derived.Test.YtbohmhacdgckgaaGreatDoorQGoesNo
set_option linter.all false
namespace Go.Proofs.YtbohmhacdgckgaaGreatDoor
open Option renaming some->S
open Go.Proofs.Tryz Go.ChangeShapes Go.WideShapes Go.ChangeAt Go.WideMaps Go.WideElems Go.RowKit
theorem consoleSays_holds:Rows.ConsoleSaysCardSaid :=
 Claim7.holds_tied_plain_at .later [] [.data,.data,.data,.data,.sentinel,.sentinel,.pinned] true Rows.consoleSaysCard.stood.harness true
  consoleSays.row (λ_ h=>by cases h) (by kernel_rfl) (λ_ h=>by cases h) consoleSays_row_tie rfl ⟨rfl,rfl⟩ (by kernel_rfl) rfl
  (λf i d g=>by
    obtain rfl:f=5:=jaQ ((show prog.funcNamed Rows.consoleSaysRow.func=S 5 by kernel_rfl).symm.trans d) |>.symm
    obtain rfl:i=f5:=(jaQ (func5.symm.trans g)).symm
    exact⟨by kernel_rfl,λj t a=>by
     rw[params5] at a;have b:t∈[3,3,44]:=by simpa using Array.mem_of_getElem? a
     have c:([3,3,44].all λu => !prog.wantsStandIn u)=true:=by kernel_rfl
     exact(show prog.wantsStandIn t=false by simpa using List.all_eq_true.1 c t b)⟩)
  (QN Ui rfl)
#print axioms consoleSays_holds
