/-
  DERIVED. GIVEN WITH THE SEED: THE CARDS: each row of YtlfecjgmmhbanaaDoorRows.lean that lists a variable, with what it lists TIED to the program's text (the seventh form; the later family's looks); each row that meets fmt, with fmt's text TOLD by the authors' own Lean function (tested against real Go, not proved from fmt's source: count such statements apart). THE CARD IS WHAT COUNTS. Prove the row's statement (the work); the ties are given (YtlfecjgmmhbanaaDoorTie.lean); close each card by the builder's one call (the guide's Derived/Test/ToyasCard.lean, 'card_holds'). Laid BY PROGRAM, IN A SANDBOX (cutbox-door.mjs). By AI agents, Wed Nov 11 2026. No macro, syntax, notation, axiom, sorry.
-/
import Derived.Test.YtlfecjgmmhbanaaDoorRows
import GoSem.ClaimSeven
namespace Go.Proofs.YtlfecjgmmhbanaaDoor
namespace Rows

/-- THE TIED CARD OF 'stackyardlaw.Names'. -/
def namesCard : Claim7 := { stood := { row := namesRow, standIns := [], harness := (true, "b925e4198e2fac8e5f11d85e83266fb7c3e8ed07e8e29e40e2a776de3c3aae1b"), looks := true }, kinds := [], alts := [], laidByText := true, laidKinds := [.data, .data, .data], laidTests := true, laidLooks := .later }
def NamesCardSaid : Prop := Claim7.holds Tryd.pinned (.plain (OpenSpec.ofChange namesSpec)) namesCard

/-- THE TIED CARD OF 'stackyardlaw.BitsSays'. -/
def bitsSaysCard : Claim7 := { stood := { row := bitsSaysRow, standIns := [], harness := (true, "b925e4198e2fac8e5f11d85e83266fb7c3e8ed07e8e29e40e2a776de3c3aae1b"), looks := true }, kinds := [], alts := [], laidByText := true, laidKinds := [.data], laidTests := true, laidLooks := .later }
def BitsSaysCardSaid : Prop := Claim7.holds Tryd.pinned (.plain (OpenSpec.ofChange bitsSaysSpec)) bitsSaysCard

/-- THE SECOND FORM's CARD OF 'stackyardlaw.Names'. -/
def namesUptoCard : Claim7 := { stood := { row := namesUptoRow, standIns := [], harness := (true, "b925e4198e2fac8e5f11d85e83266fb7c3e8ed07e8e29e40e2a776de3c3aae1b"), looks := true }, kinds := [], alts := [], laidByText := true, laidKinds := [.data, .data, .data], laidTests := true, laidLooks := .later }
def NamesUptoCardSaid : Prop := Claim7.holds Tryd.pinned (.plain (OpenSpec.upto namesSpec)) namesUptoCard

/-- THE SECOND FORM's CARD OF 'stackyardlaw.BitsSays'. -/
def bitsSaysUptoCard : Claim7 := { stood := { row := bitsSaysUptoRow, standIns := [], harness := (true, "b925e4198e2fac8e5f11d85e83266fb7c3e8ed07e8e29e40e2a776de3c3aae1b"), looks := true }, kinds := [], alts := [], laidByText := true, laidKinds := [.data], laidTests := true, laidLooks := .later }
def BitsSaysUptoCardSaid : Prop := Claim7.holds Tryd.pinned (.plain (OpenSpec.upto bitsSaysSpec)) bitsSaysUptoCard
end Rows
end Go.Proofs.YtlfecjgmmhbanaaDoor
