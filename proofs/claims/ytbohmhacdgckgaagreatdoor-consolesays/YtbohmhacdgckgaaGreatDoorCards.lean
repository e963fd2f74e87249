/-
  DERIVED. GIVEN WITH THE SEED: THE CARDS: each row of YtbohmhacdgckgaaGreatDoorRows.lean that lists a variable, with what it lists TIED to the program's text (the seventh form; the later family's looks); each row that meets fmt, with fmt's text TOLD by the authors' own Lean function (tested against real Go, not proved from fmt's source: count such statements apart). THE CARD IS WHAT COUNTS. Prove the row's statement (the work); the ties are given (YtbohmhacdgckgaaGreatDoorTie.lean); close each card by the builder's one call (the guide's Derived/Test/ToyasCard.lean, 'card_holds'). Laid BY PROGRAM, IN A SANDBOX (cutbox-door.mjs). By AI agents, Wed Nov 11 2026. No macro, syntax, notation, axiom, sorry.
-/
import Derived.Test.YtbohmhacdgckgaaGreatDoorRows
import GoSem.ClaimSeven
namespace Go.Proofs.YtbohmhacdgckgaaGreatDoor
namespace Rows

/-- THE TIED CARD OF 'stackyardlaw.YardSays'. -/
def yardSaysCard : Claim7 := { stood := { row := yardSaysRow, standIns := [], harness := (true, "62a1d35120d2a0d61768bf674017f691122111550fdbde3cd1bfc8ad4dcd68fa"), looks := true }, kinds := [], alts := [], laidByText := true, laidKinds := [.data, .data, .pinned], laidTests := true, laidLooks := .later }
def YardSaysCardSaid : Prop := Claim7.holds Tryz.pinned (.plain (OpenSpec.ofChange yardSaysSpec)) yardSaysCard

/-- THE TIED CARD OF 'stackyardlaw.YardOpens'. -/
def yardOpensCard : Claim7 := { stood := { row := yardOpensRow, standIns := [], harness := (true, "62a1d35120d2a0d61768bf674017f691122111550fdbde3cd1bfc8ad4dcd68fa"), looks := true }, kinds := [], alts := [], laidByText := true, laidKinds := [.data, .data, .pinned], laidTests := true, laidLooks := .later }
def YardOpensCardSaid : Prop := Claim7.holds Tryz.pinned (.plain (OpenSpec.ofChange yardOpensSpec)) yardOpensCard

/-- THE TIED CARD OF 'stackyardlaw.ConsoleSays'. -/
def consoleSaysCard : Claim7 := { stood := { row := consoleSaysRow, standIns := [], harness := (true, "62a1d35120d2a0d61768bf674017f691122111550fdbde3cd1bfc8ad4dcd68fa"), looks := true }, kinds := [], alts := [], laidByText := true, laidKinds := [.data, .data, .data, .data, .sentinel, .sentinel, .pinned], laidTests := true, laidLooks := .later }
def ConsoleSaysCardSaid : Prop := Claim7.holds Tryz.pinned (.plain (OpenSpec.ofChange consoleSaysSpec)) consoleSaysCard

/-- THE SECOND FORM's CARD OF 'stackyardlaw.YardSays'. -/
def yardSaysUptoCard : Claim7 := { stood := { row := yardSaysUptoRow, standIns := [], harness := (true, "62a1d35120d2a0d61768bf674017f691122111550fdbde3cd1bfc8ad4dcd68fa"), looks := true }, kinds := [], alts := [], laidByText := true, laidKinds := [.data, .data, .pinned], laidTests := true, laidLooks := .later }
def YardSaysUptoCardSaid : Prop := Claim7.holds Tryz.pinned (.plain (OpenSpec.upto yardSaysSpec)) yardSaysUptoCard

/-- THE SECOND FORM's CARD OF 'stackyardlaw.YardOpens'. -/
def yardOpensUptoCard : Claim7 := { stood := { row := yardOpensUptoRow, standIns := [], harness := (true, "62a1d35120d2a0d61768bf674017f691122111550fdbde3cd1bfc8ad4dcd68fa"), looks := true }, kinds := [], alts := [], laidByText := true, laidKinds := [.data, .data, .pinned], laidTests := true, laidLooks := .later }
def YardOpensUptoCardSaid : Prop := Claim7.holds Tryz.pinned (.plain (OpenSpec.upto yardOpensSpec)) yardOpensUptoCard

/-- THE SECOND FORM's CARD OF 'stackyardlaw.ConsoleSays'. -/
def consoleSaysUptoCard : Claim7 := { stood := { row := consoleSaysUptoRow, standIns := [], harness := (true, "62a1d35120d2a0d61768bf674017f691122111550fdbde3cd1bfc8ad4dcd68fa"), looks := true }, kinds := [], alts := [], laidByText := true, laidKinds := [.data, .data, .data, .data, .sentinel, .sentinel, .pinned], laidTests := true, laidLooks := .later }
def ConsoleSaysUptoCardSaid : Prop := Claim7.holds Tryz.pinned (.plain (OpenSpec.upto consoleSaysSpec)) consoleSaysUptoCard
end Rows
end Go.Proofs.YtbohmhacdgckgaaGreatDoor
