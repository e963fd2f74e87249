/-
  DERIVED. GIVEN WITH THE SEED: THE CARDS: each row of YtcikpopbecnmkabGreatDoorRows.lean that lists a variable, with what it lists TIED to the program's text (the seventh form; the later family's looks); each row that meets fmt, with fmt's text TOLD by the authors' own Lean function (tested against real Go, not proved from fmt's source: count such statements apart). THE CARD IS WHAT COUNTS. Prove the row's statement (the work); the ties are given (YtcikpopbecnmkabGreatDoorTie.lean); close each card by the builder's one call (the guide's Derived/Test/ToyasCard.lean, 'card_holds'). Laid BY PROGRAM, IN A SANDBOX (cutbox-door.mjs). By AI agents, Wed Nov 11 2026. No macro, syntax, notation, axiom, sorry.
-/
import Derived.Test.YtcikpopbecnmkabGreatDoorRows
import GoSem.ClaimSeven
namespace Go.Proofs.YtcikpopbecnmkabGreatDoor
namespace Rows

/-- THE TIED CARD OF 'stackyardlaw.ChainSays'. -/
def chainSaysCard : Claim7 := { stood := { row := chainSaysRow, standIns := [], harness := (true, "c4033db4d8c80f187d9bc0aeec6b18a7bb51ab2dd5f9c465808173dfd25d51d0"), looks := true }, kinds := [], alts := [], laidByText := true, laidKinds := [.data, .pinned], laidTests := true, laidLooks := .later }
def ChainSaysCardSaid : Prop := Claim7.holds Tryz.pinned (.plain (OpenSpec.ofChange chainSaysSpec)) chainSaysCard

/-- THE SECOND FORM's CARD OF 'stackyardlaw.ChainSays'. -/
def chainSaysUptoCard : Claim7 := { stood := { row := chainSaysUptoRow, standIns := [], harness := (true, "c4033db4d8c80f187d9bc0aeec6b18a7bb51ab2dd5f9c465808173dfd25d51d0"), looks := true }, kinds := [], alts := [], laidByText := true, laidKinds := [.data, .pinned], laidTests := true, laidLooks := .later }
def ChainSaysUptoCardSaid : Prop := Claim7.holds Tryz.pinned (.plain (OpenSpec.upto chainSaysSpec)) chainSaysUptoCard
end Rows
end Go.Proofs.YtcikpopbecnmkabGreatDoor
