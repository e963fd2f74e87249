/-
  DERIVED. GIVEN WITH THE SEED: THE CARDS: each row of YtjegaljdindfaabGreatDoorRows.lean that lists a variable, with what it lists TIED to the program's text (the seventh form; the later family's looks); each row that meets fmt, with fmt's text TOLD by the authors' own Lean function (tested against real Go, not proved from fmt's source: count such statements apart). THE CARD IS WHAT COUNTS. Prove the row's statement (the work); the ties are given (YtjegaljdindfaabGreatDoorTie.lean); close each card by the builder's one call (the guide's Derived/Test/ToyasCard.lean, 'card_holds'). Laid BY PROGRAM, IN A SANDBOX (cutbox-door.mjs). By AI agents, Wed Nov 11 2026. No macro, syntax, notation, axiom, sorry.
-/
import Derived.Test.YtjegaljdindfaabGreatDoorRows
import GoSem.ClaimSeven
namespace Go.Proofs.YtjegaljdindfaabGreatDoor
namespace Rows

/-- THE TIED CARD OF 'stackyardlaw.ChainSays'. -/
def chainSaysCard : Claim7 := { stood := { row := chainSaysRow, standIns := [], harness := (true, "cbf1c8af4dfba77210eb53d29135f1f1d5d2301c5b0da5ae2b90cd30c83fc069"), looks := true }, kinds := [], alts := [], laidByText := true, laidKinds := [.data, .pinned], laidTests := true, laidLooks := .later }
def ChainSaysCardSaid : Prop := Claim7.holds Tryz.pinned (.plain (OpenSpec.ofChange chainSaysSpec)) chainSaysCard

/-- THE TIED CARD OF 'stackyardlaw.JobsSays'. -/
def jobsSaysCard : Claim7 := { stood := { row := jobsSaysRow, standIns := [], harness := (true, "cbf1c8af4dfba77210eb53d29135f1f1d5d2301c5b0da5ae2b90cd30c83fc069"), looks := true }, kinds := [], alts := [], laidByText := true, laidKinds := [.data, .data, .pinned], laidTests := true, laidLooks := .later }
def JobsSaysCardSaid : Prop := Claim7.holds Tryz.pinned (.plain (OpenSpec.ofChange jobsSaysSpec)) jobsSaysCard

/-- THE SECOND FORM's CARD OF 'stackyardlaw.ChainSays'. -/
def chainSaysUptoCard : Claim7 := { stood := { row := chainSaysUptoRow, standIns := [], harness := (true, "cbf1c8af4dfba77210eb53d29135f1f1d5d2301c5b0da5ae2b90cd30c83fc069"), looks := true }, kinds := [], alts := [], laidByText := true, laidKinds := [.data, .pinned], laidTests := true, laidLooks := .later }
def ChainSaysUptoCardSaid : Prop := Claim7.holds Tryz.pinned (.plain (OpenSpec.upto chainSaysSpec)) chainSaysUptoCard

/-- THE SECOND FORM's CARD OF 'stackyardlaw.JobsSays'. -/
def jobsSaysUptoCard : Claim7 := { stood := { row := jobsSaysUptoRow, standIns := [], harness := (true, "cbf1c8af4dfba77210eb53d29135f1f1d5d2301c5b0da5ae2b90cd30c83fc069"), looks := true }, kinds := [], alts := [], laidByText := true, laidKinds := [.data, .data, .pinned], laidTests := true, laidLooks := .later }
def JobsSaysUptoCardSaid : Prop := Claim7.holds Tryz.pinned (.plain (OpenSpec.upto jobsSaysSpec)) jobsSaysUptoCard
end Rows
end Go.Proofs.YtjegaljdindfaabGreatDoor
