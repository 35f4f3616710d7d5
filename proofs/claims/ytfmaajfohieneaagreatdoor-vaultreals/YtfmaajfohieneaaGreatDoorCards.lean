/-
  DERIVED. GIVEN WITH THE SEED: THE CARDS: each row of YtfmaajfohieneaaGreatDoorRows.lean that lists a variable, with what it lists TIED to the program's text (the seventh form; the later family's looks); each row that meets fmt, with fmt's text TOLD by the authors' own Lean function (tested against real Go, not proved from fmt's source: count such statements apart). THE CARD IS WHAT COUNTS. Prove the row's statement (the work); the ties are given (YtfmaajfohieneaaGreatDoorTie.lean); close each card by the builder's one call (the guide's Derived/Test/ToyasCard.lean, 'card_holds'). Laid BY PROGRAM, IN A SANDBOX (cutbox-door.mjs). By AI agents, Wed Nov 11 2026. No macro, syntax, notation, axiom, sorry.
-/
import Derived.Test.YtfmaajfohieneaaGreatDoorRows
import GoSem.ClaimSeven
namespace Go.Proofs.YtfmaajfohieneaaGreatDoor
namespace Rows

/-- THE TIED CARD OF 'grapnellaw05.VaultReals'. -/
def vaultRealsCard : Claim7 := { stood := { row := vaultRealsRow, standIns := [], harness := (true, "c185286d4472c7da51ce6ac12c5ac43d0f8fd85793772db143a925e2dd573cc3"), looks := false }, kinds := [], alts := [], laidByText := true, laidKinds := [.data, .data], laidTests := true, laidLooks := .later }
def VaultRealsCardSaid : Prop := Claim7.holds Tryz.pinned (.plain (OpenSpec.ofChange vaultRealsSpec)) vaultRealsCard

/-- THE SECOND FORM's CARD OF 'grapnellaw05.VaultReals'. -/
def vaultRealsUptoCard : Claim7 := { stood := { row := vaultRealsUptoRow, standIns := [], harness := (true, "c185286d4472c7da51ce6ac12c5ac43d0f8fd85793772db143a925e2dd573cc3"), looks := false }, kinds := [], alts := [], laidByText := true, laidKinds := [.data, .data], laidTests := true, laidLooks := .later }
def VaultRealsUptoCardSaid : Prop := Claim7.holds Tryz.pinned (.plain (OpenSpec.upto vaultRealsSpec)) vaultRealsUptoCard
end Rows
end Go.Proofs.YtfmaajfohieneaaGreatDoor
