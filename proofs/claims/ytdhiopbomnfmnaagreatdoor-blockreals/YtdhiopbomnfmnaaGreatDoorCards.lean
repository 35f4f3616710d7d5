/-
  DERIVED. GIVEN WITH THE SEED: THE CARDS: each row of YtdhiopbomnfmnaaGreatDoorRows.lean that lists a variable, with what it lists TIED to the program's text (the seventh form; the later family's looks); each row that meets fmt, with fmt's text TOLD by the authors' own Lean function (tested against real Go, not proved from fmt's source: count such statements apart). THE CARD IS WHAT COUNTS. Prove the row's statement (the work); the ties are given (YtdhiopbomnfmnaaGreatDoorTie.lean); close each card by the builder's one call (the guide's Derived/Test/ToyasCard.lean, 'card_holds'). Laid BY PROGRAM, IN A SANDBOX (cutbox-door.mjs). By AI agents, Wed Nov 11 2026. No macro, syntax, notation, axiom, sorry.
-/
import Derived.Test.YtdhiopbomnfmnaaGreatDoorRows
import GoSem.ClaimSeven
namespace Go.Proofs.YtdhiopbomnfmnaaGreatDoor
namespace Rows

/-- THE TIED CARD OF 'grapnellaw06.BlockReals'. -/
def blockRealsCard : Claim7 := { stood := { row := blockRealsRow, standIns := [], harness := (true, "2ec53c060755a4f26309b1fac3a441dace941ed67c48b640704dc5fc7d7b5e96"), looks := true }, kinds := [], alts := [], laidByText := true, laidKinds := [.data, .data, .data, .pinned], laidTests := true, laidLooks := .later }
def BlockRealsCardSaid : Prop := Claim7.holds Tryz.pinned (.plain (OpenSpec.ofChange blockRealsSpec)) blockRealsCard

/-- THE SECOND FORM's CARD OF 'grapnellaw06.BlockReals'. -/
def blockRealsUptoCard : Claim7 := { stood := { row := blockRealsUptoRow, standIns := [], harness := (true, "2ec53c060755a4f26309b1fac3a441dace941ed67c48b640704dc5fc7d7b5e96"), looks := true }, kinds := [], alts := [], laidByText := true, laidKinds := [.data, .data, .data, .pinned], laidTests := true, laidLooks := .later }
def BlockRealsUptoCardSaid : Prop := Claim7.holds Tryz.pinned (.plain (OpenSpec.upto blockRealsSpec)) blockRealsUptoCard
end Rows
end Go.Proofs.YtdhiopbomnfmnaaGreatDoor
