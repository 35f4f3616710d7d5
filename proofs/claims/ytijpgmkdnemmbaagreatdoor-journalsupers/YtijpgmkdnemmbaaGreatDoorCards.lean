/-
  DERIVED. GIVEN WITH THE SEED: THE CARDS: each row of YtijpgmkdnemmbaaGreatDoorRows.lean that lists a variable, with what it lists TIED to the program's text (the seventh form; the later family's looks); each row that meets fmt, with fmt's text TOLD by the authors' own Lean function (tested against real Go, not proved from fmt's source: count such statements apart). THE CARD IS WHAT COUNTS. Prove the row's statement (the work); the ties are given (YtijpgmkdnemmbaaGreatDoorTie.lean); close each card by the builder's one call (the guide's Derived/Test/ToyasCard.lean, 'card_holds'). Laid BY PROGRAM, IN A SANDBOX (cutbox-door.mjs). By AI agents, Wed Nov 11 2026. No macro, syntax, notation, axiom, sorry.
-/
import Derived.Test.YtijpgmkdnemmbaaGreatDoorRows
import GoSem.ClaimSeven
namespace Go.Proofs.YtijpgmkdnemmbaaGreatDoor
namespace Rows

/-- THE TIED CARD OF 'grapnellaw12.JournalSupers'. -/
def journalSupersCard : Claim7 := { stood := { row := journalSupersRow, standIns := [], harness := (true, "ca747dd96510a9491e7842099a3080b26c83d7ebda73a5573336eeb5a571642b"), looks := true }, kinds := [], alts := [], laidByText := true, laidKinds := [.data, .handle, .data, .data, .pinned], laidTests := true, laidLooks := .later }
def JournalSupersCardSaid : Prop := Claim7.holds Tryz.pinned (.plain (OpenSpec.ofChange journalSupersSpec)) journalSupersCard

/-- THE SECOND FORM's CARD OF 'grapnellaw12.JournalSupers'. -/
def journalSupersUptoCard : Claim7 := { stood := { row := journalSupersUptoRow, standIns := [], harness := (true, "ca747dd96510a9491e7842099a3080b26c83d7ebda73a5573336eeb5a571642b"), looks := true }, kinds := [], alts := [], laidByText := true, laidKinds := [.data, .handle, .data, .data, .pinned], laidTests := true, laidLooks := .later }
def JournalSupersUptoCardSaid : Prop := Claim7.holds Tryz.pinned (.plain (OpenSpec.upto journalSupersSpec)) journalSupersUptoCard
end Rows
end Go.Proofs.YtijpgmkdnemmbaaGreatDoor
