/-
  DERIVED. GIVEN WITH THE SEED: THE CARDS: each row of YtoopaigpjefonaaGreatDoorRows.lean that lists a variable, with what it lists TIED to the program's text (the seventh form; the later family's looks); each row that meets fmt, with fmt's text TOLD by the authors' own Lean function (tested against real Go, not proved from fmt's source: count such statements apart). THE CARD IS WHAT COUNTS. Prove the row's statement (the work); the ties are given (YtoopaigpjefonaaGreatDoorTie.lean); close each card by the builder's one call (the guide's Derived/Test/ToyasCard.lean, 'card_holds'). Laid BY PROGRAM, IN A SANDBOX (cutbox-door.mjs). By AI agents, Wed Nov 11 2026. No macro, syntax, notation, axiom, sorry.
-/
import Derived.Test.YtoopaigpjefonaaGreatDoorRows
import GoSem.ClaimSeven
namespace Go.Proofs.YtoopaigpjefonaaGreatDoor
namespace Rows

/-- THE TIED CARD OF 'grapnellaw12.JournalFormats'. -/
def journalFormatsCard : Claim7 := { stood := { row := journalFormatsRow, standIns := [], harness := (true, "9893de564c9cfae7f5a1137539775116839a7d6f2c1d7fa0b92df1bf088e8021"), looks := true }, kinds := [], alts := [], laidByText := true, laidKinds := [.data, .handle, .data, .data, .pinned], laidTests := true, laidLooks := .later }
def JournalFormatsCardSaid : Prop := Claim7.holds Tryz.pinned (.plain (OpenSpec.ofChange journalFormatsSpec)) journalFormatsCard

/-- THE TIED CARD OF 'grapnellaw12.JournalAnews'. -/
def journalAnewsCard : Claim7 := { stood := { row := journalAnewsRow, standIns := [], harness := (true, "9893de564c9cfae7f5a1137539775116839a7d6f2c1d7fa0b92df1bf088e8021"), looks := true }, kinds := [], alts := [], laidByText := true, laidKinds := [.data, .handle, .data, .data, .pinned], laidTests := true, laidLooks := .later }
def JournalAnewsCardSaid : Prop := Claim7.holds Tryz.pinned (.plain (OpenSpec.ofChange journalAnewsSpec)) journalAnewsCard

/-- THE SECOND FORM's CARD OF 'grapnellaw12.JournalFormats'. -/
def journalFormatsUptoCard : Claim7 := { stood := { row := journalFormatsUptoRow, standIns := [], harness := (true, "9893de564c9cfae7f5a1137539775116839a7d6f2c1d7fa0b92df1bf088e8021"), looks := true }, kinds := [], alts := [], laidByText := true, laidKinds := [.data, .handle, .data, .data, .pinned], laidTests := true, laidLooks := .later }
def JournalFormatsUptoCardSaid : Prop := Claim7.holds Tryz.pinned (.plain (OpenSpec.upto journalFormatsSpec)) journalFormatsUptoCard

/-- THE SECOND FORM's CARD OF 'grapnellaw12.JournalAnews'. -/
def journalAnewsUptoCard : Claim7 := { stood := { row := journalAnewsUptoRow, standIns := [], harness := (true, "9893de564c9cfae7f5a1137539775116839a7d6f2c1d7fa0b92df1bf088e8021"), looks := true }, kinds := [], alts := [], laidByText := true, laidKinds := [.data, .handle, .data, .data, .pinned], laidTests := true, laidLooks := .later }
def JournalAnewsUptoCardSaid : Prop := Claim7.holds Tryz.pinned (.plain (OpenSpec.upto journalAnewsSpec)) journalAnewsUptoCard
end Rows
end Go.Proofs.YtoopaigpjefonaaGreatDoor
