/-
  DERIVED. GIVEN WITH THE SEED: THE CARDS: each row of YtfndgiddoijdeabDoorRows.lean that lists a variable, with what it lists TIED to the program's text (the seventh form; the later family's looks); each row that meets fmt, with fmt's text TOLD by the authors' own Lean function (tested against real Go, not proved from fmt's source: count such statements apart). THE CARD IS WHAT COUNTS. Prove the row's statement (the work); the ties are given (YtfndgiddoijdeabDoorTie.lean); close each card by the builder's one call (the guide's Derived/Test/ToyasCard.lean, 'card_holds'). Laid BY PROGRAM, IN A SANDBOX (cutbox-door.mjs). By AI agents, Wed Nov 11 2026. No macro, syntax, notation, axiom, sorry.
-/
import Derived.Test.YtfndgiddoijdeabDoorRows
import GoSem.ClaimSeven
namespace Go.Proofs.YtfndgiddoijdeabDoor
namespace Rows

/-- THE TIED CARD OF 'grapnellaw02.SumBegins'. -/
def sumBeginsCard : Claim7 := { stood := { row := sumBeginsRow, standIns := [], harness := (true, "320481a36fe14809e8cf7a7b6bcc81eacba19ed232cf7eef3f83a3cfe608eae8"), looks := false }, kinds := [], alts := [], laidByText := true, laidKinds := [.data, .data], laidTests := true, laidLooks := .later }
def SumBeginsCardSaid : Prop := Claim7.holds Tryd.pinned (.plain (OpenSpec.ofChange sumBeginsSpec)) sumBeginsCard

/-- THE TIED CARD OF 'grapnellaw02.SumTwo'. -/
def sumTwoCard : Claim7 := { stood := { row := sumTwoRow, standIns := [], harness := (true, "320481a36fe14809e8cf7a7b6bcc81eacba19ed232cf7eef3f83a3cfe608eae8"), looks := false }, kinds := [], alts := [], laidByText := true, laidKinds := [.data, .data], laidTests := true, laidLooks := .later }
def SumTwoCardSaid : Prop := Claim7.holds Tryd.pinned (.plain (OpenSpec.ofChange sumTwoSpec)) sumTwoCard

/-- THE TIED CARD OF 'grapnellaw02.SumNobody'. -/
def sumNobodyCard : Claim7 := { stood := { row := sumNobodyRow, standIns := [], harness := (true, "320481a36fe14809e8cf7a7b6bcc81eacba19ed232cf7eef3f83a3cfe608eae8"), looks := false }, kinds := [], alts := [], laidByText := true, laidKinds := [.data, .data], laidTests := true, laidLooks := .later }
def SumNobodyCardSaid : Prop := Claim7.holds Tryd.pinned (.plain (OpenSpec.ofChange sumNobodySpec)) sumNobodyCard

/-- THE SECOND FORM's CARD OF 'grapnellaw02.SumBegins'. -/
def sumBeginsUptoCard : Claim7 := { stood := { row := sumBeginsUptoRow, standIns := [], harness := (true, "320481a36fe14809e8cf7a7b6bcc81eacba19ed232cf7eef3f83a3cfe608eae8"), looks := false }, kinds := [], alts := [], laidByText := true, laidKinds := [.data, .data], laidTests := true, laidLooks := .later }
def SumBeginsUptoCardSaid : Prop := Claim7.holds Tryd.pinned (.plain (OpenSpec.upto sumBeginsSpec)) sumBeginsUptoCard

/-- THE SECOND FORM's CARD OF 'grapnellaw02.SumTwo'. -/
def sumTwoUptoCard : Claim7 := { stood := { row := sumTwoUptoRow, standIns := [], harness := (true, "320481a36fe14809e8cf7a7b6bcc81eacba19ed232cf7eef3f83a3cfe608eae8"), looks := false }, kinds := [], alts := [], laidByText := true, laidKinds := [.data, .data], laidTests := true, laidLooks := .later }
def SumTwoUptoCardSaid : Prop := Claim7.holds Tryd.pinned (.plain (OpenSpec.upto sumTwoSpec)) sumTwoUptoCard

/-- THE SECOND FORM's CARD OF 'grapnellaw02.SumNobody'. -/
def sumNobodyUptoCard : Claim7 := { stood := { row := sumNobodyUptoRow, standIns := [], harness := (true, "320481a36fe14809e8cf7a7b6bcc81eacba19ed232cf7eef3f83a3cfe608eae8"), looks := false }, kinds := [], alts := [], laidByText := true, laidKinds := [.data, .data], laidTests := true, laidLooks := .later }
def SumNobodyUptoCardSaid : Prop := Claim7.holds Tryd.pinned (.plain (OpenSpec.upto sumNobodySpec)) sumNobodyUptoCard
end Rows
end Go.Proofs.YtfndgiddoijdeabDoor
