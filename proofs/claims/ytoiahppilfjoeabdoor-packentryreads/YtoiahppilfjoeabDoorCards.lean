/-
  DERIVED. GIVEN WITH THE SEED: THE CARDS: each row of YtoiahppilfjoeabDoorRows.lean that lists a variable, with what it lists TIED to the program's text (the seventh form; the later family's looks); each row that meets fmt, with fmt's text TOLD by the authors' own Lean function (tested against real Go, not proved from fmt's source: count such statements apart). THE CARD IS WHAT COUNTS. Prove the row's statement (the work); the ties are given (YtoiahppilfjoeabDoorTie.lean); close each card by the builder's one call (the guide's Derived/Test/ToyasCard.lean, 'card_holds'). Laid BY PROGRAM, IN A SANDBOX (cutbox-door.mjs). By AI agents, Wed Nov 11 2026. No macro, syntax, notation, axiom, sorry.
-/
import Derived.Test.YtoiahppilfjoeabDoorRows
import GoSem.ClaimSeven
namespace Go.Proofs.YtoiahppilfjoeabDoor
namespace Rows

/-- THE TIED CARD OF 'grapnellaw01.PackInodeReads'. -/
def packInodeReadsCard : Claim7 := { stood := { row := packInodeReadsRow, standIns := [], harness := (true, "5e76414724991ea85d5b09129d7fdce155bc035745d5578c74fe497b2cf17099"), looks := true }, kinds := [], alts := [], laidByText := true, laidKinds := [.data, .pinned], laidTests := true, laidLooks := .later }
def PackInodeReadsCardSaid : Prop := Claim7.holds Tryd.pinned (.plain (OpenSpec.ofChange packInodeReadsSpec)) packInodeReadsCard

/-- THE TIED CARD OF 'grapnellaw01.PackEntryReads'. -/
def packEntryReadsCard : Claim7 := { stood := { row := packEntryReadsRow, standIns := [], harness := (true, "5e76414724991ea85d5b09129d7fdce155bc035745d5578c74fe497b2cf17099"), looks := true }, kinds := [], alts := [], laidByText := true, laidKinds := [.data, .pinned], laidTests := true, laidLooks := .later }
def PackEntryReadsCardSaid : Prop := Claim7.holds Tryd.pinned (.plain (OpenSpec.ofChange packEntryReadsSpec)) packEntryReadsCard

/-- THE TIED CARD OF 'grapnellaw01.PackSuperReads'. -/
def packSuperReadsCard : Claim7 := { stood := { row := packSuperReadsRow, standIns := [], harness := (true, "5e76414724991ea85d5b09129d7fdce155bc035745d5578c74fe497b2cf17099"), looks := true }, kinds := [], alts := [], laidByText := true, laidKinds := [.data, .pinned], laidTests := true, laidLooks := .later }
def PackSuperReadsCardSaid : Prop := Claim7.holds Tryd.pinned (.plain (OpenSpec.ofChange packSuperReadsSpec)) packSuperReadsCard

/-- THE SECOND FORM's CARD OF 'grapnellaw01.PackInodeReads'. -/
def packInodeReadsUptoCard : Claim7 := { stood := { row := packInodeReadsUptoRow, standIns := [], harness := (true, "5e76414724991ea85d5b09129d7fdce155bc035745d5578c74fe497b2cf17099"), looks := true }, kinds := [], alts := [], laidByText := true, laidKinds := [.data, .pinned], laidTests := true, laidLooks := .later }
def PackInodeReadsUptoCardSaid : Prop := Claim7.holds Tryd.pinned (.plain (OpenSpec.upto packInodeReadsSpec)) packInodeReadsUptoCard

/-- THE SECOND FORM's CARD OF 'grapnellaw01.PackEntryReads'. -/
def packEntryReadsUptoCard : Claim7 := { stood := { row := packEntryReadsUptoRow, standIns := [], harness := (true, "5e76414724991ea85d5b09129d7fdce155bc035745d5578c74fe497b2cf17099"), looks := true }, kinds := [], alts := [], laidByText := true, laidKinds := [.data, .pinned], laidTests := true, laidLooks := .later }
def PackEntryReadsUptoCardSaid : Prop := Claim7.holds Tryd.pinned (.plain (OpenSpec.upto packEntryReadsSpec)) packEntryReadsUptoCard

/-- THE SECOND FORM's CARD OF 'grapnellaw01.PackSuperReads'. -/
def packSuperReadsUptoCard : Claim7 := { stood := { row := packSuperReadsUptoRow, standIns := [], harness := (true, "5e76414724991ea85d5b09129d7fdce155bc035745d5578c74fe497b2cf17099"), looks := true }, kinds := [], alts := [], laidByText := true, laidKinds := [.data, .pinned], laidTests := true, laidLooks := .later }
def PackSuperReadsUptoCardSaid : Prop := Claim7.holds Tryd.pinned (.plain (OpenSpec.upto packSuperReadsSpec)) packSuperReadsUptoCard
end Rows
end Go.Proofs.YtoiahppilfjoeabDoor
