/-
  DERIVED. GIVEN WITH THE SEED: THE CARDS: each row of YtcmoagphbpjenaaGreatDoorRows.lean that lists a variable, with what it lists TIED to the program's text (the seventh form; the later family's looks); each row that meets fmt, with fmt's text TOLD by the authors' own Lean function (tested against real Go, not proved from fmt's source: count such statements apart). THE CARD IS WHAT COUNTS. Prove the row's statement (the work); the ties are given (YtcmoagphbpjenaaGreatDoorTie.lean); close each card by the builder's one call (the guide's Derived/Test/ToyasCard.lean, 'card_holds'). Laid BY PROGRAM, IN A SANDBOX (cutbox-door.mjs). By AI agents, Wed Nov 11 2026. No macro, syntax, notation, axiom, sorry.
-/
import Derived.Test.YtcmoagphbpjenaaGreatDoorRows
import GoSem.ClaimSeven
namespace Go.Proofs.YtcmoagphbpjenaaGreatDoor
namespace Rows

/-- THE TIED CARD OF 'grapnellaw06.BlockGets'. -/
def blockGetsCard : Claim7 := { stood := { row := blockGetsRow, standIns := [], harness := (true, "5c21fd0ec9a0c8fd6d2ec81675c2bd76632623ef33a9adedd9569f2290b10230"), looks := true }, kinds := [], alts := [], laidByText := true, laidKinds := [.data, .handle, .pinned], laidTests := true, laidLooks := .later }
def BlockGetsCardSaid : Prop := Claim7.holds Tryz.pinned (.plain (OpenSpec.ofChange blockGetsSpec)) blockGetsCard

/-- THE TIED CARD OF 'grapnellaw06.BlockPuts'. -/
def blockPutsCard : Claim7 := { stood := { row := blockPutsRow, standIns := [], harness := (true, "5c21fd0ec9a0c8fd6d2ec81675c2bd76632623ef33a9adedd9569f2290b10230"), looks := true }, kinds := [], alts := [], laidByText := true, laidKinds := [.data, .handle, .pinned], laidTests := true, laidLooks := .later }
def BlockPutsCardSaid : Prop := Claim7.holds Tryz.pinned (.plain (OpenSpec.ofChange blockPutsSpec)) blockPutsCard

/-- THE TIED CARD OF 'grapnellaw06.BlockAlls'. -/
def blockAllsCard : Claim7 := { stood := { row := blockAllsRow, standIns := [], harness := (true, "5c21fd0ec9a0c8fd6d2ec81675c2bd76632623ef33a9adedd9569f2290b10230"), looks := true }, kinds := [], alts := [], laidByText := true, laidKinds := [.data, .handle, .pinned], laidTests := true, laidLooks := .later }
def BlockAllsCardSaid : Prop := Claim7.holds Tryz.pinned (.plain (OpenSpec.ofChange blockAllsSpec)) blockAllsCard

/-- THE SECOND FORM's CARD OF 'grapnellaw06.BlockGets'. -/
def blockGetsUptoCard : Claim7 := { stood := { row := blockGetsUptoRow, standIns := [], harness := (true, "5c21fd0ec9a0c8fd6d2ec81675c2bd76632623ef33a9adedd9569f2290b10230"), looks := true }, kinds := [], alts := [], laidByText := true, laidKinds := [.data, .handle, .pinned], laidTests := true, laidLooks := .later }
def BlockGetsUptoCardSaid : Prop := Claim7.holds Tryz.pinned (.plain (OpenSpec.upto blockGetsSpec)) blockGetsUptoCard

/-- THE SECOND FORM's CARD OF 'grapnellaw06.BlockPuts'. -/
def blockPutsUptoCard : Claim7 := { stood := { row := blockPutsUptoRow, standIns := [], harness := (true, "5c21fd0ec9a0c8fd6d2ec81675c2bd76632623ef33a9adedd9569f2290b10230"), looks := true }, kinds := [], alts := [], laidByText := true, laidKinds := [.data, .handle, .pinned], laidTests := true, laidLooks := .later }
def BlockPutsUptoCardSaid : Prop := Claim7.holds Tryz.pinned (.plain (OpenSpec.upto blockPutsSpec)) blockPutsUptoCard

/-- THE SECOND FORM's CARD OF 'grapnellaw06.BlockAlls'. -/
def blockAllsUptoCard : Claim7 := { stood := { row := blockAllsUptoRow, standIns := [], harness := (true, "5c21fd0ec9a0c8fd6d2ec81675c2bd76632623ef33a9adedd9569f2290b10230"), looks := true }, kinds := [], alts := [], laidByText := true, laidKinds := [.data, .handle, .pinned], laidTests := true, laidLooks := .later }
def BlockAllsUptoCardSaid : Prop := Claim7.holds Tryz.pinned (.plain (OpenSpec.upto blockAllsSpec)) blockAllsUptoCard
end Rows
end Go.Proofs.YtcmoagphbpjenaaGreatDoor
