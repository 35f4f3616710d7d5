/-
  DERIVED. GIVEN WITH THE SEED: THE CARDS: each row of YtcefoeaakdemmaaDoorRows.lean that lists a variable, with what it lists TIED to the program's text (the seventh form; the later family's looks); each row that meets fmt, with fmt's text TOLD by the authors' own Lean function (tested against real Go, not proved from fmt's source: count such statements apart). THE CARD IS WHAT COUNTS. Prove the row's statement (the work); the ties are given (YtcefoeaakdemmaaDoorTie.lean); close each card by the builder's one call (the guide's Derived/Test/ToyasCard.lean, 'card_holds'). Laid BY PROGRAM, IN A SANDBOX (cutbox-door.mjs). By AI agents, Wed Nov 11 2026. No macro, syntax, notation, axiom, sorry.
-/
import Derived.Test.YtcefoeaakdemmaaDoorRows
import GoSem.ClaimSeven
namespace Go.Proofs.YtcefoeaakdemmaaDoor
namespace Rows

/-- THE TIED CARD OF 'grapnellaw06.BlockMoved'. -/
def blockMovedCard : Claim7 := { stood := { row := blockMovedRow, standIns := [], harness := (true, "a80961569d3dae5787ae5b01a6d09410d8b9dea8b83af40d475ee149ec29f78d"), looks := true }, kinds := [], alts := [], laidByText := true, laidKinds := [.data, .pinned], laidTests := true, laidLooks := .later }
def BlockMovedCardSaid : Prop := Claim7.holds Tryd.pinned (.plain (OpenSpec.ofChange blockMovedSpec)) blockMovedCard

/-- THE TIED CARD OF 'grapnellaw06.BlockTorn'. -/
def blockTornCard : Claim7 := { stood := { row := blockTornRow, standIns := [], harness := (true, "a80961569d3dae5787ae5b01a6d09410d8b9dea8b83af40d475ee149ec29f78d"), looks := true }, kinds := [], alts := [], laidByText := true, laidKinds := [.data, .pinned], laidTests := true, laidLooks := .later }
def BlockTornCardSaid : Prop := Claim7.holds Tryd.pinned (.plain (OpenSpec.ofChange blockTornSpec)) blockTornCard

/-- THE TIED CARD OF 'grapnellaw06.BlockLooks'. -/
def blockLooksCard : Claim7 := { stood := { row := blockLooksRow, standIns := [], harness := (true, "a80961569d3dae5787ae5b01a6d09410d8b9dea8b83af40d475ee149ec29f78d"), looks := true }, kinds := [], alts := [], laidByText := true, laidKinds := [.data, .pinned], laidTests := true, laidLooks := .later }
def BlockLooksCardSaid : Prop := Claim7.holds Tryd.pinned (.plain (OpenSpec.ofChange blockLooksSpec)) blockLooksCard

/-- THE SECOND FORM's CARD OF 'grapnellaw06.BlockMoved'. -/
def blockMovedUptoCard : Claim7 := { stood := { row := blockMovedUptoRow, standIns := [], harness := (true, "a80961569d3dae5787ae5b01a6d09410d8b9dea8b83af40d475ee149ec29f78d"), looks := true }, kinds := [], alts := [], laidByText := true, laidKinds := [.data, .pinned], laidTests := true, laidLooks := .later }
def BlockMovedUptoCardSaid : Prop := Claim7.holds Tryd.pinned (.plain (OpenSpec.upto blockMovedSpec)) blockMovedUptoCard

/-- THE SECOND FORM's CARD OF 'grapnellaw06.BlockTorn'. -/
def blockTornUptoCard : Claim7 := { stood := { row := blockTornUptoRow, standIns := [], harness := (true, "a80961569d3dae5787ae5b01a6d09410d8b9dea8b83af40d475ee149ec29f78d"), looks := true }, kinds := [], alts := [], laidByText := true, laidKinds := [.data, .pinned], laidTests := true, laidLooks := .later }
def BlockTornUptoCardSaid : Prop := Claim7.holds Tryd.pinned (.plain (OpenSpec.upto blockTornSpec)) blockTornUptoCard

/-- THE SECOND FORM's CARD OF 'grapnellaw06.BlockLooks'. -/
def blockLooksUptoCard : Claim7 := { stood := { row := blockLooksUptoRow, standIns := [], harness := (true, "a80961569d3dae5787ae5b01a6d09410d8b9dea8b83af40d475ee149ec29f78d"), looks := true }, kinds := [], alts := [], laidByText := true, laidKinds := [.data, .pinned], laidTests := true, laidLooks := .later }
def BlockLooksUptoCardSaid : Prop := Claim7.holds Tryd.pinned (.plain (OpenSpec.upto blockLooksSpec)) blockLooksUptoCard
end Rows
end Go.Proofs.YtcefoeaakdemmaaDoor
