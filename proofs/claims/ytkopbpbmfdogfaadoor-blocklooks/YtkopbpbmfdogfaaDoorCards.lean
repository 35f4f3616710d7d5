/-
  DERIVED. GIVEN WITH THE SEED: THE CARDS: each row of YtkopbpbmfdogfaaDoorRows.lean that lists a variable, with what it lists TIED to the program's text (the seventh form; the later family's looks); each row that meets fmt, with fmt's text TOLD by the authors' own Lean function (tested against real Go, not proved from fmt's source: count such statements apart). THE CARD IS WHAT COUNTS. Prove the row's statement (the work); the ties are given (YtkopbpbmfdogfaaDoorTie.lean); close each card by the builder's one call (the guide's Derived/Test/ToyasCard.lean, 'card_holds'). Laid BY PROGRAM, IN A SANDBOX (cutbox-door.mjs). By AI agents, Wed Nov 11 2026. No macro, syntax, notation, axiom, sorry.
-/
import Derived.Test.YtkopbpbmfdogfaaDoorRows
import GoSem.ClaimSeven
namespace Go.Proofs.YtkopbpbmfdogfaaDoor
namespace Rows

/-- THE TIED CARD OF 'grapnellaw06.BlockLooks'. -/
def blockLooksCard : Claim7 := { stood := { row := blockLooksRow, standIns := [], harness := (true, "bcc09feb6bc52df263a0939736dee5bce369d3a1541f3a294526e92af3880186"), looks := true }, kinds := [], alts := [], laidByText := true, laidKinds := [.data, .pinned], laidTests := true, laidLooks := .later }
def BlockLooksCardSaid : Prop := Claim7.holds Tryd.pinned (.plain (OpenSpec.ofChange blockLooksSpec)) blockLooksCard

/-- THE SECOND FORM's CARD OF 'grapnellaw06.BlockLooks'. -/
def blockLooksUptoCard : Claim7 := { stood := { row := blockLooksUptoRow, standIns := [], harness := (true, "bcc09feb6bc52df263a0939736dee5bce369d3a1541f3a294526e92af3880186"), looks := true }, kinds := [], alts := [], laidByText := true, laidKinds := [.data, .pinned], laidTests := true, laidLooks := .later }
def BlockLooksUptoCardSaid : Prop := Claim7.holds Tryd.pinned (.plain (OpenSpec.upto blockLooksSpec)) blockLooksUptoCard
end Rows
end Go.Proofs.YtkopbpbmfdogfaaDoor
