/-
  DERIVED. GIVEN WITH THE SEED: THE CARDS: each row of YtjlilbkddgggoaaDoorRows.lean that lists a variable, with what it lists TIED to the program's text (the seventh form; the later family's looks); each row that meets fmt, with fmt's text TOLD by the authors' own Lean function (tested against real Go, not proved from fmt's source: count such statements apart). THE CARD IS WHAT COUNTS. Prove the row's statement (the work); the ties are given (YtjlilbkddgggoaaDoorTie.lean); close each card by the builder's one call (the guide's Derived/Test/ToyasCard.lean, 'card_holds'). Laid BY PROGRAM, IN A SANDBOX (cutbox-door.mjs). By AI agents, Wed Nov 11 2026. No macro, syntax, notation, axiom, sorry.
-/
import Derived.Test.YtjlilbkddgggoaaDoorRows
import GoSem.ClaimSeven
namespace Go.Proofs.YtjlilbkddgggoaaDoor
namespace Rows

/-- THE TIED CARD OF 'grapnellaw01.PackHeadReads'. -/
def packHeadReadsCard : Claim7 := { stood := { row := packHeadReadsRow, standIns := [], harness := (true, "6226416969233017ebc8073ca1e1b81c9d4f8395d52902651854c8364f25dc6c"), looks := true }, kinds := [], alts := [], laidByText := true, laidKinds := [.data, .pinned], laidTests := true, laidLooks := .later }
def PackHeadReadsCardSaid : Prop := Claim7.holds Tryd.pinned (.plain (OpenSpec.ofChange packHeadReadsSpec)) packHeadReadsCard

/-- THE SECOND FORM's CARD OF 'grapnellaw01.PackHeadReads'. -/
def packHeadReadsUptoCard : Claim7 := { stood := { row := packHeadReadsUptoRow, standIns := [], harness := (true, "6226416969233017ebc8073ca1e1b81c9d4f8395d52902651854c8364f25dc6c"), looks := true }, kinds := [], alts := [], laidByText := true, laidKinds := [.data, .pinned], laidTests := true, laidLooks := .later }
def PackHeadReadsUptoCardSaid : Prop := Claim7.holds Tryd.pinned (.plain (OpenSpec.upto packHeadReadsSpec)) packHeadReadsUptoCard
end Rows
end Go.Proofs.YtjlilbkddgggoaaDoor
