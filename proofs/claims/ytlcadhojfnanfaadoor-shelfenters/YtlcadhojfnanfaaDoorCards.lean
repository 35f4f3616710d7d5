/-
  DERIVED. GIVEN WITH THE SEED: THE CARDS: each row of YtlcadhojfnanfaaDoorRows.lean that lists a variable, with what it lists TIED to the program's text (the seventh form; the later family's looks); each row that meets fmt, with fmt's text TOLD by the authors' own Lean function (tested against real Go, not proved from fmt's source: count such statements apart). THE CARD IS WHAT COUNTS. Prove the row's statement (the work); the ties are given (YtlcadhojfnanfaaDoorTie.lean); close each card by the builder's one call (the guide's Derived/Test/ToyasCard.lean, 'card_holds'). Laid BY PROGRAM, IN A SANDBOX (cutbox-door.mjs). By AI agents, Wed Nov 11 2026. No macro, syntax, notation, axiom, sorry.
-/
import Derived.Test.YtlcadhojfnanfaaDoorRows
import GoSem.ClaimSeven
namespace Go.Proofs.YtlcadhojfnanfaaDoor
namespace Rows

/-- THE TIED CARD OF 'grapnellaw11.ShelfRights'. -/
def shelfRightsCard : Claim7 := { stood := { row := shelfRightsRow, standIns := [], harness := (true, "4ab1c63ef4a4bade3ffaf0dde5632c8fdb95b2a4143ca7010fec9330294c626e"), looks := true }, kinds := [], alts := [], laidByText := true, laidKinds := [.data, .pinned], laidTests := true, laidLooks := .later }
def ShelfRightsCardSaid : Prop := Claim7.holds Tryd.pinned (.plain (OpenSpec.ofChange shelfRightsSpec)) shelfRightsCard

/-- THE TIED CARD OF 'grapnellaw11.ShelfEnters'. -/
def shelfEntersCard : Claim7 := { stood := { row := shelfEntersRow, standIns := [], harness := (true, "4ab1c63ef4a4bade3ffaf0dde5632c8fdb95b2a4143ca7010fec9330294c626e"), looks := true }, kinds := [], alts := [], laidByText := true, laidKinds := [.data, .pinned], laidTests := true, laidLooks := .later }
def ShelfEntersCardSaid : Prop := Claim7.holds Tryd.pinned (.plain (OpenSpec.ofChange shelfEntersSpec)) shelfEntersCard

/-- THE TIED CARD OF 'grapnellaw11.ShelfKept'. -/
def shelfKeptCard : Claim7 := { stood := { row := shelfKeptRow, standIns := [], harness := (true, "4ab1c63ef4a4bade3ffaf0dde5632c8fdb95b2a4143ca7010fec9330294c626e"), looks := true }, kinds := [], alts := [], laidByText := true, laidKinds := [.data, .pinned], laidTests := true, laidLooks := .later }
def ShelfKeptCardSaid : Prop := Claim7.holds Tryd.pinned (.plain (OpenSpec.ofChange shelfKeptSpec)) shelfKeptCard

/-- THE SECOND FORM's CARD OF 'grapnellaw11.ShelfRights'. -/
def shelfRightsUptoCard : Claim7 := { stood := { row := shelfRightsUptoRow, standIns := [], harness := (true, "4ab1c63ef4a4bade3ffaf0dde5632c8fdb95b2a4143ca7010fec9330294c626e"), looks := true }, kinds := [], alts := [], laidByText := true, laidKinds := [.data, .pinned], laidTests := true, laidLooks := .later }
def ShelfRightsUptoCardSaid : Prop := Claim7.holds Tryd.pinned (.plain (OpenSpec.upto shelfRightsSpec)) shelfRightsUptoCard

/-- THE SECOND FORM's CARD OF 'grapnellaw11.ShelfEnters'. -/
def shelfEntersUptoCard : Claim7 := { stood := { row := shelfEntersUptoRow, standIns := [], harness := (true, "4ab1c63ef4a4bade3ffaf0dde5632c8fdb95b2a4143ca7010fec9330294c626e"), looks := true }, kinds := [], alts := [], laidByText := true, laidKinds := [.data, .pinned], laidTests := true, laidLooks := .later }
def ShelfEntersUptoCardSaid : Prop := Claim7.holds Tryd.pinned (.plain (OpenSpec.upto shelfEntersSpec)) shelfEntersUptoCard

/-- THE SECOND FORM's CARD OF 'grapnellaw11.ShelfKept'. -/
def shelfKeptUptoCard : Claim7 := { stood := { row := shelfKeptUptoRow, standIns := [], harness := (true, "4ab1c63ef4a4bade3ffaf0dde5632c8fdb95b2a4143ca7010fec9330294c626e"), looks := true }, kinds := [], alts := [], laidByText := true, laidKinds := [.data, .pinned], laidTests := true, laidLooks := .later }
def ShelfKeptUptoCardSaid : Prop := Claim7.holds Tryd.pinned (.plain (OpenSpec.upto shelfKeptSpec)) shelfKeptUptoCard
end Rows
end Go.Proofs.YtlcadhojfnanfaaDoor
