/-
  DERIVED. GIVEN WITH THE SEED: THE CARDS: each row of YtndjnecjnfcapaaDoorRows.lean that lists a variable, with what it lists TIED to the program's text (the seventh form; the later family's looks); each row that meets fmt, with fmt's text TOLD by the authors' own Lean function (tested against real Go, not proved from fmt's source: count such statements apart). THE CARD IS WHAT COUNTS. Prove the row's statement (the work); the ties are given (YtndjnecjnfcapaaDoorTie.lean); close each card by the builder's one call (the guide's Derived/Test/ToyasCard.lean, 'card_holds'). Laid BY PROGRAM, IN A SANDBOX (cutbox-door.mjs). By AI agents, Wed Nov 11 2026. No macro, syntax, notation, axiom, sorry.
-/
import Derived.Test.YtndjnecjnfcapaaDoorRows
import GoSem.ClaimSeven
namespace Go.Proofs.YtndjnecjnfcapaaDoor
namespace Rows

/-- THE TIED CARD OF 'grapnellaw11.ShelfPages'. -/
def shelfPagesCard : Claim7 := { stood := { row := shelfPagesRow, standIns := [], harness := (true, "010236c4c0859e8133235cdd4bb0f32ba0f2138555ce6728b77c42cd7905c51e"), looks := true }, kinds := [], alts := [], laidByText := true, laidKinds := [.data, .pinned], laidTests := true, laidLooks := .later }
def ShelfPagesCardSaid : Prop := Claim7.holds Tryd.pinned (.plain (OpenSpec.ofChange shelfPagesSpec)) shelfPagesCard

/-- THE TIED CARD OF 'grapnellaw11.ShelfBodies'. -/
def shelfBodiesCard : Claim7 := { stood := { row := shelfBodiesRow, standIns := [], harness := (true, "010236c4c0859e8133235cdd4bb0f32ba0f2138555ce6728b77c42cd7905c51e"), looks := true }, kinds := [], alts := [], laidByText := true, laidKinds := [.data, .pinned], laidTests := true, laidLooks := .later }
def ShelfBodiesCardSaid : Prop := Claim7.holds Tryd.pinned (.plain (OpenSpec.ofChange shelfBodiesSpec)) shelfBodiesCard

/-- THE TIED CARD OF 'grapnellaw11.ShelfBack'. -/
def shelfBackCard : Claim7 := { stood := { row := shelfBackRow, standIns := [], harness := (true, "010236c4c0859e8133235cdd4bb0f32ba0f2138555ce6728b77c42cd7905c51e"), looks := true }, kinds := [], alts := [], laidByText := true, laidKinds := [.data, .pinned], laidTests := true, laidLooks := .later }
def ShelfBackCardSaid : Prop := Claim7.holds Tryd.pinned (.plain (OpenSpec.ofChange shelfBackSpec)) shelfBackCard

/-- THE TIED CARD OF 'grapnellaw11.ShelfFinds'. -/
def shelfFindsCard : Claim7 := { stood := { row := shelfFindsRow, standIns := [], harness := (true, "010236c4c0859e8133235cdd4bb0f32ba0f2138555ce6728b77c42cd7905c51e"), looks := true }, kinds := [], alts := [], laidByText := true, laidKinds := [.data, .pinned], laidTests := true, laidLooks := .later }
def ShelfFindsCardSaid : Prop := Claim7.holds Tryd.pinned (.plain (OpenSpec.ofChange shelfFindsSpec)) shelfFindsCard

/-- THE TIED CARD OF 'grapnellaw11.ShelfNames'. -/
def shelfNamesCard : Claim7 := { stood := { row := shelfNamesRow, standIns := [], harness := (true, "010236c4c0859e8133235cdd4bb0f32ba0f2138555ce6728b77c42cd7905c51e"), looks := true }, kinds := [], alts := [], laidByText := true, laidKinds := [.data, .pinned], laidTests := true, laidLooks := .later }
def ShelfNamesCardSaid : Prop := Claim7.holds Tryd.pinned (.plain (OpenSpec.ofChange shelfNamesSpec)) shelfNamesCard

/-- THE TIED CARD OF 'grapnellaw11.ShelfRights'. -/
def shelfRightsCard : Claim7 := { stood := { row := shelfRightsRow, standIns := [], harness := (true, "010236c4c0859e8133235cdd4bb0f32ba0f2138555ce6728b77c42cd7905c51e"), looks := true }, kinds := [], alts := [], laidByText := true, laidKinds := [.data, .pinned], laidTests := true, laidLooks := .later }
def ShelfRightsCardSaid : Prop := Claim7.holds Tryd.pinned (.plain (OpenSpec.ofChange shelfRightsSpec)) shelfRightsCard

/-- THE SECOND FORM's CARD OF 'grapnellaw11.ShelfPages'. -/
def shelfPagesUptoCard : Claim7 := { stood := { row := shelfPagesUptoRow, standIns := [], harness := (true, "010236c4c0859e8133235cdd4bb0f32ba0f2138555ce6728b77c42cd7905c51e"), looks := true }, kinds := [], alts := [], laidByText := true, laidKinds := [.data, .pinned], laidTests := true, laidLooks := .later }
def ShelfPagesUptoCardSaid : Prop := Claim7.holds Tryd.pinned (.plain (OpenSpec.upto shelfPagesSpec)) shelfPagesUptoCard

/-- THE SECOND FORM's CARD OF 'grapnellaw11.ShelfBodies'. -/
def shelfBodiesUptoCard : Claim7 := { stood := { row := shelfBodiesUptoRow, standIns := [], harness := (true, "010236c4c0859e8133235cdd4bb0f32ba0f2138555ce6728b77c42cd7905c51e"), looks := true }, kinds := [], alts := [], laidByText := true, laidKinds := [.data, .pinned], laidTests := true, laidLooks := .later }
def ShelfBodiesUptoCardSaid : Prop := Claim7.holds Tryd.pinned (.plain (OpenSpec.upto shelfBodiesSpec)) shelfBodiesUptoCard

/-- THE SECOND FORM's CARD OF 'grapnellaw11.ShelfBack'. -/
def shelfBackUptoCard : Claim7 := { stood := { row := shelfBackUptoRow, standIns := [], harness := (true, "010236c4c0859e8133235cdd4bb0f32ba0f2138555ce6728b77c42cd7905c51e"), looks := true }, kinds := [], alts := [], laidByText := true, laidKinds := [.data, .pinned], laidTests := true, laidLooks := .later }
def ShelfBackUptoCardSaid : Prop := Claim7.holds Tryd.pinned (.plain (OpenSpec.upto shelfBackSpec)) shelfBackUptoCard

/-- THE SECOND FORM's CARD OF 'grapnellaw11.ShelfFinds'. -/
def shelfFindsUptoCard : Claim7 := { stood := { row := shelfFindsUptoRow, standIns := [], harness := (true, "010236c4c0859e8133235cdd4bb0f32ba0f2138555ce6728b77c42cd7905c51e"), looks := true }, kinds := [], alts := [], laidByText := true, laidKinds := [.data, .pinned], laidTests := true, laidLooks := .later }
def ShelfFindsUptoCardSaid : Prop := Claim7.holds Tryd.pinned (.plain (OpenSpec.upto shelfFindsSpec)) shelfFindsUptoCard

/-- THE SECOND FORM's CARD OF 'grapnellaw11.ShelfNames'. -/
def shelfNamesUptoCard : Claim7 := { stood := { row := shelfNamesUptoRow, standIns := [], harness := (true, "010236c4c0859e8133235cdd4bb0f32ba0f2138555ce6728b77c42cd7905c51e"), looks := true }, kinds := [], alts := [], laidByText := true, laidKinds := [.data, .pinned], laidTests := true, laidLooks := .later }
def ShelfNamesUptoCardSaid : Prop := Claim7.holds Tryd.pinned (.plain (OpenSpec.upto shelfNamesSpec)) shelfNamesUptoCard

/-- THE SECOND FORM's CARD OF 'grapnellaw11.ShelfRights'. -/
def shelfRightsUptoCard : Claim7 := { stood := { row := shelfRightsUptoRow, standIns := [], harness := (true, "010236c4c0859e8133235cdd4bb0f32ba0f2138555ce6728b77c42cd7905c51e"), looks := true }, kinds := [], alts := [], laidByText := true, laidKinds := [.data, .pinned], laidTests := true, laidLooks := .later }
def ShelfRightsUptoCardSaid : Prop := Claim7.holds Tryd.pinned (.plain (OpenSpec.upto shelfRightsSpec)) shelfRightsUptoCard
end Rows
end Go.Proofs.YtndjnecjnfcapaaDoor
