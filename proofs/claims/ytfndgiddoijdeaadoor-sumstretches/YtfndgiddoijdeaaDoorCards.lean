/-
  DERIVED. GIVEN WITH THE SEED: THE CARDS: each row of YtfndgiddoijdeaaDoorRows.lean that lists a variable, with what it lists TIED to the program's text (the seventh form; the later family's looks); each row that meets fmt, with fmt's text TOLD by the authors' own Lean function (tested against real Go, not proved from fmt's source: count such statements apart). THE CARD IS WHAT COUNTS. Prove the row's statement (the work); the ties are given (YtfndgiddoijdeaaDoorTie.lean); close each card by the builder's one call (the guide's Derived/Test/ToyasCard.lean, 'card_holds'). Laid BY PROGRAM, IN A SANDBOX (cutbox-door.mjs). By AI agents, Wed Nov 11 2026. No macro, syntax, notation, axiom, sorry.
-/
import Derived.Test.YtfndgiddoijdeaaDoorRows
import GoSem.ClaimSeven
namespace Go.Proofs.YtfndgiddoijdeaaDoor
namespace Rows

/-- THE TIED CARD OF 'grapnellaw02.SumSums'. -/
def sumSumsCard : Claim7 := { stood := { row := sumSumsRow, standIns := [], harness := (true, "c64fec3fc56cd09cd852fd7d5362481b17580ca1bb3273a3e1bd497a152beebe"), looks := false }, kinds := [], alts := [], laidByText := true, laidKinds := [.data, .data], laidTests := true, laidLooks := .later }
def SumSumsCardSaid : Prop := Claim7.holds Tryd.pinned (.plain (OpenSpec.ofChange sumSumsSpec)) sumSumsCard

/-- THE TIED CARD OF 'grapnellaw02.SumMacs'. -/
def sumMacsCard : Claim7 := { stood := { row := sumMacsRow, standIns := [], harness := (true, "c64fec3fc56cd09cd852fd7d5362481b17580ca1bb3273a3e1bd497a152beebe"), looks := false }, kinds := [], alts := [], laidByText := true, laidKinds := [.data, .data], laidTests := true, laidLooks := .later }
def SumMacsCardSaid : Prop := Claim7.holds Tryd.pinned (.plain (OpenSpec.ofChange sumMacsSpec)) sumMacsCard

/-- THE TIED CARD OF 'grapnellaw02.SumParts'. -/
def sumPartsCard : Claim7 := { stood := { row := sumPartsRow, standIns := [], harness := (true, "c64fec3fc56cd09cd852fd7d5362481b17580ca1bb3273a3e1bd497a152beebe"), looks := false }, kinds := [], alts := [], laidByText := true, laidKinds := [.data, .data], laidTests := true, laidLooks := .later }
def SumPartsCardSaid : Prop := Claim7.holds Tryd.pinned (.plain (OpenSpec.ofChange sumPartsSpec)) sumPartsCard

/-- THE TIED CARD OF 'grapnellaw02.SumExpands'. -/
def sumExpandsCard : Claim7 := { stood := { row := sumExpandsRow, standIns := [], harness := (true, "c64fec3fc56cd09cd852fd7d5362481b17580ca1bb3273a3e1bd497a152beebe"), looks := false }, kinds := [], alts := [], laidByText := true, laidKinds := [.data, .data], laidTests := true, laidLooks := .later }
def SumExpandsCardSaid : Prop := Claim7.holds Tryd.pinned (.plain (OpenSpec.ofChange sumExpandsSpec)) sumExpandsCard

/-- THE TIED CARD OF 'grapnellaw02.SumStretches'. -/
def sumStretchesCard : Claim7 := { stood := { row := sumStretchesRow, standIns := [], harness := (true, "c64fec3fc56cd09cd852fd7d5362481b17580ca1bb3273a3e1bd497a152beebe"), looks := false }, kinds := [], alts := [], laidByText := true, laidKinds := [.data, .data], laidTests := true, laidLooks := .later }
def SumStretchesCardSaid : Prop := Claim7.holds Tryd.pinned (.plain (OpenSpec.ofChange sumStretchesSpec)) sumStretchesCard

/-- THE TIED CARD OF 'grapnellaw02.SumKeys'. -/
def sumKeysCard : Claim7 := { stood := { row := sumKeysRow, standIns := [], harness := (true, "c64fec3fc56cd09cd852fd7d5362481b17580ca1bb3273a3e1bd497a152beebe"), looks := false }, kinds := [], alts := [], laidByText := true, laidKinds := [.data, .data], laidTests := true, laidLooks := .later }
def SumKeysCardSaid : Prop := Claim7.holds Tryd.pinned (.plain (OpenSpec.ofChange sumKeysSpec)) sumKeysCard

/-- THE SECOND FORM's CARD OF 'grapnellaw02.SumSums'. -/
def sumSumsUptoCard : Claim7 := { stood := { row := sumSumsUptoRow, standIns := [], harness := (true, "c64fec3fc56cd09cd852fd7d5362481b17580ca1bb3273a3e1bd497a152beebe"), looks := false }, kinds := [], alts := [], laidByText := true, laidKinds := [.data, .data], laidTests := true, laidLooks := .later }
def SumSumsUptoCardSaid : Prop := Claim7.holds Tryd.pinned (.plain (OpenSpec.upto sumSumsSpec)) sumSumsUptoCard

/-- THE SECOND FORM's CARD OF 'grapnellaw02.SumMacs'. -/
def sumMacsUptoCard : Claim7 := { stood := { row := sumMacsUptoRow, standIns := [], harness := (true, "c64fec3fc56cd09cd852fd7d5362481b17580ca1bb3273a3e1bd497a152beebe"), looks := false }, kinds := [], alts := [], laidByText := true, laidKinds := [.data, .data], laidTests := true, laidLooks := .later }
def SumMacsUptoCardSaid : Prop := Claim7.holds Tryd.pinned (.plain (OpenSpec.upto sumMacsSpec)) sumMacsUptoCard

/-- THE SECOND FORM's CARD OF 'grapnellaw02.SumParts'. -/
def sumPartsUptoCard : Claim7 := { stood := { row := sumPartsUptoRow, standIns := [], harness := (true, "c64fec3fc56cd09cd852fd7d5362481b17580ca1bb3273a3e1bd497a152beebe"), looks := false }, kinds := [], alts := [], laidByText := true, laidKinds := [.data, .data], laidTests := true, laidLooks := .later }
def SumPartsUptoCardSaid : Prop := Claim7.holds Tryd.pinned (.plain (OpenSpec.upto sumPartsSpec)) sumPartsUptoCard

/-- THE SECOND FORM's CARD OF 'grapnellaw02.SumExpands'. -/
def sumExpandsUptoCard : Claim7 := { stood := { row := sumExpandsUptoRow, standIns := [], harness := (true, "c64fec3fc56cd09cd852fd7d5362481b17580ca1bb3273a3e1bd497a152beebe"), looks := false }, kinds := [], alts := [], laidByText := true, laidKinds := [.data, .data], laidTests := true, laidLooks := .later }
def SumExpandsUptoCardSaid : Prop := Claim7.holds Tryd.pinned (.plain (OpenSpec.upto sumExpandsSpec)) sumExpandsUptoCard

/-- THE SECOND FORM's CARD OF 'grapnellaw02.SumStretches'. -/
def sumStretchesUptoCard : Claim7 := { stood := { row := sumStretchesUptoRow, standIns := [], harness := (true, "c64fec3fc56cd09cd852fd7d5362481b17580ca1bb3273a3e1bd497a152beebe"), looks := false }, kinds := [], alts := [], laidByText := true, laidKinds := [.data, .data], laidTests := true, laidLooks := .later }
def SumStretchesUptoCardSaid : Prop := Claim7.holds Tryd.pinned (.plain (OpenSpec.upto sumStretchesSpec)) sumStretchesUptoCard

/-- THE SECOND FORM's CARD OF 'grapnellaw02.SumKeys'. -/
def sumKeysUptoCard : Claim7 := { stood := { row := sumKeysUptoRow, standIns := [], harness := (true, "c64fec3fc56cd09cd852fd7d5362481b17580ca1bb3273a3e1bd497a152beebe"), looks := false }, kinds := [], alts := [], laidByText := true, laidKinds := [.data, .data], laidTests := true, laidLooks := .later }
def SumKeysUptoCardSaid : Prop := Claim7.holds Tryd.pinned (.plain (OpenSpec.upto sumKeysSpec)) sumKeysUptoCard
end Rows
end Go.Proofs.YtfndgiddoijdeaaDoor
