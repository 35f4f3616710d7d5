/-
  DERIVED. GIVEN WITH THE SEED: THE CARDS: each row of YtbgilbnpamegnaaDoorRows.lean that lists a variable, with what it lists TIED to the program's text (the seventh form; the later family's looks); each row that meets fmt, with fmt's text TOLD by the authors' own Lean function (tested against real Go, not proved from fmt's source: count such statements apart). THE CARD IS WHAT COUNTS. Prove the row's statement (the work); the ties are given (YtbgilbnpamegnaaDoorTie.lean); close each card by the builder's one call (the guide's Derived/Test/ToyasCard.lean, 'card_holds'). Laid BY PROGRAM, IN A SANDBOX (cutbox-door.mjs). By AI agents, Wed Nov 11 2026. No macro, syntax, notation, axiom, sorry.
-/
import Derived.Test.YtbgilbnpamegnaaDoorRows
import GoSem.ClaimSeven
namespace Go.Proofs.YtbgilbnpamegnaaDoor
namespace Rows

/-- THE TIED CARD OF 'grapnellaw01.PackInodeReads'. -/
def packInodeReadsCard : Claim7 := { stood := { row := packInodeReadsRow, standIns := [], harness := (true, "14cd82d10fc2815a5cb9bd53fad98027fe08b57988ea794fa32a95d1915e6e75"), looks := true }, kinds := [], alts := [], laidByText := true, laidKinds := [.data, .pinned], laidTests := true, laidLooks := .later }
def PackInodeReadsCardSaid : Prop := Claim7.holds Tryd.pinned (.plain (OpenSpec.ofChange packInodeReadsSpec)) packInodeReadsCard

/-- THE TIED CARD OF 'grapnellaw01.PackCanon'. -/
def packCanonCard : Claim7 := { stood := { row := packCanonRow, standIns := [], harness := (true, "14cd82d10fc2815a5cb9bd53fad98027fe08b57988ea794fa32a95d1915e6e75"), looks := true }, kinds := [], alts := [], laidByText := true, laidKinds := [.data, .pinned], laidTests := true, laidLooks := .later }
def PackCanonCardSaid : Prop := Claim7.holds Tryd.pinned (.plain (OpenSpec.ofChange packCanonSpec)) packCanonCard

/-- THE SECOND FORM's CARD OF 'grapnellaw01.PackInodeReads'. -/
def packInodeReadsUptoCard : Claim7 := { stood := { row := packInodeReadsUptoRow, standIns := [], harness := (true, "14cd82d10fc2815a5cb9bd53fad98027fe08b57988ea794fa32a95d1915e6e75"), looks := true }, kinds := [], alts := [], laidByText := true, laidKinds := [.data, .pinned], laidTests := true, laidLooks := .later }
def PackInodeReadsUptoCardSaid : Prop := Claim7.holds Tryd.pinned (.plain (OpenSpec.upto packInodeReadsSpec)) packInodeReadsUptoCard

/-- THE SECOND FORM's CARD OF 'grapnellaw01.PackCanon'. -/
def packCanonUptoCard : Claim7 := { stood := { row := packCanonUptoRow, standIns := [], harness := (true, "14cd82d10fc2815a5cb9bd53fad98027fe08b57988ea794fa32a95d1915e6e75"), looks := true }, kinds := [], alts := [], laidByText := true, laidKinds := [.data, .pinned], laidTests := true, laidLooks := .later }
def PackCanonUptoCardSaid : Prop := Claim7.holds Tryd.pinned (.plain (OpenSpec.upto packCanonSpec)) packCanonUptoCard
end Rows
end Go.Proofs.YtbgilbnpamegnaaDoor
