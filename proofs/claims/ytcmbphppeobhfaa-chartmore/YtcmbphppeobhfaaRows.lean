/-
  No cell of these rows narrows 'for every input' (looked for: loops, veiled, ifaces, maps, wideKeys, modest, calm, conditions, laid).
  DERIVED. THE GIVEN ROWS OF THIS SEAT. 6 by the template 'for every input the law returns true; each argument reads behind the call as it read before'; 0 by the template 'total and deterministic' (their statements: YtcmbphppeobhfaaTotals.lean).
  GIVEN WITH THE SEED: the statements are not yours to turn. If you find one false, say at which input.
  Laid BY PROGRAM, IN A SANDBOX (cutbox-rows.mjs): the forced cells as the released guide's own fill.sh prints them over the translation 6ea0c43d3fde3e79… (all of the seat's roots in one cut). By AI agents, Wed Nov 11 2026. No macro, syntax, notation, axiom, sorry.
-/
import Derived.Test.YtcmbphppeobhfaaChecked
import GoSem.Claim
import GoSem.ClaimJoined
import GoSem.ClaimMapViews
import Derived.JoinedTies
import Derived.KernelRfl
namespace Go.Proofs.Ytcmbphppeobhfaa
/- THE CELL 'sum', in the pinned program and in every row, IS THE sha256 OF THE DUMP (.gsa) THAT YtcmbphppeobhfaaProg.lean LOADS. Nothing in Lean hashes anything: it is a label: what it is worth is what the hold of that sum in a sandbox is worth. -/
noncomputable def Try.pinned : Pinned := { name := "ytcmbphppeobhfaa", sum := "6ea0c43d3fde3e79e418fa7bd77a7c866ce3ce7db3f9ece7f9d09be57ff48b0b", checked := Try.checked }
namespace Rows
def none {H : Type} : Left H := { results := [], args := [] }

/-- 'grapnellaw09.ChartLayouts': WHATEVER THE INPUT: true; the input reads as it did. -/
def chartLayoutsSpec : ChangeSpec := { name := "chartLayouts", fn := fun _ => fun
  | [d] => { results := [.lit (.bool true)], args := [d] }
  | _ => none }
def chartLayoutsRow : OpenClaim := { program := "ytcmbphppeobhfaa", sum := "6ea0c43d3fde3e79e418fa7bd77a7c866ce3ce7db3f9ece7f9d09be57ff48b0b", func := "grapnel/grapnellaw09.ChartLayouts", spec := "chartLayouts", apart := false }
def ChartLayoutsSaid : Prop := chartLayoutsRow.holds Try.pinned (OpenSpec.ofChange chartLayoutsSpec)

/-- ITS FALSE NEIGHBOUR: 'it returns false'. Refute it at one input. -/
def chartLayoutsWrong : ChangeSpec := { name := "chartLayouts", fn := fun _ => fun
  | [d] => { results := [.lit (.bool false)], args := [d] }
  | _ => none }
def ChartLayoutsWrongFalsely : Prop := chartLayoutsRow.holds Try.pinned (OpenSpec.ofChange chartLayoutsWrong)

/-- 'grapnellaw09.ChartApart': WHATEVER THE INPUT: true; the input reads as it did. -/
def chartApartSpec : ChangeSpec := { name := "chartApart", fn := fun _ => fun
  | [d1, d2] => { results := [.lit (.bool true)], args := [d1, d2] }
  | _ => none }
def chartApartRow : OpenClaim := { program := "ytcmbphppeobhfaa", sum := "6ea0c43d3fde3e79e418fa7bd77a7c866ce3ce7db3f9ece7f9d09be57ff48b0b", func := "grapnel/grapnellaw09.ChartApart", spec := "chartApart", apart := false }
def ChartApartSaid : Prop := chartApartRow.holds Try.pinned (OpenSpec.ofChange chartApartSpec)

/-- ITS FALSE NEIGHBOUR: 'it returns false'. Refute it at one input. -/
def chartApartWrong : ChangeSpec := { name := "chartApart", fn := fun _ => fun
  | [d1, d2] => { results := [.lit (.bool false)], args := [d1, d2] }
  | _ => none }
def ChartApartWrongFalsely : Prop := chartApartRow.holds Try.pinned (OpenSpec.ofChange chartApartWrong)

/-- 'grapnellaw09.ChartPlaces': WHATEVER THE INPUT: true; the input reads as it did. -/
def chartPlacesSpec : ChangeSpec := { name := "chartPlaces", fn := fun _ => fun
  | [d] => { results := [.lit (.bool true)], args := [d] }
  | _ => none }
def chartPlacesRow : OpenClaim := { program := "ytcmbphppeobhfaa", sum := "6ea0c43d3fde3e79e418fa7bd77a7c866ce3ce7db3f9ece7f9d09be57ff48b0b", func := "grapnel/grapnellaw09.ChartPlaces", spec := "chartPlaces", apart := false }
def ChartPlacesSaid : Prop := chartPlacesRow.holds Try.pinned (OpenSpec.ofChange chartPlacesSpec)

/-- ITS FALSE NEIGHBOUR: 'it returns false'. Refute it at one input. -/
def chartPlacesWrong : ChangeSpec := { name := "chartPlaces", fn := fun _ => fun
  | [d] => { results := [.lit (.bool false)], args := [d] }
  | _ => none }
def ChartPlacesWrongFalsely : Prop := chartPlacesRow.holds Try.pinned (OpenSpec.ofChange chartPlacesWrong)

/-- 'grapnellaw09.ChartUnlike': WHATEVER THE INPUT: true; the input reads as it did. -/
def chartUnlikeSpec : ChangeSpec := { name := "chartUnlike", fn := fun _ => fun
  | [d1, d2] => { results := [.lit (.bool true)], args := [d1, d2] }
  | _ => none }
def chartUnlikeRow : OpenClaim := { program := "ytcmbphppeobhfaa", sum := "6ea0c43d3fde3e79e418fa7bd77a7c866ce3ce7db3f9ece7f9d09be57ff48b0b", func := "grapnel/grapnellaw09.ChartUnlike", spec := "chartUnlike", apart := false }
def ChartUnlikeSaid : Prop := chartUnlikeRow.holds Try.pinned (OpenSpec.ofChange chartUnlikeSpec)

/-- ITS FALSE NEIGHBOUR: 'it returns false'. Refute it at one input. -/
def chartUnlikeWrong : ChangeSpec := { name := "chartUnlike", fn := fun _ => fun
  | [d1, d2] => { results := [.lit (.bool false)], args := [d1, d2] }
  | _ => none }
def ChartUnlikeWrongFalsely : Prop := chartUnlikeRow.holds Try.pinned (OpenSpec.ofChange chartUnlikeWrong)

/-- 'grapnellaw09.ChartBlocks': WHATEVER THE INPUT: true; the input reads as it did. -/
def chartBlocksSpec : ChangeSpec := { name := "chartBlocks", fn := fun _ => fun
  | [d] => { results := [.lit (.bool true)], args := [d] }
  | _ => none }
def chartBlocksRow : OpenClaim := { program := "ytcmbphppeobhfaa", sum := "6ea0c43d3fde3e79e418fa7bd77a7c866ce3ce7db3f9ece7f9d09be57ff48b0b", func := "grapnel/grapnellaw09.ChartBlocks", spec := "chartBlocks", apart := false }
def ChartBlocksSaid : Prop := chartBlocksRow.holds Try.pinned (OpenSpec.ofChange chartBlocksSpec)

/-- ITS FALSE NEIGHBOUR: 'it returns false'. Refute it at one input. -/
def chartBlocksWrong : ChangeSpec := { name := "chartBlocks", fn := fun _ => fun
  | [d] => { results := [.lit (.bool false)], args := [d] }
  | _ => none }
def ChartBlocksWrongFalsely : Prop := chartBlocksRow.holds Try.pinned (OpenSpec.ofChange chartBlocksWrong)

/-- 'grapnellaw09.ChartMore': WHATEVER THE INPUT: true; the input reads as it did. -/
def chartMoreSpec : ChangeSpec := { name := "chartMore", fn := fun _ => fun
  | [d1, d2] => { results := [.lit (.bool true)], args := [d1, d2] }
  | _ => none }
def chartMoreRow : OpenClaim := { program := "ytcmbphppeobhfaa", sum := "6ea0c43d3fde3e79e418fa7bd77a7c866ce3ce7db3f9ece7f9d09be57ff48b0b", func := "grapnel/grapnellaw09.ChartMore", spec := "chartMore", recurses := true, apart := false }
def ChartMoreSaid : Prop := chartMoreRow.holds Try.pinned (OpenSpec.ofChange chartMoreSpec)

/-- ITS FALSE NEIGHBOUR: 'it returns false'. Refute it at one input. -/
def chartMoreWrong : ChangeSpec := { name := "chartMore", fn := fun _ => fun
  | [d1, d2] => { results := [.lit (.bool false)], args := [d1, d2] }
  | _ => none }
def ChartMoreWrongFalsely : Prop := chartMoreRow.holds Try.pinned (OpenSpec.ofChange chartMoreWrong)

/- THE SECOND FORM. 'bulk': how many values and letters a reading holds, each counted each time it is reached (what is shared counts as often as it is met; a slice's spare places count too). A statement '..UptoSaid' is the law's where the arguments, and the package variables that the reading takes, are together of bulk at most 1048576: NARROWER than '..Said'. Prove '..Said' where nothing that the law and all that it calls make is longer than what came in: it says more and counts as full. Else prove '..UptoSaid'. A law counts once. -/
mutual
def uptoBulk {H : Type} : DataW H → Nat
  | .lit (.string bytes) => bytes.length + 1
  | .lit _ => 1
  | .nil => 1
  | .ptr d => uptoBulk d + 1
  | .slice elems spare => uptoBulkAll elems + uptoBulkAll spare + 1
  | .agg parts => uptoBulkAll parts + 1
  | .iface _ d => uptoBulk d + 1
  | .map entries => uptoBulkEntries entries + 1
  | .held _ => 1
def uptoBulkAll {H : Type} : List (DataW H) → Nat
  | [] => 0
  | d :: r => uptoBulk d + uptoBulkAll r
def uptoBulkEntries {H : Type} : List (Lit × DataW H) → Nat
  | [] => 0
  | x :: r => uptoBulkEntry x + uptoBulkEntries r
def uptoBulkEntry {H : Type} : Lit × DataW H → Nat
  | (.string bytes, d) => bytes.length + uptoBulk d + 1
  | (_, d) => uptoBulk d + 1
 end
def uptoSmall : (H : Type) → List (DataW H) → Bool := fun _ ds => decide (uptoBulkAll ds ≤ 1048576)
def OpenSpec.upto (s : _root_.Go.ChangeSpec) : _root_.Go.OpenSpec := { _root_.Go.OpenSpec.ofChange s with cond := some uptoSmall }

/-- 'grapnellaw09.ChartLayouts', WHERE WHAT IT READS IS OF BULK AT MOST 1048576: true; the input reads as it did. -/
def chartLayoutsUptoRow : OpenClaim := { program := "ytcmbphppeobhfaa", sum := "6ea0c43d3fde3e79e418fa7bd77a7c866ce3ce7db3f9ece7f9d09be57ff48b0b", func := "grapnel/grapnellaw09.ChartLayouts", spec := "chartLayouts", apart := false, narrowed := true }
def ChartLayoutsUptoSaid : Prop := chartLayoutsUptoRow.holds Try.pinned (OpenSpec.upto chartLayoutsSpec)

/-- 'grapnellaw09.ChartApart', WHERE WHAT IT READS IS OF BULK AT MOST 1048576: true; the input reads as it did. -/
def chartApartUptoRow : OpenClaim := { program := "ytcmbphppeobhfaa", sum := "6ea0c43d3fde3e79e418fa7bd77a7c866ce3ce7db3f9ece7f9d09be57ff48b0b", func := "grapnel/grapnellaw09.ChartApart", spec := "chartApart", apart := false, narrowed := true }
def ChartApartUptoSaid : Prop := chartApartUptoRow.holds Try.pinned (OpenSpec.upto chartApartSpec)

/-- 'grapnellaw09.ChartPlaces', WHERE WHAT IT READS IS OF BULK AT MOST 1048576: true; the input reads as it did. -/
def chartPlacesUptoRow : OpenClaim := { program := "ytcmbphppeobhfaa", sum := "6ea0c43d3fde3e79e418fa7bd77a7c866ce3ce7db3f9ece7f9d09be57ff48b0b", func := "grapnel/grapnellaw09.ChartPlaces", spec := "chartPlaces", apart := false, narrowed := true }
def ChartPlacesUptoSaid : Prop := chartPlacesUptoRow.holds Try.pinned (OpenSpec.upto chartPlacesSpec)

/-- 'grapnellaw09.ChartUnlike', WHERE WHAT IT READS IS OF BULK AT MOST 1048576: true; the input reads as it did. -/
def chartUnlikeUptoRow : OpenClaim := { program := "ytcmbphppeobhfaa", sum := "6ea0c43d3fde3e79e418fa7bd77a7c866ce3ce7db3f9ece7f9d09be57ff48b0b", func := "grapnel/grapnellaw09.ChartUnlike", spec := "chartUnlike", apart := false, narrowed := true }
def ChartUnlikeUptoSaid : Prop := chartUnlikeUptoRow.holds Try.pinned (OpenSpec.upto chartUnlikeSpec)

/-- 'grapnellaw09.ChartBlocks', WHERE WHAT IT READS IS OF BULK AT MOST 1048576: true; the input reads as it did. -/
def chartBlocksUptoRow : OpenClaim := { program := "ytcmbphppeobhfaa", sum := "6ea0c43d3fde3e79e418fa7bd77a7c866ce3ce7db3f9ece7f9d09be57ff48b0b", func := "grapnel/grapnellaw09.ChartBlocks", spec := "chartBlocks", apart := false, narrowed := true }
def ChartBlocksUptoSaid : Prop := chartBlocksUptoRow.holds Try.pinned (OpenSpec.upto chartBlocksSpec)

/-- 'grapnellaw09.ChartMore', WHERE WHAT IT READS IS OF BULK AT MOST 1048576: true; the input reads as it did. -/
def chartMoreUptoRow : OpenClaim := { program := "ytcmbphppeobhfaa", sum := "6ea0c43d3fde3e79e418fa7bd77a7c866ce3ce7db3f9ece7f9d09be57ff48b0b", func := "grapnel/grapnellaw09.ChartMore", spec := "chartMore", recurses := true, apart := false, narrowed := true }
def ChartMoreUptoSaid : Prop := chartMoreUptoRow.holds Try.pinned (OpenSpec.upto chartMoreSpec)

end Rows
end Go.Proofs.Ytcmbphppeobhfaa
