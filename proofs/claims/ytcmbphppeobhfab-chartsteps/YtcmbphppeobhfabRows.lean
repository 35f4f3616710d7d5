/-
  No cell of these rows narrows 'for every input' (looked for: loops, veiled, ifaces, maps, wideKeys, modest, calm, conditions, laid).
  DERIVED. THE GIVEN ROWS OF THIS SEAT. 5 by the template 'for every input the law returns true; each argument reads behind the call as it read before'; 0 by the template 'total and deterministic' (their statements: YtcmbphppeobhfabTotals.lean).
  GIVEN WITH THE SEED: the statements are not yours to turn. If you find one false, say at which input.
  Laid BY PROGRAM, IN A SANDBOX (cutbox-rows.mjs): the forced cells as the released guide's own fill.sh prints them over the translation 9084e6bb06869229… (all of the seat's roots in one cut). By AI agents, Wed Nov 11 2026. No macro, syntax, notation, axiom, sorry.
-/
import Derived.Test.YtcmbphppeobhfabChecked
import GoSem.Claim
import GoSem.ClaimJoined
import GoSem.ClaimMapViews
import Derived.JoinedTies
import Derived.KernelRfl
namespace Go.Proofs.Ytcmbphppeobhfab
/- THE CELL 'sum', in the pinned program and in every row, IS THE sha256 OF THE DUMP (.gsa) THAT YtcmbphppeobhfabProg.lean LOADS. Nothing in Lean hashes anything: it is a label: what it is worth is what the hold of that sum in a sandbox is worth. -/
noncomputable def Try.pinned : Pinned := { name := "ytcmbphppeobhfab", sum := "9084e6bb068692293c4270ebcfd9a2416807753ab7c28748c62d492c0cc0b3ae", checked := Try.checked }
namespace Rows
def none {H : Type} : Left H := { results := [], args := [] }

/-- 'grapnellaw09.ChartSteps': WHATEVER THE INPUT: true; the input reads as it did. -/
def chartStepsSpec : ChangeSpec := { name := "chartSteps", fn := fun _ => fun
  | [d1, d2, d3] => { results := [.lit (.bool true)], args := [d1, d2, d3] }
  | _ => none }
def chartStepsRow : OpenClaim := { program := "ytcmbphppeobhfab", sum := "9084e6bb068692293c4270ebcfd9a2416807753ab7c28748c62d492c0cc0b3ae", func := "grapnel/grapnellaw09.ChartSteps", spec := "chartSteps", recurses := true, apart := false }
def ChartStepsSaid : Prop := chartStepsRow.holds Try.pinned (OpenSpec.ofChange chartStepsSpec)

/-- ITS FALSE NEIGHBOUR: 'it returns false'. Refute it at one input. -/
def chartStepsWrong : ChangeSpec := { name := "chartSteps", fn := fun _ => fun
  | [d1, d2, d3] => { results := [.lit (.bool false)], args := [d1, d2, d3] }
  | _ => none }
def ChartStepsWrongFalsely : Prop := chartStepsRow.holds Try.pinned (OpenSpec.ofChange chartStepsWrong)

/-- 'grapnellaw09.ChartSpans': WHATEVER THE INPUT: true; the input reads as it did. -/
def chartSpansSpec : ChangeSpec := { name := "chartSpans", fn := fun _ => fun
  | [d] => { results := [.lit (.bool true)], args := [d] }
  | _ => none }
def chartSpansRow : OpenClaim := { program := "ytcmbphppeobhfab", sum := "9084e6bb068692293c4270ebcfd9a2416807753ab7c28748c62d492c0cc0b3ae", func := "grapnel/grapnellaw09.ChartSpans", spec := "chartSpans", apart := false }
def ChartSpansSaid : Prop := chartSpansRow.holds Try.pinned (OpenSpec.ofChange chartSpansSpec)

/-- ITS FALSE NEIGHBOUR: 'it returns false'. Refute it at one input. -/
def chartSpansWrong : ChangeSpec := { name := "chartSpans", fn := fun _ => fun
  | [d] => { results := [.lit (.bool false)], args := [d] }
  | _ => none }
def ChartSpansWrongFalsely : Prop := chartSpansRow.holds Try.pinned (OpenSpec.ofChange chartSpansWrong)

/-- 'grapnellaw09.ChartTouches': WHATEVER THE INPUT: true; the input reads as it did. -/
def chartTouchesSpec : ChangeSpec := { name := "chartTouches", fn := fun _ => fun
  | [d1, d2] => { results := [.lit (.bool true)], args := [d1, d2] }
  | _ => none }
def chartTouchesRow : OpenClaim := { program := "ytcmbphppeobhfab", sum := "9084e6bb068692293c4270ebcfd9a2416807753ab7c28748c62d492c0cc0b3ae", func := "grapnel/grapnellaw09.ChartTouches", spec := "chartTouches", apart := false }
def ChartTouchesSaid : Prop := chartTouchesRow.holds Try.pinned (OpenSpec.ofChange chartTouchesSpec)

/-- ITS FALSE NEIGHBOUR: 'it returns false'. Refute it at one input. -/
def chartTouchesWrong : ChangeSpec := { name := "chartTouches", fn := fun _ => fun
  | [d1, d2] => { results := [.lit (.bool false)], args := [d1, d2] }
  | _ => none }
def ChartTouchesWrongFalsely : Prop := chartTouchesRow.holds Try.pinned (OpenSpec.ofChange chartTouchesWrong)

/-- 'grapnellaw09.ChartParts': WHATEVER THE INPUT: true; the input reads as it did. -/
def chartPartsSpec : ChangeSpec := { name := "chartParts", fn := fun _ => fun
  | [d1, d2, d3] => { results := [.lit (.bool true)], args := [d1, d2, d3] }
  | _ => none }
def chartPartsRow : OpenClaim := { program := "ytcmbphppeobhfab", sum := "9084e6bb068692293c4270ebcfd9a2416807753ab7c28748c62d492c0cc0b3ae", func := "grapnel/grapnellaw09.ChartParts", spec := "chartParts", apart := false }
def ChartPartsSaid : Prop := chartPartsRow.holds Try.pinned (OpenSpec.ofChange chartPartsSpec)

/-- ITS FALSE NEIGHBOUR: 'it returns false'. Refute it at one input. -/
def chartPartsWrong : ChangeSpec := { name := "chartParts", fn := fun _ => fun
  | [d1, d2, d3] => { results := [.lit (.bool false)], args := [d1, d2, d3] }
  | _ => none }
def ChartPartsWrongFalsely : Prop := chartPartsRow.holds Try.pinned (OpenSpec.ofChange chartPartsWrong)

/-- 'grapnellaw09.ChartTables': WHATEVER THE INPUT: true; the input reads as it did. -/
def chartTablesSpec : ChangeSpec := { name := "chartTables", fn := fun _ => fun
  | [d1, d2] => { results := [.lit (.bool true)], args := [d1, d2] }
  | _ => none }
def chartTablesRow : OpenClaim := { program := "ytcmbphppeobhfab", sum := "9084e6bb068692293c4270ebcfd9a2416807753ab7c28748c62d492c0cc0b3ae", func := "grapnel/grapnellaw09.ChartTables", spec := "chartTables", inPlace := ["internal/abi.NoEscape"], apart := false }
def ChartTablesSaid : Prop := chartTablesRow.holds Try.pinned (OpenSpec.ofChange chartTablesSpec)

/-- ITS FALSE NEIGHBOUR: 'it returns false'. Refute it at one input. -/
def chartTablesWrong : ChangeSpec := { name := "chartTables", fn := fun _ => fun
  | [d1, d2] => { results := [.lit (.bool false)], args := [d1, d2] }
  | _ => none }
def ChartTablesWrongFalsely : Prop := chartTablesRow.holds Try.pinned (OpenSpec.ofChange chartTablesWrong)

/- THE SECOND FORM. 'bulk': how many values and letters a reading holds, each counted each time it is reached (what is shared counts as often as it is met; a slice's spare places count too). A statement '..UptoSaid' is the law's where the arguments, and the package variables that the reading takes, are together of bulk at most 1048576: NARROWER than '..Said'. Prove '..Said' where nothing that the law and all that it calls make is longer than what came in: it says more and counts as full. Else prove '..UptoSaid'. A law counts once. -/
mutual
def uptoBulk {H : Type} : DataW H → Nat
  | .lit (.string bytes) => bytes.length + 1
  | .lit _ => 1
  | .nil => 1
  | .ptr d => uptoBulk d + 1
  | .slice elems spare => uptoBulkAll elems + uptoBulkAll spare + 1
  | .agg parts => uptoBulkAll parts + 1
  | .iface _ d => uptoBulk d + 1
  | .map entries => uptoBulkEntries entries + 1
  | .held _ => 1
def uptoBulkAll {H : Type} : List (DataW H) → Nat
  | [] => 0
  | d :: r => uptoBulk d + uptoBulkAll r
def uptoBulkEntries {H : Type} : List (Lit × DataW H) → Nat
  | [] => 0
  | x :: r => uptoBulkEntry x + uptoBulkEntries r
def uptoBulkEntry {H : Type} : Lit × DataW H → Nat
  | (.string bytes, d) => bytes.length + uptoBulk d + 1
  | (_, d) => uptoBulk d + 1
 end
def uptoSmall : (H : Type) → List (DataW H) → Bool := fun _ ds => decide (uptoBulkAll ds ≤ 1048576)
def OpenSpec.upto (s : _root_.Go.ChangeSpec) : _root_.Go.OpenSpec := { _root_.Go.OpenSpec.ofChange s with cond := some uptoSmall }

/-- 'grapnellaw09.ChartSteps', WHERE WHAT IT READS IS OF BULK AT MOST 1048576: true; the input reads as it did. -/
def chartStepsUptoRow : OpenClaim := { program := "ytcmbphppeobhfab", sum := "9084e6bb068692293c4270ebcfd9a2416807753ab7c28748c62d492c0cc0b3ae", func := "grapnel/grapnellaw09.ChartSteps", spec := "chartSteps", recurses := true, apart := false, narrowed := true }
def ChartStepsUptoSaid : Prop := chartStepsUptoRow.holds Try.pinned (OpenSpec.upto chartStepsSpec)

/-- 'grapnellaw09.ChartSpans', WHERE WHAT IT READS IS OF BULK AT MOST 1048576: true; the input reads as it did. -/
def chartSpansUptoRow : OpenClaim := { program := "ytcmbphppeobhfab", sum := "9084e6bb068692293c4270ebcfd9a2416807753ab7c28748c62d492c0cc0b3ae", func := "grapnel/grapnellaw09.ChartSpans", spec := "chartSpans", apart := false, narrowed := true }
def ChartSpansUptoSaid : Prop := chartSpansUptoRow.holds Try.pinned (OpenSpec.upto chartSpansSpec)

/-- 'grapnellaw09.ChartTouches', WHERE WHAT IT READS IS OF BULK AT MOST 1048576: true; the input reads as it did. -/
def chartTouchesUptoRow : OpenClaim := { program := "ytcmbphppeobhfab", sum := "9084e6bb068692293c4270ebcfd9a2416807753ab7c28748c62d492c0cc0b3ae", func := "grapnel/grapnellaw09.ChartTouches", spec := "chartTouches", apart := false, narrowed := true }
def ChartTouchesUptoSaid : Prop := chartTouchesUptoRow.holds Try.pinned (OpenSpec.upto chartTouchesSpec)

/-- 'grapnellaw09.ChartParts', WHERE WHAT IT READS IS OF BULK AT MOST 1048576: true; the input reads as it did. -/
def chartPartsUptoRow : OpenClaim := { program := "ytcmbphppeobhfab", sum := "9084e6bb068692293c4270ebcfd9a2416807753ab7c28748c62d492c0cc0b3ae", func := "grapnel/grapnellaw09.ChartParts", spec := "chartParts", apart := false, narrowed := true }
def ChartPartsUptoSaid : Prop := chartPartsUptoRow.holds Try.pinned (OpenSpec.upto chartPartsSpec)

/-- 'grapnellaw09.ChartTables', WHERE WHAT IT READS IS OF BULK AT MOST 1048576: true; the input reads as it did. -/
def chartTablesUptoRow : OpenClaim := { program := "ytcmbphppeobhfab", sum := "9084e6bb068692293c4270ebcfd9a2416807753ab7c28748c62d492c0cc0b3ae", func := "grapnel/grapnellaw09.ChartTables", spec := "chartTables", inPlace := ["internal/abi.NoEscape"], apart := false, narrowed := true }
def ChartTablesUptoSaid : Prop := chartTablesUptoRow.holds Try.pinned (OpenSpec.upto chartTablesSpec)

end Rows
end Go.Proofs.Ytcmbphppeobhfab
