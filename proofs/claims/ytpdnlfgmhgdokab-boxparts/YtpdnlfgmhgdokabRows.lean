/-
  No cell of these rows narrows 'for every input' (looked for: loops, veiled, ifaces, maps, wideKeys, modest, calm, conditions, laid).
  DERIVED. THE GIVEN ROWS OF THIS SEAT. 3 by the template 'for every input the law returns true; each argument reads behind the call as it read before'; 0 by the template 'total and deterministic' (their statements: YtpdnlfgmhgdokabTotals.lean).
  GIVEN WITH THE SEED: the statements are not yours to turn. If you find one false, say at which input.
  Laid BY PROGRAM, IN A SANDBOX (cutbox-rows.mjs): the forced cells as the released guide's own fill.sh prints them over the translation d96101e4674b3869… (all of the seat's roots in one cut). By AI agents, Wed Nov 11 2026. No macro, syntax, notation, axiom, sorry.
-/
import Derived.Test.YtpdnlfgmhgdokabChecked
import GoSem.Claim
import GoSem.ClaimJoined
import GoSem.ClaimMapViews
import Derived.JoinedTies
import Derived.KernelRfl
namespace Go.Proofs.Ytpdnlfgmhgdokab
/- THE CELL 'sum', in the pinned program and in every row, IS THE sha256 OF THE DUMP (.gsa) THAT YtpdnlfgmhgdokabProg.lean LOADS. Nothing in Lean hashes anything: it is a label: what it is worth is what the hold of that sum in a sandbox is worth. -/
noncomputable def Try.pinned : Pinned := { name := "ytpdnlfgmhgdokab", sum := "d96101e4674b38695599f480c754315470da378599886fec7811d826f609b343", checked := Try.checked }
namespace Rows
def none {H : Type} : Left H := { results := [], args := [] }

/-- 'grapnellaw03.BoxParts': WHATEVER THE INPUT: true; the input reads as it did. -/
def boxPartsSpec : ChangeSpec := { name := "boxParts", fn := fun _ => fun
  | [d1, d2, d3, d4] => { results := [.lit (.bool true)], args := [d1, d2, d3, d4] }
  | _ => none }
def boxPartsRow : OpenClaim := { program := "ytpdnlfgmhgdokab", sum := "d96101e4674b38695599f480c754315470da378599886fec7811d826f609b343", func := "grapnel/grapnellaw03.BoxParts", spec := "boxParts", inPlace := ["math/bits.Add64", "math/bits.Sub64", "internal/abi.NoEscape", "internal/bytealg.MakeNoZero"], apart := false }
def BoxPartsSaid : Prop := boxPartsRow.holds Try.pinned (OpenSpec.ofChange boxPartsSpec)

/-- ITS FALSE NEIGHBOUR: 'it returns false'. Refute it at one input. -/
def boxPartsWrong : ChangeSpec := { name := "boxParts", fn := fun _ => fun
  | [d1, d2, d3, d4] => { results := [.lit (.bool false)], args := [d1, d2, d3, d4] }
  | _ => none }
def BoxPartsWrongFalsely : Prop := boxPartsRow.holds Try.pinned (OpenSpec.ofChange boxPartsWrong)

/-- 'grapnellaw03.BoxSames': WHATEVER THE INPUT: true; the input reads as it did. -/
def boxSamesSpec : ChangeSpec := { name := "boxSames", fn := fun _ => fun
  | [d1, d2] => { results := [.lit (.bool true)], args := [d1, d2] }
  | _ => none }
def boxSamesRow : OpenClaim := { program := "ytpdnlfgmhgdokab", sum := "d96101e4674b38695599f480c754315470da378599886fec7811d826f609b343", func := "grapnel/grapnellaw03.BoxSames", spec := "boxSames", inPlace := ["math/bits.Add64", "math/bits.Sub64"], apart := false }
def BoxSamesSaid : Prop := boxSamesRow.holds Try.pinned (OpenSpec.ofChange boxSamesSpec)

/-- ITS FALSE NEIGHBOUR: 'it returns false'. Refute it at one input. -/
def boxSamesWrong : ChangeSpec := { name := "boxSames", fn := fun _ => fun
  | [d1, d2] => { results := [.lit (.bool false)], args := [d1, d2] }
  | _ => none }
def BoxSamesWrongFalsely : Prop := boxSamesRow.holds Try.pinned (OpenSpec.ofChange boxSamesWrong)

/-- 'grapnellaw03.BoxRefuses': WHATEVER THE INPUT: true; the input reads as it did. -/
def boxRefusesSpec : ChangeSpec := { name := "boxRefuses", fn := fun _ => fun
  | [d1, d2, d3] => { results := [.lit (.bool true)], args := [d1, d2, d3] }
  | _ => none }
def boxRefusesRow : OpenClaim := { program := "ytpdnlfgmhgdokab", sum := "d96101e4674b38695599f480c754315470da378599886fec7811d826f609b343", func := "grapnel/grapnellaw03.BoxRefuses", spec := "boxRefuses", inPlace := ["math/bits.Add64", "math/bits.Sub64", "internal/abi.NoEscape", "internal/bytealg.MakeNoZero"], apart := false }
def BoxRefusesSaid : Prop := boxRefusesRow.holds Try.pinned (OpenSpec.ofChange boxRefusesSpec)

/-- ITS FALSE NEIGHBOUR: 'it returns false'. Refute it at one input. -/
def boxRefusesWrong : ChangeSpec := { name := "boxRefuses", fn := fun _ => fun
  | [d1, d2, d3] => { results := [.lit (.bool false)], args := [d1, d2, d3] }
  | _ => none }
def BoxRefusesWrongFalsely : Prop := boxRefusesRow.holds Try.pinned (OpenSpec.ofChange boxRefusesWrong)

/- THE SECOND FORM. 'bulk': how many values and letters a reading holds, each counted each time it is reached (what is shared counts as often as it is met; a slice's spare places count too). A statement '..UptoSaid' is the law's where the arguments, and the package variables that the reading takes, are together of bulk at most 1048576: NARROWER than '..Said'. Prove '..Said' where nothing that the law and all that it calls make is longer than what came in: it says more and counts as full. Else prove '..UptoSaid'. A law counts once. -/
mutual
def uptoBulk {H : Type} : DataW H → Nat
  | .lit (.string bytes) => bytes.length + 1
  | .lit _ => 1
  | .nil => 1
  | .ptr d => uptoBulk d + 1
  | .slice elems spare => uptoBulkAll elems + uptoBulkAll spare + 1
  | .agg parts => uptoBulkAll parts + 1
  | .iface _ d => uptoBulk d + 1
  | .map entries => uptoBulkEntries entries + 1
  | .held _ => 1
def uptoBulkAll {H : Type} : List (DataW H) → Nat
  | [] => 0
  | d :: r => uptoBulk d + uptoBulkAll r
def uptoBulkEntries {H : Type} : List (Lit × DataW H) → Nat
  | [] => 0
  | x :: r => uptoBulkEntry x + uptoBulkEntries r
def uptoBulkEntry {H : Type} : Lit × DataW H → Nat
  | (.string bytes, d) => bytes.length + uptoBulk d + 1
  | (_, d) => uptoBulk d + 1
 end
def uptoSmall : (H : Type) → List (DataW H) → Bool := fun _ ds => decide (uptoBulkAll ds ≤ 1048576)
def OpenSpec.upto (s : _root_.Go.ChangeSpec) : _root_.Go.OpenSpec := { _root_.Go.OpenSpec.ofChange s with cond := some uptoSmall }

/-- 'grapnellaw03.BoxParts', WHERE WHAT IT READS IS OF BULK AT MOST 1048576: true; the input reads as it did. -/
def boxPartsUptoRow : OpenClaim := { program := "ytpdnlfgmhgdokab", sum := "d96101e4674b38695599f480c754315470da378599886fec7811d826f609b343", func := "grapnel/grapnellaw03.BoxParts", spec := "boxParts", inPlace := ["math/bits.Add64", "math/bits.Sub64", "internal/abi.NoEscape", "internal/bytealg.MakeNoZero"], apart := false, narrowed := true }
def BoxPartsUptoSaid : Prop := boxPartsUptoRow.holds Try.pinned (OpenSpec.upto boxPartsSpec)

/-- 'grapnellaw03.BoxSames', WHERE WHAT IT READS IS OF BULK AT MOST 1048576: true; the input reads as it did. -/
def boxSamesUptoRow : OpenClaim := { program := "ytpdnlfgmhgdokab", sum := "d96101e4674b38695599f480c754315470da378599886fec7811d826f609b343", func := "grapnel/grapnellaw03.BoxSames", spec := "boxSames", inPlace := ["math/bits.Add64", "math/bits.Sub64"], apart := false, narrowed := true }
def BoxSamesUptoSaid : Prop := boxSamesUptoRow.holds Try.pinned (OpenSpec.upto boxSamesSpec)

/-- 'grapnellaw03.BoxRefuses', WHERE WHAT IT READS IS OF BULK AT MOST 1048576: true; the input reads as it did. -/
def boxRefusesUptoRow : OpenClaim := { program := "ytpdnlfgmhgdokab", sum := "d96101e4674b38695599f480c754315470da378599886fec7811d826f609b343", func := "grapnel/grapnellaw03.BoxRefuses", spec := "boxRefuses", inPlace := ["math/bits.Add64", "math/bits.Sub64", "internal/abi.NoEscape", "internal/bytealg.MakeNoZero"], apart := false, narrowed := true }
def BoxRefusesUptoSaid : Prop := boxRefusesUptoRow.holds Try.pinned (OpenSpec.upto boxRefusesSpec)

end Rows
end Go.Proofs.Ytpdnlfgmhgdokab
