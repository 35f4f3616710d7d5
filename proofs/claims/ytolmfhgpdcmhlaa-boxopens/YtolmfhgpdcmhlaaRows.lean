/-
  No cell of these rows narrows 'for every input' (looked for: loops, veiled, ifaces, maps, wideKeys, modest, calm, conditions, laid).
  DERIVED. THE GIVEN ROWS OF THIS SEAT. 6 by the template 'for every input the law returns true; each argument reads behind the call as it read before'; 0 by the template 'total and deterministic' (their statements: YtolmfhgpdcmhlaaTotals.lean).
  GIVEN WITH THE SEED: the statements are not yours to turn. If you find one false, say at which input.
  Laid BY PROGRAM, IN A SANDBOX (cutbox-rows.mjs): the forced cells as the released guide's own fill.sh prints them over the translation c8898a382faef7b3… (all of the seat's roots in one cut). By AI agents, Wed Nov 11 2026. No macro, syntax, notation, axiom, sorry.
-/
import Derived.Test.YtolmfhgpdcmhlaaChecked
import GoSem.Claim
import GoSem.ClaimJoined
import GoSem.ClaimMapViews
import Derived.JoinedTies
import Derived.KernelRfl
namespace Go.Proofs.Ytolmfhgpdcmhlaa
/- THE CELL 'sum', in the pinned program and in every row, IS THE sha256 OF THE DUMP (.gsa) THAT YtolmfhgpdcmhlaaProg.lean LOADS. Nothing in Lean hashes anything: it is a label: what it is worth is what the hold of that sum in a sandbox is worth. -/
noncomputable def Try.pinned : Pinned := { name := "ytolmfhgpdcmhlaa", sum := "c8898a382faef7b374753eb757d35308ed0848102063a729da7e2dd017e86cb6", checked := Try.checked }
namespace Rows
def none {H : Type} : Left H := { results := [], args := [] }

/-- 'grapnellaw03.BoxStreams': WHATEVER THE INPUT: true; the input reads as it did. -/
def boxStreamsSpec : ChangeSpec := { name := "boxStreams", fn := fun _ => fun
  | [d1, d2, d3, d4] => { results := [.lit (.bool true)], args := [d1, d2, d3, d4] }
  | _ => none }
def boxStreamsRow : OpenClaim := { program := "ytolmfhgpdcmhlaa", sum := "c8898a382faef7b374753eb757d35308ed0848102063a729da7e2dd017e86cb6", func := "grapnel/grapnellaw03.BoxStreams", spec := "boxStreams", inPlace := ["internal/abi.NoEscape", "internal/bytealg.MakeNoZero", "math/bits.Add64", "math/bits.Sub64"], apart := false }
def BoxStreamsSaid : Prop := boxStreamsRow.holds Try.pinned (OpenSpec.ofChange boxStreamsSpec)

/-- ITS FALSE NEIGHBOUR: 'it returns false'. Refute it at one input. -/
def boxStreamsWrong : ChangeSpec := { name := "boxStreams", fn := fun _ => fun
  | [d1, d2, d3, d4] => { results := [.lit (.bool false)], args := [d1, d2, d3, d4] }
  | _ => none }
def BoxStreamsWrongFalsely : Prop := boxStreamsRow.holds Try.pinned (OpenSpec.ofChange boxStreamsWrong)

/-- 'grapnellaw03.BoxTags': WHATEVER THE INPUT: true; the input reads as it did. -/
def boxTagsSpec : ChangeSpec := { name := "boxTags", fn := fun _ => fun
  | [d1, d2] => { results := [.lit (.bool true)], args := [d1, d2] }
  | _ => none }
def boxTagsRow : OpenClaim := { program := "ytolmfhgpdcmhlaa", sum := "c8898a382faef7b374753eb757d35308ed0848102063a729da7e2dd017e86cb6", func := "grapnel/grapnellaw03.BoxTags", spec := "boxTags", inPlace := ["math/bits.Add64", "math/bits.Sub64"], apart := false }
def BoxTagsSaid : Prop := boxTagsRow.holds Try.pinned (OpenSpec.ofChange boxTagsSpec)

/-- ITS FALSE NEIGHBOUR: 'it returns false'. Refute it at one input. -/
def boxTagsWrong : ChangeSpec := { name := "boxTags", fn := fun _ => fun
  | [d1, d2] => { results := [.lit (.bool false)], args := [d1, d2] }
  | _ => none }
def BoxTagsWrongFalsely : Prop := boxTagsRow.holds Try.pinned (OpenSpec.ofChange boxTagsWrong)

/-- 'grapnellaw03.BoxSeals': WHATEVER THE INPUT: true; the input reads as it did. -/
def boxSealsSpec : ChangeSpec := { name := "boxSeals", fn := fun _ => fun
  | [d1, d2, d3, d4] => { results := [.lit (.bool true)], args := [d1, d2, d3, d4] }
  | _ => none }
def boxSealsRow : OpenClaim := { program := "ytolmfhgpdcmhlaa", sum := "c8898a382faef7b374753eb757d35308ed0848102063a729da7e2dd017e86cb6", func := "grapnel/grapnellaw03.BoxSeals", spec := "boxSeals", inPlace := ["internal/abi.NoEscape", "internal/bytealg.MakeNoZero", "math/bits.Add64", "math/bits.Sub64"], apart := false }
def BoxSealsSaid : Prop := boxSealsRow.holds Try.pinned (OpenSpec.ofChange boxSealsSpec)

/-- ITS FALSE NEIGHBOUR: 'it returns false'. Refute it at one input. -/
def boxSealsWrong : ChangeSpec := { name := "boxSeals", fn := fun _ => fun
  | [d1, d2, d3, d4] => { results := [.lit (.bool false)], args := [d1, d2, d3, d4] }
  | _ => none }
def BoxSealsWrongFalsely : Prop := boxSealsRow.holds Try.pinned (OpenSpec.ofChange boxSealsWrong)

/-- 'grapnellaw03.BoxOpens': WHATEVER THE INPUT: true; the input reads as it did. -/
def boxOpensSpec : ChangeSpec := { name := "boxOpens", fn := fun _ => fun
  | [d1, d2, d3, d4] => { results := [.lit (.bool true)], args := [d1, d2, d3, d4] }
  | _ => none }
def boxOpensRow : OpenClaim := { program := "ytolmfhgpdcmhlaa", sum := "c8898a382faef7b374753eb757d35308ed0848102063a729da7e2dd017e86cb6", func := "grapnel/grapnellaw03.BoxOpens", spec := "boxOpens", inPlace := ["math/bits.Add64", "math/bits.Sub64", "internal/abi.NoEscape", "internal/bytealg.MakeNoZero"], apart := false }
def BoxOpensSaid : Prop := boxOpensRow.holds Try.pinned (OpenSpec.ofChange boxOpensSpec)

/-- ITS FALSE NEIGHBOUR: 'it returns false'. Refute it at one input. -/
def boxOpensWrong : ChangeSpec := { name := "boxOpens", fn := fun _ => fun
  | [d1, d2, d3, d4] => { results := [.lit (.bool false)], args := [d1, d2, d3, d4] }
  | _ => none }
def BoxOpensWrongFalsely : Prop := boxOpensRow.holds Try.pinned (OpenSpec.ofChange boxOpensWrong)

/-- 'grapnellaw03.BoxBack': WHATEVER THE INPUT: true; the input reads as it did. -/
def boxBackSpec : ChangeSpec := { name := "boxBack", fn := fun _ => fun
  | [d1, d2, d3, d4] => { results := [.lit (.bool true)], args := [d1, d2, d3, d4] }
  | _ => none }
def boxBackRow : OpenClaim := { program := "ytolmfhgpdcmhlaa", sum := "c8898a382faef7b374753eb757d35308ed0848102063a729da7e2dd017e86cb6", func := "grapnel/grapnellaw03.BoxBack", spec := "boxBack", inPlace := ["internal/abi.NoEscape", "internal/bytealg.MakeNoZero", "math/bits.Add64", "math/bits.Sub64"], apart := false }
def BoxBackSaid : Prop := boxBackRow.holds Try.pinned (OpenSpec.ofChange boxBackSpec)

/-- ITS FALSE NEIGHBOUR: 'it returns false'. Refute it at one input. -/
def boxBackWrong : ChangeSpec := { name := "boxBack", fn := fun _ => fun
  | [d1, d2, d3, d4] => { results := [.lit (.bool false)], args := [d1, d2, d3, d4] }
  | _ => none }
def BoxBackWrongFalsely : Prop := boxBackRow.holds Try.pinned (OpenSpec.ofChange boxBackWrong)

/-- 'grapnellaw03.BoxTwice': WHATEVER THE INPUT: true; the input reads as it did. -/
def boxTwiceSpec : ChangeSpec := { name := "boxTwice", fn := fun _ => fun
  | [d1, d2, d3, d4] => { results := [.lit (.bool true)], args := [d1, d2, d3, d4] }
  | _ => none }
def boxTwiceRow : OpenClaim := { program := "ytolmfhgpdcmhlaa", sum := "c8898a382faef7b374753eb757d35308ed0848102063a729da7e2dd017e86cb6", func := "grapnel/grapnellaw03.BoxTwice", spec := "boxTwice", inPlace := ["internal/abi.NoEscape", "internal/bytealg.MakeNoZero", "math/bits.Add64", "math/bits.Sub64"], apart := false }
def BoxTwiceSaid : Prop := boxTwiceRow.holds Try.pinned (OpenSpec.ofChange boxTwiceSpec)

/-- ITS FALSE NEIGHBOUR: 'it returns false'. Refute it at one input. -/
def boxTwiceWrong : ChangeSpec := { name := "boxTwice", fn := fun _ => fun
  | [d1, d2, d3, d4] => { results := [.lit (.bool false)], args := [d1, d2, d3, d4] }
  | _ => none }
def BoxTwiceWrongFalsely : Prop := boxTwiceRow.holds Try.pinned (OpenSpec.ofChange boxTwiceWrong)

/- THE SECOND FORM. 'bulk': how many values and letters a reading holds, each counted each time it is reached (what is shared counts as often as it is met; a slice's spare places count too). A statement '..UptoSaid' is the law's where the arguments, and the package variables that the reading takes, are together of bulk at most 1048576: NARROWER than '..Said'. Prove '..Said' where nothing that the law and all that it calls make is longer than what came in: it says more and counts as full. Else prove '..UptoSaid'. A law counts once. -/
mutual
def uptoBulk {H : Type} : DataW H → Nat
  | .lit (.string bytes) => bytes.length + 1
  | .lit _ => 1
  | .nil => 1
  | .ptr d => uptoBulk d + 1
  | .slice elems spare => uptoBulkAll elems + uptoBulkAll spare + 1
  | .agg parts => uptoBulkAll parts + 1
  | .iface _ d => uptoBulk d + 1
  | .map entries => uptoBulkEntries entries + 1
  | .held _ => 1
def uptoBulkAll {H : Type} : List (DataW H) → Nat
  | [] => 0
  | d :: r => uptoBulk d + uptoBulkAll r
def uptoBulkEntries {H : Type} : List (Lit × DataW H) → Nat
  | [] => 0
  | x :: r => uptoBulkEntry x + uptoBulkEntries r
def uptoBulkEntry {H : Type} : Lit × DataW H → Nat
  | (.string bytes, d) => bytes.length + uptoBulk d + 1
  | (_, d) => uptoBulk d + 1
 end
def uptoSmall : (H : Type) → List (DataW H) → Bool := fun _ ds => decide (uptoBulkAll ds ≤ 1048576)
def OpenSpec.upto (s : _root_.Go.ChangeSpec) : _root_.Go.OpenSpec := { _root_.Go.OpenSpec.ofChange s with cond := some uptoSmall }

/-- 'grapnellaw03.BoxStreams', WHERE WHAT IT READS IS OF BULK AT MOST 1048576: true; the input reads as it did. -/
def boxStreamsUptoRow : OpenClaim := { program := "ytolmfhgpdcmhlaa", sum := "c8898a382faef7b374753eb757d35308ed0848102063a729da7e2dd017e86cb6", func := "grapnel/grapnellaw03.BoxStreams", spec := "boxStreams", inPlace := ["internal/abi.NoEscape", "internal/bytealg.MakeNoZero", "math/bits.Add64", "math/bits.Sub64"], apart := false, narrowed := true }
def BoxStreamsUptoSaid : Prop := boxStreamsUptoRow.holds Try.pinned (OpenSpec.upto boxStreamsSpec)

/-- 'grapnellaw03.BoxTags', WHERE WHAT IT READS IS OF BULK AT MOST 1048576: true; the input reads as it did. -/
def boxTagsUptoRow : OpenClaim := { program := "ytolmfhgpdcmhlaa", sum := "c8898a382faef7b374753eb757d35308ed0848102063a729da7e2dd017e86cb6", func := "grapnel/grapnellaw03.BoxTags", spec := "boxTags", inPlace := ["math/bits.Add64", "math/bits.Sub64"], apart := false, narrowed := true }
def BoxTagsUptoSaid : Prop := boxTagsUptoRow.holds Try.pinned (OpenSpec.upto boxTagsSpec)

/-- 'grapnellaw03.BoxSeals', WHERE WHAT IT READS IS OF BULK AT MOST 1048576: true; the input reads as it did. -/
def boxSealsUptoRow : OpenClaim := { program := "ytolmfhgpdcmhlaa", sum := "c8898a382faef7b374753eb757d35308ed0848102063a729da7e2dd017e86cb6", func := "grapnel/grapnellaw03.BoxSeals", spec := "boxSeals", inPlace := ["internal/abi.NoEscape", "internal/bytealg.MakeNoZero", "math/bits.Add64", "math/bits.Sub64"], apart := false, narrowed := true }
def BoxSealsUptoSaid : Prop := boxSealsUptoRow.holds Try.pinned (OpenSpec.upto boxSealsSpec)

/-- 'grapnellaw03.BoxOpens', WHERE WHAT IT READS IS OF BULK AT MOST 1048576: true; the input reads as it did. -/
def boxOpensUptoRow : OpenClaim := { program := "ytolmfhgpdcmhlaa", sum := "c8898a382faef7b374753eb757d35308ed0848102063a729da7e2dd017e86cb6", func := "grapnel/grapnellaw03.BoxOpens", spec := "boxOpens", inPlace := ["math/bits.Add64", "math/bits.Sub64", "internal/abi.NoEscape", "internal/bytealg.MakeNoZero"], apart := false, narrowed := true }
def BoxOpensUptoSaid : Prop := boxOpensUptoRow.holds Try.pinned (OpenSpec.upto boxOpensSpec)

/-- 'grapnellaw03.BoxBack', WHERE WHAT IT READS IS OF BULK AT MOST 1048576: true; the input reads as it did. -/
def boxBackUptoRow : OpenClaim := { program := "ytolmfhgpdcmhlaa", sum := "c8898a382faef7b374753eb757d35308ed0848102063a729da7e2dd017e86cb6", func := "grapnel/grapnellaw03.BoxBack", spec := "boxBack", inPlace := ["internal/abi.NoEscape", "internal/bytealg.MakeNoZero", "math/bits.Add64", "math/bits.Sub64"], apart := false, narrowed := true }
def BoxBackUptoSaid : Prop := boxBackUptoRow.holds Try.pinned (OpenSpec.upto boxBackSpec)

/-- 'grapnellaw03.BoxTwice', WHERE WHAT IT READS IS OF BULK AT MOST 1048576: true; the input reads as it did. -/
def boxTwiceUptoRow : OpenClaim := { program := "ytolmfhgpdcmhlaa", sum := "c8898a382faef7b374753eb757d35308ed0848102063a729da7e2dd017e86cb6", func := "grapnel/grapnellaw03.BoxTwice", spec := "boxTwice", inPlace := ["internal/abi.NoEscape", "internal/bytealg.MakeNoZero", "math/bits.Add64", "math/bits.Sub64"], apart := false, narrowed := true }
def BoxTwiceUptoSaid : Prop := boxTwiceUptoRow.holds Try.pinned (OpenSpec.upto boxTwiceSpec)

end Rows
end Go.Proofs.Ytolmfhgpdcmhlaa
