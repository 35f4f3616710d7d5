/-
  No cell of these rows narrows 'for every input' (looked for: loops, veiled, ifaces, maps, wideKeys, modest, calm, conditions, laid).
  DERIVED. THE GIVEN ROWS OF THIS SEAT. 3 by the template 'for every input the law returns true; each argument reads behind the call as it read before'; 0 by the template 'total and deterministic' (their statements: YtjlilbkddgggoabTotals.lean).
  GIVEN WITH THE SEED: the statements are not yours to turn. If you find one false, say at which input.
  Laid BY PROGRAM, IN A SANDBOX (cutbox-rows.mjs): the forced cells as the released guide's own fill.sh prints them over the translation aa2bd841a6e89d3c… (all of the seat's roots in one cut). By AI agents, Wed Nov 11 2026. No macro, syntax, notation, axiom, sorry.
-/
import Derived.Test.YtjlilbkddgggoabChecked
import GoSem.Claim
import GoSem.ClaimJoined
import GoSem.ClaimMapViews
import Derived.JoinedTies
import Derived.KernelRfl
namespace Go.Proofs.Ytjlilbkddgggoab
/- THE CELL 'sum', in the pinned program and in every row, IS THE sha256 OF THE DUMP (.gsa) THAT YtjlilbkddgggoabProg.lean LOADS. Nothing in Lean hashes anything: it is a label: what it is worth is what the hold of that sum in a sandbox is worth. -/
noncomputable def Try.pinned : Pinned := { name := "ytjlilbkddgggoab", sum := "aa2bd841a6e89d3c2ba4735c8af56dc6361e3d24174303a4116ced2255c829f8", checked := Try.checked }
namespace Rows
def none {H : Type} : Left H := { results := [], args := [] }

/-- 'grapnellaw01.PackInodes': WHATEVER THE INPUT: true; the input reads as it did. -/
def packInodesSpec : ChangeSpec := { name := "packInodes", fn := fun _ => fun
  | [d] => { results := [.lit (.bool true)], args := [d] }
  | _ => none }
def packInodesRow : OpenClaim := { program := "ytjlilbkddgggoab", sum := "aa2bd841a6e89d3c2ba4735c8af56dc6361e3d24174303a4116ced2255c829f8", func := "grapnel/grapnellaw01.PackInodes", spec := "packInodes", apart := false }
def PackInodesSaid : Prop := packInodesRow.holds Try.pinned (OpenSpec.ofChange packInodesSpec)

/-- ITS FALSE NEIGHBOUR: 'it returns false'. Refute it at one input. -/
def packInodesWrong : ChangeSpec := { name := "packInodes", fn := fun _ => fun
  | [d] => { results := [.lit (.bool false)], args := [d] }
  | _ => none }
def PackInodesWrongFalsely : Prop := packInodesRow.holds Try.pinned (OpenSpec.ofChange packInodesWrong)

/-- 'grapnellaw01.PackEntries': WHATEVER THE INPUT: true; the input reads as it did. -/
def packEntriesSpec : ChangeSpec := { name := "packEntries", fn := fun _ => fun
  | [d] => { results := [.lit (.bool true)], args := [d] }
  | _ => none }
def packEntriesRow : OpenClaim := { program := "ytjlilbkddgggoab", sum := "aa2bd841a6e89d3c2ba4735c8af56dc6361e3d24174303a4116ced2255c829f8", func := "grapnel/grapnellaw01.PackEntries", spec := "packEntries", apart := false }
def PackEntriesSaid : Prop := packEntriesRow.holds Try.pinned (OpenSpec.ofChange packEntriesSpec)

/-- ITS FALSE NEIGHBOUR: 'it returns false'. Refute it at one input. -/
def packEntriesWrong : ChangeSpec := { name := "packEntries", fn := fun _ => fun
  | [d] => { results := [.lit (.bool false)], args := [d] }
  | _ => none }
def PackEntriesWrongFalsely : Prop := packEntriesRow.holds Try.pinned (OpenSpec.ofChange packEntriesWrong)

/-- 'grapnellaw01.PackSupers': WHATEVER THE INPUT: true; the input reads as it did. -/
def packSupersSpec : ChangeSpec := { name := "packSupers", fn := fun _ => fun
  | [d] => { results := [.lit (.bool true)], args := [d] }
  | _ => none }
def packSupersRow : OpenClaim := { program := "ytjlilbkddgggoab", sum := "aa2bd841a6e89d3c2ba4735c8af56dc6361e3d24174303a4116ced2255c829f8", func := "grapnel/grapnellaw01.PackSupers", spec := "packSupers", apart := false }
def PackSupersSaid : Prop := packSupersRow.holds Try.pinned (OpenSpec.ofChange packSupersSpec)

/-- ITS FALSE NEIGHBOUR: 'it returns false'. Refute it at one input. -/
def packSupersWrong : ChangeSpec := { name := "packSupers", fn := fun _ => fun
  | [d] => { results := [.lit (.bool false)], args := [d] }
  | _ => none }
def PackSupersWrongFalsely : Prop := packSupersRow.holds Try.pinned (OpenSpec.ofChange packSupersWrong)

/- THE SECOND FORM. 'bulk': how many values and letters a reading holds, each counted each time it is reached (what is shared counts as often as it is met; a slice's spare places count too). A statement '..UptoSaid' is the law's where the arguments, and the package variables that the reading takes, are together of bulk at most 1048576: NARROWER than '..Said'. Prove '..Said' where nothing that the law and all that it calls make is longer than what came in: it says more and counts as full. Else prove '..UptoSaid'. A law counts once. -/
mutual
def uptoBulk {H : Type} : DataW H → Nat
  | .lit (.string bytes) => bytes.length + 1
  | .lit _ => 1
  | .nil => 1
  | .ptr d => uptoBulk d + 1
  | .slice elems spare => uptoBulkAll elems + uptoBulkAll spare + 1
  | .agg parts => uptoBulkAll parts + 1
  | .iface _ d => uptoBulk d + 1
  | .map entries => uptoBulkEntries entries + 1
  | .held _ => 1
def uptoBulkAll {H : Type} : List (DataW H) → Nat
  | [] => 0
  | d :: r => uptoBulk d + uptoBulkAll r
def uptoBulkEntries {H : Type} : List (Lit × DataW H) → Nat
  | [] => 0
  | x :: r => uptoBulkEntry x + uptoBulkEntries r
def uptoBulkEntry {H : Type} : Lit × DataW H → Nat
  | (.string bytes, d) => bytes.length + uptoBulk d + 1
  | (_, d) => uptoBulk d + 1
 end
def uptoSmall : (H : Type) → List (DataW H) → Bool := fun _ ds => decide (uptoBulkAll ds ≤ 1048576)
def OpenSpec.upto (s : _root_.Go.ChangeSpec) : _root_.Go.OpenSpec := { _root_.Go.OpenSpec.ofChange s with cond := some uptoSmall }

/-- 'grapnellaw01.PackInodes', WHERE WHAT IT READS IS OF BULK AT MOST 1048576: true; the input reads as it did. -/
def packInodesUptoRow : OpenClaim := { program := "ytjlilbkddgggoab", sum := "aa2bd841a6e89d3c2ba4735c8af56dc6361e3d24174303a4116ced2255c829f8", func := "grapnel/grapnellaw01.PackInodes", spec := "packInodes", apart := false, narrowed := true }
def PackInodesUptoSaid : Prop := packInodesUptoRow.holds Try.pinned (OpenSpec.upto packInodesSpec)

/-- 'grapnellaw01.PackEntries', WHERE WHAT IT READS IS OF BULK AT MOST 1048576: true; the input reads as it did. -/
def packEntriesUptoRow : OpenClaim := { program := "ytjlilbkddgggoab", sum := "aa2bd841a6e89d3c2ba4735c8af56dc6361e3d24174303a4116ced2255c829f8", func := "grapnel/grapnellaw01.PackEntries", spec := "packEntries", apart := false, narrowed := true }
def PackEntriesUptoSaid : Prop := packEntriesUptoRow.holds Try.pinned (OpenSpec.upto packEntriesSpec)

/-- 'grapnellaw01.PackSupers', WHERE WHAT IT READS IS OF BULK AT MOST 1048576: true; the input reads as it did. -/
def packSupersUptoRow : OpenClaim := { program := "ytjlilbkddgggoab", sum := "aa2bd841a6e89d3c2ba4735c8af56dc6361e3d24174303a4116ced2255c829f8", func := "grapnel/grapnellaw01.PackSupers", spec := "packSupers", apart := false, narrowed := true }
def PackSupersUptoSaid : Prop := packSupersUptoRow.holds Try.pinned (OpenSpec.upto packSupersSpec)

end Rows
end Go.Proofs.Ytjlilbkddgggoab
