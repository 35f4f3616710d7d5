/- pack.Head of what pack.HeadOf tells of a text, and the like of inodes, entries and superblocks: where the text is one, it is told again, with no error. -/
import Derived.Test.YtbgilbnpamegnaaDoorCanonMath
import Derived.Test.YtbgilbnpamegnaaDoorHead
import Derived.Test.YtbgilbnpamegnaaDoorSuper
import Derived.Test.YtbgilbnpamegnaaDoorEntry
import Derived.Test.YtbgilbnpamegnaaDoorInode
namespace Go.Proofs.YtbgilbnpamegnaaDoor
open Go.RowKit

theorem head_canon (s : ByteArray) (w : World) : Calls Tryd.prog 9 #[.agg (headC s)] w fun e w' => ∃ T F, e = .returned (.tuple #[.string T, .int .i64 F]) ∧ (headE s = 0 → F = 0 ∧ T = s) ∧ Below w.heap.size w w' := by
  refine (head_any (headN s 4 6) (headN s 10 4) (headN s 14 2) (headN s 16 4) (headN s 20 4) (headN s 24 4) (headN s 28 6) (headN s 34 6) w).mono ?_
  rintro e w' ⟨rfl, hb⟩
  exact ⟨_, _, rfl, fun h => head_back h, hb⟩
theorem super_canon (s : ByteArray) (w : World) : Calls Tryd.prog 14 #[.agg (superOC s)] w fun e w' => ∃ T F, e = .returned (.tuple #[.string T, .int .i64 F]) ∧ (superOE s = 0 → F = 0 ∧ T = s) ∧ Below w.heap.size w w' := by
  refine (super_any (superON s 0 6) (superON s 6 6) (superON s 12 6) (superON s 18 4) (superOR s) w).mono ?_
  rintro e w' ⟨rfl, hb⟩
  exact ⟨_, _, rfl, fun h => super_back h, hb⟩
theorem entry_canon (s : ByteArray) (w : World) : Calls Tryd.prog 12 #[.agg (entryOC s)] w fun e w' => ∃ T F, e = .returned (.tuple #[.string T, .int .i64 F]) ∧ (entryOE s = 0 → F = 0 ∧ T = s) ∧ Below w.heap.size w w' := by
  refine (entry_any (entryOR s) (entryON s 20 4) (entryON s 24 4) w).mono ?_
  rintro e w' ⟨rfl, hb⟩
  exact ⟨_, _, rfl, fun h => entry_back h, hb⟩
theorem inode_canon (s : ByteArray) (w : World) : Calls Tryd.prog 10 #[.agg (inodeOC s)] w fun e w' => ∃ T F, e = .returned (.tuple #[.string T, .int .i64 F]) ∧ (inodeOE s = 0 → F = 0 ∧ T = s) ∧ Below w.heap.size w w' := by
  by_cases h : inodeOE s = 0
  · have e : inodeOC s = #[.int .i64 (fldI s.data.toList 0), .int .i64 (fldI s.data.toList 1), .int .i64 (fldI s.data.toList 2), .int .i64 (fldI s.data.toList 3), .int .i64 ((fun i => fldI s.data.toList (i + 4)) 0), .int .i64 ((fun i => fldI s.data.toList (i + 4)) 1), .int .i64 ((fun i => fldI s.data.toList (i + 4)) 2), .int .i64 ((fun i => fldI s.data.toList (i + 4)) 3), .int .i64 ((fun i => fldI s.data.toList (i + 4)) 4), .int .i64 ((fun i => fldI s.data.toList (i + 4)) 5), .int .i64 ((fun i => fldI s.data.toList (i + 4)) 6), .int .i64 ((fun i => fldI s.data.toList (i + 4)) 7), .int .i64 ((fun i => fldI s.data.toList (i + 4)) 8), .int .i64 ((fun i => fldI s.data.toList (i + 4)) 9), .int .i64 ((fun i => fldI s.data.toList (i + 4)) 10), .int .i64 ((fun i => fldI s.data.toList (i + 4)) 11), .int .i64 (fldI s.data.toList 16), .int .i64 (fldI s.data.toList 17)] := by rw [inodeOC, if_pos h]; rfl
    rw [e]
    refine (inode_any (fldI s.data.toList 0) (fldI s.data.toList 1) (fldI s.data.toList 2) (fldI s.data.toList 3) (fldI s.data.toList 16) (fldI s.data.toList 17) (fun i => fldI s.data.toList (i + 4)) w).mono ?_
    rintro e w' ⟨rfl, hb⟩
    exact ⟨_, _, rfl, fun h => inode_back h, hb⟩
  · have e : inodeOC s = #[.int .i64 0, .int .i64 0, .int .i64 0, .int .i64 0, .int .i64 ((fun _ => 0) 0), .int .i64 ((fun _ => 0) 1), .int .i64 ((fun _ => 0) 2), .int .i64 ((fun _ => 0) 3), .int .i64 ((fun _ => 0) 4), .int .i64 ((fun _ => 0) 5), .int .i64 ((fun _ => 0) 6), .int .i64 ((fun _ => 0) 7), .int .i64 ((fun _ => 0) 8), .int .i64 ((fun _ => 0) 9), .int .i64 ((fun _ => 0) 10), .int .i64 ((fun _ => 0) 11), .int .i64 0, .int .i64 0] := by rw [inodeOC, if_neg h]; rfl
    rw [e]
    refine (inode_any 0 0 0 0 0 0 (fun _ => 0) w).mono ?_
    rintro e w' ⟨rfl, hb⟩
    exact ⟨_, _, rfl, fun h' => absurd h' h, hb⟩
end Go.Proofs.YtbgilbnpamegnaaDoor
