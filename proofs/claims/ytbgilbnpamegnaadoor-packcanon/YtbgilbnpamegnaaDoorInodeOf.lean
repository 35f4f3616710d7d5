/- pack.InodeOf, called with any text, tells the inode and the error that the text is by the document. -/
import Derived.Test.YtbgilbnpamegnaaDoorReadInode
namespace Go.Proofs.YtbgilbnpamegnaaDoor
open Go.RowKit

theorem inodeCells_size (s : ByteArray) : (inodeCells s).size = 18 := cellsI_size _ _
theorem inodeCells_one (s : ByteArray) : (inodeCells s).all (·.oneCell') = true := cellsI_one _ _
theorem read_returnsI (s : ByteArray) (hs : s.size ≤ 448) (hT : ∀ (w : World) (b : Nat), Rd w b s 0 → Calls Tryd.prog 16 #[.pointer (some ⟨b, 0, none⟩)] w fun e w' => e = .returned (.agg (inodeCells s)) ∧ Only b w w') (w : World) :
    Calls Tryd.prog 15 #[.string s, .int .i64 448, .func (.func 16) #[] #[]] w fun e w' => e = .returned (.tuple #[.agg (inodeCells s), .int .i64 0]) ∧ Below w.heap.size w w' := by
  have hmf : ∀ (fn : Fn) (first cap : Array Value) (w : World), (Instr.makeFunc fn first cap).run Tryd.prog w = .ok (.func fn first cap) w := fun _ _ _ _ => rfl
  have i1 : ¬ (448 : Int) < s.size := by omega
  go_enter_defers Tryd.func15, Tryd.ntmps15
  go_wp2_with fail
  have hb0 : Below w.heap.size w (((w.alloc (.cells #[.int .i64 0, .int .i64 0, .int .i64 0, .int .i64 0, .int .i64 0, .int .i64 0, .int .i64 0, .int .i64 0, .int .i64 0, .int .i64 0, .int .i64 0, .int .i64 0, .int .i64 0, .int .i64 0, .int .i64 0, .int .i64 0, .int .i64 0, .int .i64 0] 24)).alloc (.cells #[.int .i64 0] 25)).alloc (.cells #[.string s, .int .i64 0] 78)) := (((Below.refl _ _).alloc (Nat.le_refl _) _).alloc (by simp) _).alloc (by simp; omega) _
  have hR : Rd (((w.alloc (.cells #[.int .i64 0, .int .i64 0, .int .i64 0, .int .i64 0, .int .i64 0, .int .i64 0, .int .i64 0, .int .i64 0, .int .i64 0, .int .i64 0, .int .i64 0, .int .i64 0, .int .i64 0, .int .i64 0, .int .i64 0, .int .i64 0, .int .i64 0, .int .i64 0] 24)).alloc (.cells #[.int .i64 0] 25)).alloc (.cells #[.string s, .int .i64 0] 78)) (w.heap.size + 1 + 1) s 0 := by
    have := heap_alloc_new ((w.alloc (.cells #[.int .i64 0, .int .i64 0, .int .i64 0, .int .i64 0, .int .i64 0, .int .i64 0, .int .i64 0, .int .i64 0, .int .i64 0, .int .i64 0, .int .i64 0, .int .i64 0, .int .i64 0, .int .i64 0, .int .i64 0, .int .i64 0, .int .i64 0, .int .i64 0] 24)).alloc (.cells #[.int .i64 0] 25)) (.cells #[.string s, .int .i64 0] 78)
    simpa [Rd] using this
  have g0 : (((w.alloc (.cells #[.int .i64 0, .int .i64 0, .int .i64 0, .int .i64 0, .int .i64 0, .int .i64 0, .int .i64 0, .int .i64 0, .int .i64 0, .int .i64 0, .int .i64 0, .int .i64 0, .int .i64 0, .int .i64 0, .int .i64 0, .int .i64 0, .int .i64 0, .int .i64 0] 24)).alloc (.cells #[.int .i64 0] 25)).alloc (.cells #[.string s, .int .i64 0] 78)).heap[w.heap.size]? = some (.cells #[.int .i64 0, .int .i64 0, .int .i64 0, .int .i64 0, .int .i64 0, .int .i64 0, .int .i64 0, .int .i64 0, .int .i64 0, .int .i64 0, .int .i64 0, .int .i64 0, .int .i64 0, .int .i64 0, .int .i64 0, .int .i64 0, .int .i64 0, .int .i64 0] 24 (0, 0)) :=
    (Below.heap_alloc _ _ _ (by simp; omega)).trans (heap_alloc2_old w _ _)
  have g1 : (((w.alloc (.cells #[.int .i64 0, .int .i64 0, .int .i64 0, .int .i64 0, .int .i64 0, .int .i64 0, .int .i64 0, .int .i64 0, .int .i64 0, .int .i64 0, .int .i64 0, .int .i64 0, .int .i64 0, .int .i64 0, .int .i64 0, .int .i64 0, .int .i64 0, .int .i64 0] 24)).alloc (.cells #[.int .i64 0] 25)).alloc (.cells #[.string s, .int .i64 0] 78)).heap[w.heap.size + 1]? = some (.cells #[.int .i64 0] 25 (0, 0)) :=
    (Below.heap_alloc _ _ _ (by simp)).trans (heap_alloc2_new w _ _)
  generalize ((w.alloc (.cells #[.int .i64 0, .int .i64 0, .int .i64 0, .int .i64 0, .int .i64 0, .int .i64 0, .int .i64 0, .int .i64 0, .int .i64 0, .int .i64 0, .int .i64 0, .int .i64 0, .int .i64 0, .int .i64 0, .int .i64 0, .int .i64 0, .int .i64 0, .int .i64 0] 24)).alloc (.cells #[.int .i64 0] 25)).alloc (.cells #[.string s, .int .i64 0] 78) = w0 at *
  refine (hT _ _ hR).mono ?_
  rintro e w1 ⟨rfl, hb1⟩
  have hl := hR.lt
  have k0 := (hb1.2 w.heap.size (by omega) (by omega)).trans g0
  have k1 := (hb1.2 (w.heap.size + 1) (by omega) (by omega)).trans g1
  have hl1 := lt_of_block k1
  have hbw : Below w.heap.size w w1 := hb0.trans ((hb1.below (by omega)).mono (by omega))
  have c0 := setRow_heap w1 w.heap.size _ (inodeCells s) _ _ k0
  have c1 := (setRow_other w1 w.heap.size (w.heap.size + 1) (inodeCells s) (by omega)).trans k1
  have c2 : (w1.setRow w.heap.size (inodeCells s)).cell? ⟨w.heap.size + 1, 0, none⟩ = some (.int .i64 0) := by simp [World.cell?, c1]
  have c3 : (w1.setRow w.heap.size (inodeCells s)).frozen? ⟨w.heap.size + 1, 0, none⟩ = false := by simp [World.frozen?, c1]
  have hbr : Below w.heap.size w (w1.setRow w.heap.size (inodeCells s)) := hbw.trans ⟨rfl, rfl, rfl, by simp [World.setRow], fun k hk => setRow_other _ _ _ _ (by omega)⟩
  clear hT hmf hR hb0 hb1 g0 g1
  go_wp2_with (refine wpList_store_row rfl 24 _ _ rfl w.heap.size (inodeCells s) rfl rfl 24 _ k0 (by rw [inodeCells_size]; kernel_rfl) (by rw [inodeCells_size]; rfl) (inodeCells_one s) ?_)
  refine leaves_cons (f := 35) (args := #[.pointer (some ⟨w.heap.size + 1, 0, none⟩)]) (by simp) (by simp [go_sem]) ?_
  refine (catch_idleI ⟨w.heap.size + 1, 0, none⟩ _).mono ?_
  rintro e u' w2 ⟨rfl, rfl, rfl⟩
  have d1 := heap_setCell_same (w1.setRow w.heap.size (inodeCells s)) (w.heap.size + 1) 0 _ _ (.int .i64 0) c1
  exact ⟨_, read_resultsI _ _ w.heap.size _ 0 rfl rfl ((Below.heap_setCell _ _ _ _ (by simp)).trans c0) (inodeCells_size s) (by simp [World.cell?, d1]), rfl, hbr.setCell (p := ⟨w.heap.size + 1, 0, none⟩) (by simp) _⟩

/-- The error that a text is as an inode. -/
def inodeOE (s : ByteArray) : Int :=
  if 448 < s.size then 4 else if s.size < 448 then 3 else if inoFits s = true then 0 else 5
/-- The inode of a text. -/
def inodeOC (s : ByteArray) : Array Value := if inodeOE s = 0 then inodeCells s else cellsI s.data.toList 0
theorem inodeOC_yes {s : ByteArray} (h : inodeOE s = 0) : inodeOC s = inodeCells s := by rw [inodeOC, if_pos h]
theorem inodeOC_no {s : ByteArray} (h : ¬ inodeOE s = 0) : inodeOC s = #[.int .i64 0, .int .i64 0, .int .i64 0, .int .i64 0, .int .i64 0, .int .i64 0, .int .i64 0, .int .i64 0, .int .i64 0, .int .i64 0, .int .i64 0, .int .i64 0, .int .i64 0, .int .i64 0, .int .i64 0, .int .i64 0, .int .i64 0, .int .i64 0] := by rw [inodeOC, if_neg h]; rfl
theorem inodeOC_size (s : ByteArray) : (inodeOC s).size = 18 := by
  by_cases h : inodeOE s = 0
  · rw [inodeOC, if_pos h]; exact cellsI_size _ _
  · rw [inodeOC, if_neg h]; exact cellsI_size _ _
theorem inodeOC_one (s : ByteArray) : (inodeOC s).all (·.oneCell') = true := by
  by_cases h : inodeOE s = 0
  · rw [inodeOC, if_pos h]; exact cellsI_one _ _
  · rw [inodeOC, if_neg h]; exact cellsI_one _ _

theorem readInode_any (s : ByteArray) (w : World) :
    Calls Tryd.prog 15 #[.string s, .int .i64 448, .func (.func 16) #[] #[]] w fun e w' => e = .returned (.tuple #[.agg (inodeOC s), .int .i64 (inodeOE s)]) ∧ Below w.heap.size w w' := by
  by_cases h1 : 448 < s.size
  · have he : inodeOE s = 4 := by rw [inodeOE, if_pos h1]
    rw [inodeOC_no (by rw [he]; decide), he]
    exact read_longI s 448 h1 w
  by_cases h2 : s.size < 448
  · have he : inodeOE s = 3 := by rw [inodeOE, if_neg h1, if_pos h2]
    rw [inodeOC_no (by rw [he]; decide), he]
    exact read_panicsI s (by omega) 3 (fun w b h => by simpa only [if_pos h2] using takeInode_any b s (by omega) w h) w
  by_cases h4 : inoFits s = true
  case neg =>
    have he : inodeOE s = 5 := by rw [inodeOE, if_neg h1, if_neg h2, if_neg h4]
    rw [inodeOC_no (by rw [he]; decide), he]
    exact read_panicsI s (by omega) 5 (fun w b h => by simpa only [if_neg h2, if_neg h4] using takeInode_any b s (by omega) w h) w
  have he : inodeOE s = 0 := by rw [inodeOE, if_neg h1, if_neg h2, if_pos h4]
  rw [inodeOC_yes he, he]
  exact read_returnsI s (by omega) (fun w b h => by simpa only [if_neg h2, if_pos h4] using takeInode_any b s (by omega) w h) w

theorem inodeOf_any (s : ByteArray) (w : World) :
    Calls Tryd.prog 5 #[.string s] w fun e w' => e = .returned (.tuple #[.agg (inodeOC s), .int .i64 (inodeOE s)]) ∧ Below w.heap.size w w' := by
  have hmf : ∀ (fn : Fn) (first cap : Array Value) (w : World), (Instr.makeFunc fn first cap).run Tryd.prog w = .ok (.func fn first cap) w := fun _ _ _ _ => rfl
  go_enter Tryd.func5, Tryd.ntmps5
  go_wp2_with fail
  refine (readInode_any s _).mono ?_
  rintro e w1 ⟨rfl, hb1⟩
  have g0 := (hb1.block w.heap.size (by simp)).trans (heap_alloc_new w _)
  have hbw : Below w.heap.size w w1 := (below_newI w _).trans (hb1.mono (by simp))
  clear hb1
  go_wp2_with (refine wpList_store_row rfl 24 _ _ rfl w.heap.size (inodeOC s) rfl rfl 24 _ g0 (by rw [inodeOC_size]; kernel_rfl) (by rw [inodeOC_size]; rfl) (inodeOC_one s) ?_)
  have hr := run_loadVar_row (P := Tryd.prog) (w1.setRow w.heap.size (inodeOC s)) w.heap.size 24 24 (inodeOC s) (0, 0) _ (setRow_heap _ _ _ _ _ _ g0) Tryd.underlying24 rfl (by rw [inodeOC_size]; kernel_rfl)
  exact bodyPost_ret (v := .tuple #[.agg (inodeOC s), .int .i64 (inodeOE s)]) (by simp [results, Tryd.results5, asAddr, hr]) rfl ⟨rfl, hbw.trans ⟨rfl, rfl, rfl, by simp [World.setRow], fun k hk => setRow_other _ _ _ _ (by omega)⟩⟩
end Go.Proofs.YtbgilbnpamegnaaDoor
