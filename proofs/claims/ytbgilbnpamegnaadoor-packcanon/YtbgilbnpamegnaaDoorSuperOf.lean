/- pack.SuperOf, called with any text, tells the super and the error that the text is by the document. -/
import Derived.Test.YtbgilbnpamegnaaDoorReadSuper
namespace Go.Proofs.YtbgilbnpamegnaaDoor
open Go.RowKit

theorem read_returnsS (s : ByteArray) (hs : s.size ≤ 448) (hT : ∀ (w : World) (b : Nat), Rd w b s 0 → Calls Tryd.prog 34 #[.pointer (some ⟨b, 0, none⟩)] w fun e w' => e = .returned (.agg (superCells s)) ∧ Only b w w') (w : World) :
    Calls Tryd.prog 33 #[.string s, .int .i64 448, .func (.func 34) #[] #[]] w fun e w' => e = .returned (.tuple #[.agg (superCells s), .int .i64 0]) ∧ Below w.heap.size w w' := by
  have hmf : ∀ (fn : Fn) (first cap : Array Value) (w : World), (Instr.makeFunc fn first cap).run Tryd.prog w = .ok (.func fn first cap) w := fun _ _ _ _ => rfl
  have i1 : ¬ (448 : Int) < s.size := by omega
  go_enter_defers Tryd.func33, Tryd.ntmps33
  go_wp2_with fail
  have hb0 : Below w.heap.size w (((w.alloc (.cells #[.int .i64 0, .int .i64 0, .int .i64 0, .int .i64 0, .string ⟨#[]⟩] 43)).alloc (.cells #[.int .i64 0] 25)).alloc (.cells #[.string s, .int .i64 0] 78)) := (((Below.refl _ _).alloc (Nat.le_refl _) _).alloc (by simp) _).alloc (by simp; omega) _
  have hR : Rd (((w.alloc (.cells #[.int .i64 0, .int .i64 0, .int .i64 0, .int .i64 0, .string ⟨#[]⟩] 43)).alloc (.cells #[.int .i64 0] 25)).alloc (.cells #[.string s, .int .i64 0] 78)) (w.heap.size + 1 + 1) s 0 := by
    have := heap_alloc_new ((w.alloc (.cells #[.int .i64 0, .int .i64 0, .int .i64 0, .int .i64 0, .string ⟨#[]⟩] 43)).alloc (.cells #[.int .i64 0] 25)) (.cells #[.string s, .int .i64 0] 78)
    simpa [Rd] using this
  have g0 : (((w.alloc (.cells #[.int .i64 0, .int .i64 0, .int .i64 0, .int .i64 0, .string ⟨#[]⟩] 43)).alloc (.cells #[.int .i64 0] 25)).alloc (.cells #[.string s, .int .i64 0] 78)).heap[w.heap.size]? = some (.cells #[.int .i64 0, .int .i64 0, .int .i64 0, .int .i64 0, .string ⟨#[]⟩] 43 (0, 0)) :=
    (Below.heap_alloc _ _ _ (by simp; omega)).trans (heap_alloc2_old w _ _)
  have g1 : (((w.alloc (.cells #[.int .i64 0, .int .i64 0, .int .i64 0, .int .i64 0, .string ⟨#[]⟩] 43)).alloc (.cells #[.int .i64 0] 25)).alloc (.cells #[.string s, .int .i64 0] 78)).heap[w.heap.size + 1]? = some (.cells #[.int .i64 0] 25 (0, 0)) :=
    (Below.heap_alloc _ _ _ (by simp)).trans (heap_alloc2_new w _ _)
  generalize ((w.alloc (.cells #[.int .i64 0, .int .i64 0, .int .i64 0, .int .i64 0, .string ⟨#[]⟩] 43)).alloc (.cells #[.int .i64 0] 25)).alloc (.cells #[.string s, .int .i64 0] 78) = w0 at *
  refine (hT _ _ hR).mono ?_
  rintro e w1 ⟨rfl, hb1⟩
  have hl := hR.lt
  have k0 := (hb1.2 w.heap.size (by omega) (by omega)).trans g0
  have k1 := (hb1.2 (w.heap.size + 1) (by omega) (by omega)).trans g1
  have hl1 := lt_of_block k1
  have hbw : Below w.heap.size w w1 := hb0.trans ((hb1.below (by omega)).mono (by omega))
  have c0 := setRow_heap w1 w.heap.size _ (superCells s) _ _ k0
  have c1 := (setRow_other w1 w.heap.size (w.heap.size + 1) (superCells s) (by omega)).trans k1
  have c2 : (w1.setRow w.heap.size (superCells s)).cell? ⟨w.heap.size + 1, 0, none⟩ = some (.int .i64 0) := by simp [World.cell?, c1]
  have c3 : (w1.setRow w.heap.size (superCells s)).frozen? ⟨w.heap.size + 1, 0, none⟩ = false := by simp [World.frozen?, c1]
  have hbr : Below w.heap.size w (w1.setRow w.heap.size (superCells s)) := hbw.trans ⟨rfl, rfl, rfl, by simp [World.setRow], fun k hk => setRow_other _ _ _ _ (by omega)⟩
  clear hT hmf hR hb0 hb1 g0 g1
  go_wp2_with (refine wpList_store_row rfl 43 _ _ rfl w.heap.size (superCells s) rfl rfl 43 _ k0 (by kernel_rfl) rfl (superCells_one s) ?_)
  refine leaves_cons (f := 47) (args := #[.pointer (some ⟨w.heap.size + 1, 0, none⟩)]) (by simp) (by simp [go_sem]) ?_
  refine (catch_idleS ⟨w.heap.size + 1, 0, none⟩ _).mono ?_
  rintro e u' w2 ⟨rfl, rfl, rfl⟩
  have d1 := heap_setCell_same (w1.setRow w.heap.size (superCells s)) (w.heap.size + 1) 0 _ _ (.int .i64 0) c1
  exact ⟨_, read_resultsS _ _ w.heap.size _ 0 rfl rfl ((Below.heap_setCell _ _ _ _ (by simp)).trans c0) rfl (by simp [World.cell?, d1]), rfl, hbr.setCell (p := ⟨w.heap.size + 1, 0, none⟩) (by simp) _⟩

/-- The error that a text is as a superblock. -/
def superOE (s : ByteArray) : Int :=
  if 448 < s.size then 4 else if s.size < 448 then 3 else if allZ (s.extract 54 448) = true then 0 else 5
/-- A superblock's number of a text. -/
def superON (s : ByteArray) (a k : Nat) : Int := if superOE s = 0 then leVal ((s.data.toList.drop a).take k) else 0
def superOR (s : ByteArray) : ByteArray := if superOE s = 0 then s.extract 22 54 else ⟨#[]⟩
def superOC (s : ByteArray) : Array Value := #[.int .i64 (superON s 0 6), .int .i64 (superON s 6 6), .int .i64 (superON s 12 6), .int .i64 (superON s 18 4), .string (superOR s)]
theorem superOC_one (s : ByteArray) : (superOC s).all (·.oneCell') = true := by simp [superOC, Value.oneCell']
theorem superOC_no {s : ByteArray} (h : ¬ superOE s = 0) : superOC s = #[.int .i64 0, .int .i64 0, .int .i64 0, .int .i64 0, .string ⟨#[]⟩] := by simp [superOC, superON, superOR, h]
theorem superOC_yes {s : ByteArray} (h : superOE s = 0) : superOC s = superCells s := by simp [superOC, superON, superOR, superCells, h]

theorem readSuper_any (s : ByteArray) (w : World) :
    Calls Tryd.prog 33 #[.string s, .int .i64 448, .func (.func 34) #[] #[]] w fun e w' => e = .returned (.tuple #[.agg (superOC s), .int .i64 (superOE s)]) ∧ Below w.heap.size w w' := by
  by_cases h1 : 448 < s.size
  · have he : superOE s = 4 := by simp [superOE, h1]
    rw [superOC_no (by rw [he]; decide), he]
    exact read_longS s 448 h1 w
  by_cases h2 : s.size < 448
  · have he : superOE s = 3 := by simp [superOE, h1, h2]
    rw [superOC_no (by rw [he]; decide), he]
    exact read_panicsS s (by omega) 3 (fun w b h => takeSuper_short b s h2 w h) w
  by_cases h4 : allZ (s.extract 54 448) = true
  case neg =>
    have he : superOE s = 5 := by rw [superOE, if_neg h1, if_neg h2, if_neg h4]
    rw [superOC_no (by rw [he]; decide), he]
    exact read_panicsS s (by omega) 5 (fun w b h => by simpa only [if_neg h4] using takeSuper_full b s (by omega) w h) w
  have he : superOE s = 0 := by rw [superOE, if_neg h1, if_neg h2, if_pos h4]
  rw [superOC_yes he, he]
  exact read_returnsS s (by omega) (fun w b h => by simpa only [if_pos h4] using takeSuper_full b s (by omega) w h) w

theorem superOf_any (s : ByteArray) (w : World) :
    Calls Tryd.prog 13 #[.string s] w fun e w' => e = .returned (.tuple #[.agg (superOC s), .int .i64 (superOE s)]) ∧ Below w.heap.size w w' := by
  have hmf : ∀ (fn : Fn) (first cap : Array Value) (w : World), (Instr.makeFunc fn first cap).run Tryd.prog w = .ok (.func fn first cap) w := fun _ _ _ _ => rfl
  go_enter Tryd.func13, Tryd.ntmps13
  go_wp2_with fail
  refine (readSuper_any s _).mono ?_
  rintro e w1 ⟨rfl, hb1⟩
  have g0 := (hb1.block w.heap.size (by simp)).trans (heap_alloc_new w _)
  have hbw : Below w.heap.size w w1 := (below_newS w _).trans (hb1.mono (by simp))
  clear hb1
  go_wp2_with (refine wpList_store_row rfl 43 _ _ rfl w.heap.size (superOC s) rfl rfl 43 _ g0 (by kernel_rfl) rfl (superOC_one s) ?_)
  have hr := run_loadVar_row (P := Tryd.prog) (w1.setRow w.heap.size (superOC s)) w.heap.size 43 43 (superOC s) (0, 0) _ (setRow_heap _ _ _ _ _ _ g0) Tryd.underlying43 rfl (by kernel_rfl)
  exact bodyPost_ret (v := .tuple #[.agg (superOC s), .int .i64 (superOE s)]) (by simp [results, Tryd.results13, asAddr, hr]) rfl ⟨rfl, hbw.trans ⟨rfl, rfl, rfl, by simp [World.setRow], fun k hk => setRow_other _ _ _ _ (by omega)⟩⟩
end Go.Proofs.YtbgilbnpamegnaaDoor
