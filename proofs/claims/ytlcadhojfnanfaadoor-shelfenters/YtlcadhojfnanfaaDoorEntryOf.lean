/- pack.EntryOf, called with any text, tells the entry and the error that the text is by the document. -/
import Derived.Test.YtlcadhojfnanfaaDoorReadEntry
namespace Go.Proofs.YtlcadhojfnanfaaDoor
set_option maxRecDepth 20000
open Go.RowKit

theorem read_returnsE (s : ByteArray) (hs : s.size ≤ 28) (hT : ∀ (w : World) (b : Nat), Rd w b s 0 → Calls Tryd.prog 34 #[.pointer (some ⟨b, 0, none⟩)] w fun e w' => e = .returned (.agg (entryCells s)) ∧ Only b w w') (w : World) :
    Calls Tryd.prog 33 #[.string s, .int .i64 28, .func (.func 34) #[] #[]] w fun e w' => e = .returned (.tuple #[.agg (entryCells s), .int .i64 0]) ∧ Below w.heap.size w w' := by
  have hmf : ∀ (fn : Fn) (first cap : Array Value) (w : World), (Instr.makeFunc fn first cap).run Tryd.prog w = .ok (.func fn first cap) w := fun _ _ _ _ => rfl
  have i1 : ¬ (28 : Int) < s.size := by omega
  go_enter_defers Tryd.func33, Tryd.ntmps33
  go_wp2_with fail
  have hb0 : Below w.heap.size w (((w.alloc (.cells #[.string ⟨#[]⟩, .int .i64 0, .int .i64 0] 28)).alloc (.cells #[.int .i64 0] 33)).alloc (.cells #[.string s, .int .i64 0] 76)) := (((Below.refl _ _).alloc (Nat.le_refl _) _).alloc (by simp) _).alloc (by simp; omega) _
  have hR : Rd (((w.alloc (.cells #[.string ⟨#[]⟩, .int .i64 0, .int .i64 0] 28)).alloc (.cells #[.int .i64 0] 33)).alloc (.cells #[.string s, .int .i64 0] 76)) (w.heap.size + 1 + 1) s 0 := by
    have := heap_alloc_new ((w.alloc (.cells #[.string ⟨#[]⟩, .int .i64 0, .int .i64 0] 28)).alloc (.cells #[.int .i64 0] 33)) (.cells #[.string s, .int .i64 0] 76)
    simpa [Rd] using this
  have g0 : (((w.alloc (.cells #[.string ⟨#[]⟩, .int .i64 0, .int .i64 0] 28)).alloc (.cells #[.int .i64 0] 33)).alloc (.cells #[.string s, .int .i64 0] 76)).heap[w.heap.size]? = some (.cells #[.string ⟨#[]⟩, .int .i64 0, .int .i64 0] 28 (0, 0)) :=
    (Below.heap_alloc _ _ _ (by simp; omega)).trans (heap_alloc2_old w _ _)
  have g1 : (((w.alloc (.cells #[.string ⟨#[]⟩, .int .i64 0, .int .i64 0] 28)).alloc (.cells #[.int .i64 0] 33)).alloc (.cells #[.string s, .int .i64 0] 76)).heap[w.heap.size + 1]? = some (.cells #[.int .i64 0] 33 (0, 0)) :=
    (Below.heap_alloc _ _ _ (by simp)).trans (heap_alloc2_new w _ _)
  generalize ((w.alloc (.cells #[.string ⟨#[]⟩, .int .i64 0, .int .i64 0] 28)).alloc (.cells #[.int .i64 0] 33)).alloc (.cells #[.string s, .int .i64 0] 76) = w0 at *
  refine (hT _ _ hR).mono ?_
  rintro e w1 ⟨rfl, hb1⟩
  have hl := hR.lt
  have k0 := (hb1.2 w.heap.size (by omega) (by omega)).trans g0
  have k1 := (hb1.2 (w.heap.size + 1) (by omega) (by omega)).trans g1
  have hl1 := lt_of_block k1
  have hbw : Below w.heap.size w w1 := hb0.trans ((hb1.below (by omega)).mono (by omega))
  have c0 := setRow_heap w1 w.heap.size _ (entryCells s) _ _ k0
  have c1 := (setRow_other w1 w.heap.size (w.heap.size + 1) (entryCells s) (by omega)).trans k1
  have c2 : (w1.setRow w.heap.size (entryCells s)).cell? ⟨w.heap.size + 1, 0, none⟩ = some (.int .i64 0) := by simp [World.cell?, c1]
  have c3 : (w1.setRow w.heap.size (entryCells s)).frozen? ⟨w.heap.size + 1, 0, none⟩ = false := by simp [World.frozen?, c1]
  have hbr : Below w.heap.size w (w1.setRow w.heap.size (entryCells s)) := hbw.trans ⟨rfl, rfl, rfl, by simp [World.setRow], fun k hk => setRow_other _ _ _ _ (by omega)⟩
  clear hT hmf hR hb0 hb1 g0 g1
  go_wp2_with (refine wpList_store_row rfl 28 _ _ rfl w.heap.size (entryCells s) rfl rfl 28 _ k0 (by kernel_rfl) rfl (entryCells_one s) ?_)
  refine leaves_cons (f := 38) (args := #[.pointer (some ⟨w.heap.size + 1, 0, none⟩)]) (by simp) (by simp [go_sem]) ?_
  refine (catch_idleE ⟨w.heap.size + 1, 0, none⟩ _).mono ?_
  rintro e u' w2 ⟨rfl, rfl, rfl⟩
  have d1 := heap_setCell_same (w1.setRow w.heap.size (entryCells s)) (w.heap.size + 1) 0 _ _ (.int .i64 0) c1
  exact ⟨_, read_resultsE _ _ w.heap.size _ 0 rfl rfl ((Below.heap_setCell _ _ _ _ (by simp)).trans c0) rfl (by simp [World.cell?, d1]), rfl, hbr.setCell (p := ⟨w.heap.size + 1, 0, none⟩) (by simp) _⟩

/-- The error that a text is as an entry. -/
def entryOE (s : ByteArray) : Int :=
  if 28 < s.size then 4 else if s.size < 28 then 3 else if eoFits s = true then 0 else 5
/-- An entry's number of a text, and its name. -/
def entryON (s : ByteArray) (a k : Nat) : Int := if entryOE s = 0 then leVal ((s.data.toList.drop a).take k) else 0
def entryOR (s : ByteArray) : ByteArray := if entryOE s = 0 then eoName s else ⟨#[]⟩
def entryOC (s : ByteArray) : Array Value := #[.string (entryOR s), .int .i64 (entryON s 20 4), .int .i64 (entryON s 24 4)]
theorem entryOC_one (s : ByteArray) : (entryOC s).all (·.oneCell') = true := by simp [entryOC, Value.oneCell']
theorem entryOC_no {s : ByteArray} (h : ¬ entryOE s = 0) : entryOC s = #[.string ⟨#[]⟩, .int .i64 0, .int .i64 0] := by simp [entryOC, entryON, entryOR, h]
theorem entryOC_yes {s : ByteArray} (h : entryOE s = 0) : entryOC s = entryCells s := by simp [entryOC, entryON, entryOR, entryCells, h]

theorem readEntry_any (s : ByteArray) (w : World) :
    Calls Tryd.prog 33 #[.string s, .int .i64 28, .func (.func 34) #[] #[]] w fun e w' => e = .returned (.tuple #[.agg (entryOC s), .int .i64 (entryOE s)]) ∧ Below w.heap.size w w' := by
  by_cases h1 : 28 < s.size
  · have he : entryOE s = 4 := by simp [entryOE, h1]
    rw [entryOC_no (by rw [he]; decide), he]
    exact read_longE s 28 h1 w
  by_cases h2 : s.size < 28
  · have he : entryOE s = 3 := by simp [entryOE, h1, h2]
    rw [entryOC_no (by rw [he]; decide), he]
    exact read_panicsE s (by omega) 3 (fun w b h => takeEntry_short b s h2 w h) w
  by_cases h4 : eoFits s = true
  case neg =>
    have he : entryOE s = 5 := by rw [entryOE, if_neg h1, if_neg h2, if_neg h4]
    rw [entryOC_no (by rw [he]; decide), he]
    exact read_panicsE s (by omega) 5 (fun w b h => by simpa only [if_neg h4] using takeEntry_full b s (by omega) w h) w
  have he : entryOE s = 0 := by rw [entryOE, if_neg h1, if_neg h2, if_pos h4]
  rw [entryOC_yes he, he]
  exact read_returnsE s (by omega) (fun w b h => by simpa only [if_pos h4] using takeEntry_full b s (by omega) w h) w

theorem entryOf_any (s : ByteArray) (w : World) :
    Calls Tryd.prog 25 #[.string s] w fun e w' => e = .returned (.tuple #[.agg (entryOC s), .int .i64 (entryOE s)]) ∧ Below w.heap.size w w' := by
  have hmf : ∀ (fn : Fn) (first cap : Array Value) (w : World), (Instr.makeFunc fn first cap).run Tryd.prog w = .ok (.func fn first cap) w := fun _ _ _ _ => rfl
  go_enter Tryd.func25, Tryd.ntmps25
  go_wp2_with fail
  refine (readEntry_any s _).mono ?_
  rintro e w1 ⟨rfl, hb1⟩
  have g0 := (hb1.block w.heap.size (by simp)).trans (heap_alloc_new w _)
  have hbw : Below w.heap.size w w1 := (below_newE w _).trans (hb1.mono (by simp))
  clear hb1
  go_wp2_with (refine wpList_store_row rfl 28 _ _ rfl w.heap.size (entryOC s) rfl rfl 28 _ g0 (by kernel_rfl) rfl (entryOC_one s) ?_)
  have hr := run_loadVar_row (P := Tryd.prog) (w1.setRow w.heap.size (entryOC s)) w.heap.size 28 28 (entryOC s) (0, 0) _ (setRow_heap _ _ _ _ _ _ g0) Tryd.underlying28 rfl (by kernel_rfl)
  exact bodyPost_ret (v := .tuple #[.agg (entryOC s), .int .i64 (entryOE s)]) (by simp [results, Tryd.results25, asAddr, hr]) rfl ⟨rfl, hbw.trans ⟨rfl, rfl, rfl, by simp [World.setRow], fun k hk => setRow_other _ _ _ _ (by omega)⟩⟩
end Go.Proofs.YtlcadhojfnanfaaDoor
