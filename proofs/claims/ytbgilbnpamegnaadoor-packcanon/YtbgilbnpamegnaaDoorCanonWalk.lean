/- The law PackCanon, called with any text, returns true, and changes nothing that was there. -/
import Derived.Test.YtbgilbnpamegnaaDoorAwake
import Derived.Test.YtbgilbnpamegnaaDoorCanonBack
namespace Go.Proofs.YtbgilbnpamegnaaDoor
open Go.RowKit

theorem below_row {B g : Nat} {w0 w : World} (h : Below B w0 w) (hg : B ≤ g) (cs : Array Value) : Below B w0 (w.setRow g cs) :=
  h.trans ⟨rfl, rfl, rfl, by simp [World.setRow], fun k hk => setRow_other _ _ _ _ (by omega)⟩

set_option maxRecDepth 10000 in
set_option maxHeartbeats 4000000 in
theorem walk_packCanon (s : ByteArray) (w : World) :
    Calls Tryd.prog 4 #[.string s] w fun e w' => e = .returned (.bool true) ∧ Below w.heap.size w w' := by
  have kb0 : Below w.heap.size w w := Below.refl _ _
  have hn1 : (headC s).size = 8 ∧ (headC s).all (·.oneCell') = true := ⟨rfl, headC_one s⟩
  have HH1 : Hid ((∀ w, Calls Tryd.prog 8 #[.string s] w fun e w' => e = .returned (.tuple #[.agg (headC s), .int .i64 (headE s)]) ∧ Below w.heap.size w w') ∧ (∀ w, Calls Tryd.prog 9 #[.agg (headC s)] w fun e w' => ∃ T F, e = .returned (.tuple #[.string T, .int .i64 F]) ∧ (headE s = 0 → F = 0 ∧ T = s) ∧ Below w.heap.size w w')) := ⟨headOf_any s, head_canon s⟩
  generalize headC s = C1 at hn1 HH1
  generalize headE s = E1 at HH1
  have hn2 : (inodeOC s).size = 18 ∧ (inodeOC s).all (·.oneCell') = true := ⟨inodeOC_size s, inodeOC_one s⟩
  have HH2 : Hid ((∀ w, Calls Tryd.prog 5 #[.string s] w fun e w' => e = .returned (.tuple #[.agg (inodeOC s), .int .i64 (inodeOE s)]) ∧ Below w.heap.size w w') ∧ (∀ w, Calls Tryd.prog 10 #[.agg (inodeOC s)] w fun e w' => ∃ T F, e = .returned (.tuple #[.string T, .int .i64 F]) ∧ (inodeOE s = 0 → F = 0 ∧ T = s) ∧ Below w.heap.size w w')) := ⟨inodeOf_any s, inode_canon s⟩
  generalize inodeOC s = C2 at hn2 HH2
  generalize inodeOE s = E2 at HH2
  have hn3 : (entryOC s).size = 3 ∧ (entryOC s).all (·.oneCell') = true := ⟨rfl, entryOC_one s⟩
  have HH3 : Hid ((∀ w, Calls Tryd.prog 11 #[.string s] w fun e w' => e = .returned (.tuple #[.agg (entryOC s), .int .i64 (entryOE s)]) ∧ Below w.heap.size w w') ∧ (∀ w, Calls Tryd.prog 12 #[.agg (entryOC s)] w fun e w' => ∃ T F, e = .returned (.tuple #[.string T, .int .i64 F]) ∧ (entryOE s = 0 → F = 0 ∧ T = s) ∧ Below w.heap.size w w')) := ⟨entryOf_any s, entry_canon s⟩
  generalize entryOC s = C3 at hn3 HH3
  generalize entryOE s = E3 at HH3
  have hn4 : (superOC s).size = 5 ∧ (superOC s).all (·.oneCell') = true := ⟨rfl, superOC_one s⟩
  have HH4 : Hid ((∀ w, Calls Tryd.prog 13 #[.string s] w fun e w' => e = .returned (.tuple #[.agg (superOC s), .int .i64 (superOE s)]) ∧ Below w.heap.size w w') ∧ (∀ w, Calls Tryd.prog 14 #[.agg (superOC s)] w fun e w' => ∃ T F, e = .returned (.tuple #[.string T, .int .i64 F]) ∧ (superOE s = 0 → F = 0 ∧ T = s) ∧ Below w.heap.size w w')) := ⟨superOf_any s, super_canon s⟩
  generalize superOC s = C4 at hn4 HH4
  generalize superOE s = E4 at HH4
  go_enter Tryd.func4, Tryd.ntmps4
  go_wp2_with fail
  refine (HH1.out.1 _).mono ?_
  rintro e u1 ⟨rfl, hb⟩
  have ka : Below w.heap.size w u1 := kb0.trans (hb.mono kb0.size)
  have hl := ka.size
  have g1 := heap_alloc_new u1 (.cells #[.int .i64 0, .int .i64 0, .int .i64 0, .int .i64 0, .int .i64 0, .int .i64 0, .int .i64 0, .int .i64 0] 31)
  have kc := below_row (ka.alloc hl (.cells #[.int .i64 0, .int .i64 0, .int .i64 0, .int .i64 0, .int .i64 0, .int .i64 0, .int .i64 0, .int .i64 0] 31)) hl C1
  have hi : (Tryd.prog.info? 31).map (·.size) = some C1.size := by rw [hn1.1]; kernel_rfl
  have hs : (#[.int .i64 0, .int .i64 0, .int .i64 0, .int .i64 0, .int .i64 0, .int .i64 0, .int .i64 0, .int .i64 0] : Array Value).size = C1.size := by rw [hn1.1]; rfl
  have ho := hn1.2
  have k1 := setRow_heap _ _ _ C1 _ _ g1
  clear hb ka
  go_wp2_with (first | refine wpList_store_row rfl 31 _ _ rfl u1.heap.size C1 rfl rfl 31 _ g1 hi hs ho ?_ | refine wpList_load_row rfl 31 _ rfl u1.heap.size rfl 31 _ (0, 0) _ k1 Tryd.underlying31 rfl hi ?_)
  refine (HH1.out.2 _).mono ?_
  rintro e v1 ⟨T1, F1, rfl, hd, hb⟩
  have kb1 := kc.trans (hb.mono kc.size)
  have HD1 : Hid (E1 = 0 → F1 = 0 ∧ T1 = s) := hd
  clear hl g1 kc hi hs ho k1 hb hd HH1 hn1 kb0
  generalize u1.heap.size = b1 at *
  go_wp2_with fail
  refine (HH2.out.1 _).mono ?_
  rintro e u2 ⟨rfl, hb⟩
  have ka : Below w.heap.size w u2 := kb1.trans (hb.mono kb1.size)
  have hl := ka.size
  have g1 := heap_alloc_new u2 (.cells #[.int .i64 0, .int .i64 0, .int .i64 0, .int .i64 0, .int .i64 0, .int .i64 0, .int .i64 0, .int .i64 0, .int .i64 0, .int .i64 0, .int .i64 0, .int .i64 0, .int .i64 0, .int .i64 0, .int .i64 0, .int .i64 0, .int .i64 0, .int .i64 0] 24)
  have kc := below_row (ka.alloc hl (.cells #[.int .i64 0, .int .i64 0, .int .i64 0, .int .i64 0, .int .i64 0, .int .i64 0, .int .i64 0, .int .i64 0, .int .i64 0, .int .i64 0, .int .i64 0, .int .i64 0, .int .i64 0, .int .i64 0, .int .i64 0, .int .i64 0, .int .i64 0, .int .i64 0] 24)) hl C2
  have hi : (Tryd.prog.info? 24).map (·.size) = some C2.size := by rw [hn2.1]; kernel_rfl
  have hs : (#[.int .i64 0, .int .i64 0, .int .i64 0, .int .i64 0, .int .i64 0, .int .i64 0, .int .i64 0, .int .i64 0, .int .i64 0, .int .i64 0, .int .i64 0, .int .i64 0, .int .i64 0, .int .i64 0, .int .i64 0, .int .i64 0, .int .i64 0, .int .i64 0] : Array Value).size = C2.size := by rw [hn2.1]; rfl
  have ho := hn2.2
  have k1 := setRow_heap _ _ _ C2 _ _ g1
  clear hb ka
  go_wp2_with (first | refine wpList_store_row rfl 24 _ _ rfl u2.heap.size C2 rfl rfl 24 _ g1 hi hs ho ?_ | refine wpList_load_row rfl 24 _ rfl u2.heap.size rfl 24 _ (0, 0) _ k1 Tryd.underlying24 rfl hi ?_)
  refine (HH2.out.2 _).mono ?_
  rintro e v2 ⟨T2, F2, rfl, hd, hb⟩
  have kb2 := kc.trans (hb.mono kc.size)
  have HD2 : Hid (E2 = 0 → F2 = 0 ∧ T2 = s) := hd
  clear hl g1 kc hi hs ho k1 hb hd HH2 hn2 kb1
  generalize u2.heap.size = b2 at *
  go_wp2_with fail
  refine (HH3.out.1 _).mono ?_
  rintro e u3 ⟨rfl, hb⟩
  have ka : Below w.heap.size w u3 := kb2.trans (hb.mono kb2.size)
  have hl := ka.size
  have g1 := heap_alloc_new u3 (.cells #[.string ⟨#[]⟩, .int .i64 0, .int .i64 0] 38)
  have kc := below_row (ka.alloc hl (.cells #[.string ⟨#[]⟩, .int .i64 0, .int .i64 0] 38)) hl C3
  have hi : (Tryd.prog.info? 38).map (·.size) = some C3.size := by rw [hn3.1]; kernel_rfl
  have hs : (#[.string ⟨#[]⟩, .int .i64 0, .int .i64 0] : Array Value).size = C3.size := by rw [hn3.1]; rfl
  have ho := hn3.2
  have k1 := setRow_heap _ _ _ C3 _ _ g1
  clear hb ka
  go_wp2_with (first | refine wpList_store_row rfl 38 _ _ rfl u3.heap.size C3 rfl rfl 38 _ g1 hi hs ho ?_ | refine wpList_load_row rfl 38 _ rfl u3.heap.size rfl 38 _ (0, 0) _ k1 Tryd.underlying38 rfl hi ?_)
  refine (HH3.out.2 _).mono ?_
  rintro e v3 ⟨T3, F3, rfl, hd, hb⟩
  have kb3 := kc.trans (hb.mono kc.size)
  have HD3 : Hid (E3 = 0 → F3 = 0 ∧ T3 = s) := hd
  clear hl g1 kc hi hs ho k1 hb hd HH3 hn3 kb2
  generalize u3.heap.size = b3 at *
  go_wp2_with fail
  refine (HH4.out.1 _).mono ?_
  rintro e u4 ⟨rfl, hb⟩
  have ka : Below w.heap.size w u4 := kb3.trans (hb.mono kb3.size)
  have hl := ka.size
  have g1 := heap_alloc_new u4 (.cells #[.int .i64 0, .int .i64 0, .int .i64 0, .int .i64 0, .string ⟨#[]⟩] 43)
  have kc := below_row (ka.alloc hl (.cells #[.int .i64 0, .int .i64 0, .int .i64 0, .int .i64 0, .string ⟨#[]⟩] 43)) hl C4
  have hi : (Tryd.prog.info? 43).map (·.size) = some C4.size := by rw [hn4.1]; kernel_rfl
  have hs : (#[.int .i64 0, .int .i64 0, .int .i64 0, .int .i64 0, .string ⟨#[]⟩] : Array Value).size = C4.size := by rw [hn4.1]; rfl
  have ho := hn4.2
  have k1 := setRow_heap _ _ _ C4 _ _ g1
  clear hb ka
  go_wp2_with (first | refine wpList_store_row rfl 43 _ _ rfl u4.heap.size C4 rfl rfl 43 _ g1 hi hs ho ?_ | refine wpList_load_row rfl 43 _ rfl u4.heap.size rfl 43 _ (0, 0) _ k1 Tryd.underlying43 rfl hi ?_)
  refine (HH4.out.2 _).mono ?_
  rintro e v4 ⟨T4, F4, rfl, hd, hb⟩
  have kb4 := kc.trans (hb.mono kc.size)
  have HD4 : Hid (E4 = 0 → F4 = 0 ∧ T4 = s) := hd
  clear hl g1 kc hi hs ho k1 hb hd HH4 hn4 kb3
  generalize u4.heap.size = b4 at *
  have HP : ∀ {E F : Int} {T : ByteArray}, (E = 0 → F = 0 ∧ T = s) → (E != 0) = true ∨ (E = 0 ∧ F = 0 ∧ T = s) := fun {E F T} h => by
    by_cases e : E = 0
    · exact .inr ⟨e, h e⟩
    · exact .inl (by simpa using e)
  have d1 := HP HD1.out
  have d2 := HP HD2.out
  have d3 := HP HD3.out
  have d4 := HP HD4.out
  clear HP HD1 HD2 HD3 HD4
  rcases d1 with h1 | ⟨rfl, rfl, rfl⟩ <;> rcases d2 with h2 | ⟨rfl, rfl, rfl⟩ <;> rcases d3 with h3 | ⟨rfl, rfl, rfl⟩ <;> rcases d4 with h4 | ⟨rfl, rfl, rfl⟩
  all_goals
    go_wp2_with fail
    refine (awake_any _).mono ?_
    rintro e w5 ⟨rfl, hb5⟩
    have hbe := kb4.trans (hb5.mono kb4.size)
    clear hb5 kb4
    go_wp2
    go_ret
    exact ⟨rfl, hbe⟩
end Go.Proofs.YtbgilbnpamegnaaDoor
