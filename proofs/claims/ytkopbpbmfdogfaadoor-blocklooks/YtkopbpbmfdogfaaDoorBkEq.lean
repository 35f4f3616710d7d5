/- Heads that lie in memory, heads that are compared, readings in one form. -/
import Derived.Test.YtkopbpbmfdogfaaDoorBkLaw
namespace Go.Proofs.YtkopbpbmfdogfaaDoor
set_option maxRecDepth 20000
open Go.RowKit Go.Lib

theorem hd_cells {w : World} {b : Nat} {h : Hd} (g : w.heap[b]? = some (.cells #[.int .i64 h.v0, .int .i64 h.v1, .int .i64 h.v2, .int .i64 h.v3, .int .i64 h.v4, .int .i64 h.v5, .int .i64 h.v6, .int .i64 h.v7] 33 (0, 0))) : w.cell? ⟨b, 0, none⟩ = some (.int .i64 h.v0) ∧ w.cell? ⟨b, 1, none⟩ = some (.int .i64 h.v1) ∧ w.cell? ⟨b, 2, none⟩ = some (.int .i64 h.v2) ∧ w.cell? ⟨b, 3, none⟩ = some (.int .i64 h.v3) ∧ w.cell? ⟨b, 4, none⟩ = some (.int .i64 h.v4) ∧ w.cell? ⟨b, 5, none⟩ = some (.int .i64 h.v5) ∧ w.cell? ⟨b, 6, none⟩ = some (.int .i64 h.v6) ∧ w.cell? ⟨b, 7, none⟩ = some (.int .i64 h.v7) :=
  ⟨cell_of_row _ _ _ _ _ _ g, cell_of_row _ _ _ _ _ _ g, cell_of_row _ _ _ _ _ _ g, cell_of_row _ _ _ _ _ _ g, cell_of_row _ _ _ _ _ _ g, cell_of_row _ _ _ _ _ _ g, cell_of_row _ _ _ _ _ _ g, cell_of_row _ _ _ _ _ _ g⟩
theorem eql_ints (a0 a1 a2 a3 a4 a5 a6 a7 b0 b1 b2 b3 b4 b5 b6 b7 : Int) (w : World) : (binOp .eql 33 (.agg #[.int .i64 a0, .int .i64 a1, .int .i64 a2, .int .i64 a3, .int .i64 a4, .int .i64 a5, .int .i64 a6, .int .i64 a7]) (.agg #[.int .i64 b0, .int .i64 b1, .int .i64 b2, .int .i64 b3, .int .i64 b4, .int .i64 b5, .int .i64 b6, .int .i64 b7])).run Tryd.prog w = .ok (.bool (a0 == b0 && (a1 == b1 && (a2 == b2 && (a3 == b3 && (a4 == b4 && (a5 == b5 && (a6 == b6 && a7 == b7)))))))) w := by
  go_simp
  repeat' split
  all_goals simp_all
theorem eql_hd (g h : Hd) (w : World) : (binOp .eql 33 (.agg #[.int .i64 g.v0, .int .i64 g.v1, .int .i64 g.v2, .int .i64 g.v3, .int .i64 g.v4, .int .i64 g.v5, .int .i64 g.v6, .int .i64 g.v7]) (.agg #[.int .i64 h.v0, .int .i64 h.v1, .int .i64 h.v2, .int .i64 h.v3, .int .i64 h.v4, .int .i64 h.v5, .int .i64 h.v6, .int .i64 h.v7])).run Tryd.prog w = .ok (.bool (decide (g = h))) w := by
  rw [eql_ints]
  congr 2
  obtain ⟨a0, a1, a2, a3, a4, a5, a6, a7⟩ := g
  obtain ⟨b0, b1, b2, b3, b4, b5, b6, b7⟩ := h
  rw [Bool.eq_iff_iff]
  simp
theorem read_form (c : Prop) [Decidable c] (h : Hd) (s : ByteArray) : (if c then readA true h s else noneA) = readA (decide c) (if c then h else Hd.zero) (if c then s else ⟨#[]⟩) := by
  by_cases k : c
  · simp [k]
  · simp [k, noneA]
theorem told_form (B : Nat) (F : Nat → Prop) (S : VS) (r : ByteArray) (at_ : Int) (hl : S.seals.length ≤ 1000000) (w : World) (hp : Ideal w F B S) :
    Calls Tryd.prog 9 #[.pointer (some ⟨B, 0, none⟩), .string r, .int .i64 at_] w fun e w' => (∃ (h : Hd) (s : ByteArray), e = .returned (.agg #[.bool (decide (bopenE S r = 0 ∧ (bopenH S r).v1 = at_)), .int .i64 h.v0, .int .i64 h.v1, .int .i64 h.v2, .int .i64 h.v3, .int .i64 h.v4, .int .i64 h.v5, .int .i64 h.v6, .int .i64 h.v7, .string s]) ∧ (bopenE S r = 0 ∧ (bopenH S r).v1 = at_ → h = bopenH S r ∧ s = bopenS S r) ∧ (¬ (bopenE S r = 0 ∧ (bopenH S r).v1 = at_) → h = Hd.zero ∧ s = ⟨#[]⟩)) ∧ Below w.heap.size w w' := by
  refine (told_any B F S r at_ hl w hp).mono fun e w' h => ?_
  obtain ⟨he, hb⟩ := h
  rw [read_form] at he
  by_cases hc : bopenE S r = 0 ∧ (bopenH S r).v1 = at_
  · rw [if_pos hc, if_pos hc] at he
    exact ⟨⟨_, _, he, fun _ => ⟨rfl, rfl⟩, fun h => absurd hc h⟩, hb⟩
  · rw [if_neg hc, if_neg hc] at he
    exact ⟨⟨_, _, he, fun h => absurd h hc, fun _ => ⟨rfl, rfl⟩⟩, hb⟩
theorem Touch.blk {F : Nat → Prop} {w w' : World} (h : Touch F w w') {k : Nat} (hk : k < w.heap.size) (hF : ¬ F k) : w'.heap[k]? = w.heap[k]? := h.2 k hk hF
theorem cell_kept_ {w w' : World} {b : Nat} (h : w'.heap[b]? = w.heap[b]?) (i : Nat) : w'.cell? ⟨b, i, none⟩ = w.cell? ⟨b, i, none⟩ := World.cell?_of_block (a := ⟨b, i, none⟩) h
/-- Two heads in two blocks. -/
def TwoH (w : World) (b : Nat) (g h : Hd) : Prop := w.heap[b]? = some (.cells #[.int .i64 g.v0, .int .i64 g.v1, .int .i64 g.v2, .int .i64 g.v3, .int .i64 g.v4, .int .i64 g.v5, .int .i64 g.v6, .int .i64 g.v7] 33 (0, 0)) ∧ w.heap[b + 1]? = some (.cells #[.int .i64 h.v0, .int .i64 h.v1, .int .i64 h.v2, .int .i64 h.v3, .int .i64 h.v4, .int .i64 h.v5, .int .i64 h.v6, .int .i64 h.v7] 33 (0, 0))
theorem TwoH.keep {w w' : World} {b : Nat} {g h : Hd} (t : TwoH w b g h) (k : ∀ i, i < b + 2 → w'.heap[i]? = w.heap[i]?) : TwoH w' b g h := ⟨(k b (by omega)).trans t.1, (k (b + 1) (by omega)).trans t.2⟩
theorem TwoH.new (w : World) (g h : Hd) : TwoH ((w.alloc (.cells #[.int .i64 g.v0, .int .i64 g.v1, .int .i64 g.v2, .int .i64 g.v3, .int .i64 g.v4, .int .i64 g.v5, .int .i64 g.v6, .int .i64 g.v7] 33)).alloc (.cells #[.int .i64 h.v0, .int .i64 h.v1, .int .i64 h.v2, .int .i64 h.v3, .int .i64 h.v4, .int .i64 h.v5, .int .i64 h.v6, .int .i64 h.v7] 33)) w.heap.size g h := by
  refine ⟨(Below.heap_alloc _ _ _ (by simp)).trans (heap_alloc_new w _), ?_⟩
  have := heap_alloc_new (w.alloc (.cells #[.int .i64 g.v0, .int .i64 g.v1, .int .i64 g.v2, .int .i64 g.v3, .int .i64 g.v4, .int .i64 g.v5, .int .i64 g.v6, .int .i64 g.v7] 33)) (.cells #[.int .i64 h.v0, .int .i64 h.v1, .int .i64 h.v2, .int .i64 h.v3, .int .i64 h.v4, .int .i64 h.v5, .int .i64 h.v6, .int .i64 h.v7] 33)
  rw [World.size_alloc] at this
  exact this
end Go.Proofs.YtkopbpbmfdogfaaDoor
