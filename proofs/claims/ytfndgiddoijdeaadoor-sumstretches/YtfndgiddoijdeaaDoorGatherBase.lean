/- What gather's pieces come to; frames. -/
import Derived.Test.YtfndgiddoijdeaaDoorMacBase
import Derived.Test.YtfndgiddoijdeaaDoorAppKept
namespace Go.Proofs.YtfndgiddoijdeaaDoor
open Go.RowKit

theorem info_b8 : (Tryd.prog.info? 5).map (fun i => (i.zero, i.size, i.bytes)) = some (some (.int .u8 0), 1, 1) := by kernel_rfl
/-- The first m pieces, one behind the other. -/
def catD (D : Nat → List Nat) : Nat → List Nat
  | 0 => []
  | m + 1 => catD D m ++ D m
theorem catD_length (D : Nat → List Nat) (h : ∀ i, (D i).length = 32) : ∀ m, (catD D m).length = 32 * m
  | 0 => rfl
  | m + 1 => by rw [catD, List.length_append, catD_length D h m, h]; omega
theorem only_below {b : Nat} {w w1 w2 : World} (h : Only b w w1) (hb : Below w.heap.size w1 w2) : Only b w w2 :=
  ⟨h.1.trans (hb.mono (Nat.zero_le _)), fun k hk hne => (hb.block k hk).trans (h.2 k hk hne)⟩
theorem owns_only {b base n : Nat} {w w' : World} {e : TypeId} {v : Value} {xs : List Value} (h : w.ownsRow base e 1 v n xs) (ho : Only b w w') (hne : ∀ k, v.ownBlock = some k → k ≠ b) : w'.ownsRow base e 1 v n xs := by
  have hg : w.grownBy w' (some b) := ⟨ho.1.os, ho.1.tape, ho.1.output, ho.size, fun k hk hn => ho.2 k hk (fun e => hn (by rw [e]))⟩
  refine h.kept hg ?_
  cases hv : v.ownBlock with
  | none => exact .inl rfl
  | some k => exact .inr (fun e => hne k hv (Option.some.inj e))
end Go.Proofs.YtfndgiddoijdeaaDoor
