/- No text that came in has more bytes than a process has addresses. -/
import Derived.Test.YtlcadhojfnanfaaDoorProg
import Derived.SizedLaws
namespace Go.Proofs.YtlcadhojfnanfaaDoor
set_option maxRecDepth 20000

section
variable {H : Type}
theorem each_le {P : Program} {ts : List TypeId} {ds : List (DataW H)} (h : (DataW.weightsEach P ts ds).all (· ≤ reachBytes) = true) {j : Nat} {t : TypeId} {d : DataW H} (ht : ts[j]? = some t) (hd : ds[j]? = some d) : ∀ n ∈ d.weights P t, n ≤ reachBytes := fun n hn => by
  simpa using List.all_eq_true.1 h n (DataW.weights_mem_each ht hd n hn)
theorem text_le {P : Program} {t : TypeId} {d : DataW H} {s : ByteArray} (hd : d = .lit (.string s.data.toList)) (h : ∀ n ∈ d.weights P t, n ≤ reachBytes) : s.size ≤ 140737488355328 := by
  subst hd
  have := h s.data.toList.length (by simp [DataW.weights])
  rw [Array.length_toList] at this
  exact Nat.le_trans this (by decide)
end
end Go.Proofs.YtlcadhojfnanfaaDoor
