/- The reader of package pack: number and bytes tell the next bytes of its text and go on, or panic with what a reader gives up with where bytes lack; must panics with it where it is told no. -/
import Derived.Test.YtlcadhojfnanfaaDoorGet
import Derived.Test.YtlcadhojfnanfaaDoorZero
import Derived.Test.YtlcadhojfnanfaaDoorBxBase
import Derived.OneCell
namespace Go.Proofs.YtlcadhojfnanfaaDoor
set_option maxRecDepth 20000
open Go.RowKit

/-- What a reader panics with. -/
def gave (e : Int) : List PanicEntry := [{ v := .iface 72 (.agg #[.int .i64 e]), recovered := false }]
/-- What a world holds of a reader in block b: its text, and where it stands. -/
def Rd (w : World) (b : Nat) (s : ByteArray) (at' : Nat) : Prop := w.heap[b]? = some (.cells #[.string s, .int .i64 at'] 76 (0, 0))
theorem rd_cell0 {w : World} {b : Nat} {u v : Value} {t : TypeId} (h : w.heap[b]? = some (.cells #[u, v] t (0, 0))) : w.cell? ⟨b, 0, none⟩ = some u := by simp [World.cell?, h]
theorem rd_cell1 {w : World} {b : Nat} {u v : Value} {t : TypeId} (h : w.heap[b]? = some (.cells #[u, v] t (0, 0))) : w.cell? ⟨b, 1, none⟩ = some v := by simp [World.cell?, h]
theorem rd_free {w : World} {b : Nat} {u v : Value} {t : TypeId} (i : Nat) (h : w.heap[b]? = some (.cells #[u, v] t (0, 0))) : w.frozen? ⟨b, i, none⟩ = false := by simp [World.frozen?, h]
theorem rd_set {w : World} {b : Nat} {u v x : Value} {t : TypeId} (h : w.heap[b]? = some (.cells #[u, v] t (0, 0))) : (w.setCell ⟨b, 1, none⟩ x).heap[b]? = some (.cells #[u, x] t (0, 0)) := by
  have hlt := lt_of_block h
  have h' : w.heap[b] = .cells #[u, v] t (0, 0) := by simpa [Array.getElem?_eq_getElem hlt] using h
  show (w.heap.modify b _)[b]? = _
  rw [Array.getElem?_eq_getElem (by simpa using hlt), Array.getElem_modify_self, h']
  rfl

theorem rd_step {w : World} {b : Nat} {s : ByteArray} {a : Nat} (h : Rd w b s a) (n q : Nat) (x : Int) (hx : x = ((a + n : Nat) : Int)) :
    Rd ((w.drewN q).setCell ⟨b, 1, none⟩ (.int .i64 x)) b s (a + n) ∧ Only b w ((w.drewN q).setCell ⟨b, 1, none⟩ (.int .i64 x)) := by
  subst hx
  have h' : (w.drewN q).heap[b]? = some (.cells #[.string s, .int .i64 a] 76 (0, 0)) := h
  exact ⟨rd_set h', (below_drewN (Below.refl 0 w) q).setCell (p := ⟨b, 1, none⟩) (Nat.zero_le _) _, fun k _ hb => Below.heap_setCell (w.drewN q) ⟨b, 1, none⟩ _ k hb⟩
theorem Rd.lt {w : World} {b : Nat} {s : ByteArray} {a : Nat} (h : Rd w b s a) : b < w.heap.size := lt_of_block h
theorem Rd.below {w w' : World} {b : Nat} {s : ByteArray} {a : Nat} (h : Rd w b s a) (hb : Below w.heap.size w w') : Rd w' b s a := (hb.block b h.lt).trans h

theorem must_yes (b : Nat) (w : World) : Calls Tryd.prog 41 #[.pointer (some ⟨b, 0, none⟩), .bool true] w fun e w' => e = .returned (.tuple #[]) ∧ w' = w := by
  go_enter Tryd.func41, Tryd.ntmps41
  go_wp2
  go_end0
  exact ⟨rfl, rfl⟩
theorem must_no (b : Nat) (w : World) : Calls Tryd.prog 41 #[.pointer (some ⟨b, 0, none⟩), .bool false] w fun e w' => e = .panicked (gave 5) ∧ w' = w := by
  go_enter Tryd.func41, Tryd.ntmps41
  go_wp2
  exact ⟨rfl, rfl, rfl⟩

set_option maxHeartbeats 400000 in
theorem number_any (b : Nat) (s : ByteArray) (a k : Nat) (h1 : 1 ≤ k) (h6 : k ≤ 6) (ha : a + k ≤ s.size) (hs : s.size ≤ 4096) (w : World) (h : Rd w b s a) :
    Calls Tryd.prog 39 #[.pointer (some ⟨b, 0, none⟩), .int .i64 k] w fun e w' => e = .returned (.int .i64 (leVal ((s.data.toList.drop a).take k))) ∧ Rd w' b s (a + k) ∧ Only b w w' := by
  have hc0 := rd_cell0 h
  have hc1 := rd_cell1 h
  have hf1 := rd_free 1 h
  have HR : Hid (Rd w b s a) := h
  have HN : Hid (getN s a k = leVal ((s.data.toList.drop a).take k) ∧ getE s a k = 0) := ⟨getN_ok h1 h6 ha, getE_ok h1 h6 ha⟩
  clear h
  go_enter Tryd.func39, Tryd.ntmps39
  go_wp2
  go_quiet ((go_at_call 45; exact Calls.quiet_of_same (get_any s a k (by unfold maxLen; omega) _)))
  rw [HN.out.1, HN.out.2]
  go_wp2
  go_ret
  exact ⟨rfl, rd_step HR.out k _ _ (by omega)⟩

set_option maxHeartbeats 400000 in
theorem number_short (b : Nat) (s : ByteArray) (a k : Nat) (h1 : 1 ≤ k) (h6 : k ≤ 6) (ha : ¬ a + k ≤ s.size) (hs : s.size ≤ 4096) (w : World) (h : Rd w b s a) :
    Calls Tryd.prog 39 #[.pointer (some ⟨b, 0, none⟩), .int .i64 k] w fun e w' => e = .panicked (gave 3) ∧ Below w.heap.size w w' := by
  have hc0 := rd_cell0 h
  have hc1 := rd_cell1 h
  have HN : Hid (getN s a k = 0 ∧ getE s a k = 3) := ⟨getN_no (.inr (.inr (by omega))), getE_short (by omega) (by omega) (.inr (by omega))⟩
  clear h
  go_enter Tryd.func39, Tryd.ntmps39
  go_wp2
  go_quiet ((go_at_call 45; exact Calls.quiet_of_same (get_any s a k (by unfold maxLen; omega) _)))
  rw [HN.out.1, HN.out.2]
  go_wp2
  exact ⟨rfl, rfl, below_drewN (Below.refl _ _) _⟩

set_option maxHeartbeats 400000 in
theorem bytes_any (b : Nat) (s : ByteArray) (a n : Nat) (ha : a + n ≤ s.size) (hs : s.size ≤ 4096) (w : World) (h : Rd w b s a) :
    Calls Tryd.prog 40 #[.pointer (some ⟨b, 0, none⟩), .int .i64 n] w fun e w' => e = .returned (.string (s.extract a (a + n))) ∧ Rd w' b s (a + n) ∧ Only b w w' := by
  have hc0 := rd_cell0 h
  have hc1 := rd_cell1 h
  have hf1 := rd_free 1 h
  have HR : Hid (Rd w b s a) := h
  have i1 : ¬ (s.size : Int) - a < n := by omega
  have i2 : (a : Int) + n ≤ s.size := by omega
  have i3 : (0 : Int) ≤ a := by omega
  have i4 : (a : Int) ≤ (a : Int) + n := by omega
  clear h
  go_enter Tryd.func40, Tryd.ntmps40
  go_wp2
  go_quiet (fail)
  go_wp2
  go_quiet (fail)
  go_wp2
  go_ret
  exact ⟨rfl, rd_step HR.out n _ _ (by omega)⟩

set_option maxHeartbeats 400000 in
theorem bytes_short (b : Nat) (s : ByteArray) (a n : Nat) (ha : ¬ a + n ≤ s.size) (hn : n ≤ 4096) (hs : s.size ≤ 4096) (hp : a ≤ 4096) (w : World) (h : Rd w b s a) :
    Calls Tryd.prog 40 #[.pointer (some ⟨b, 0, none⟩), .int .i64 n] w fun e w' => e = .panicked (gave 3) ∧ Below w.heap.size w w' := by
  have hc0 := rd_cell0 h
  have hc1 := rd_cell1 h
  have i1 : (s.size : Int) - a < n := by omega
  clear h
  go_enter Tryd.func40, Tryd.ntmps40
  go_wp2
  go_quiet (fail)
  go_wp2
  exact ⟨rfl, rfl, below_drewN (Below.refl _ _) _⟩
end Go.Proofs.YtlcadhojfnanfaaDoor
