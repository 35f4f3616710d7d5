/- The law JournalAll: its arguments, as they came in. · What a world holds where package errors' handle is laid. -/
import Derived.Test.YtbmjablmmlnieaaGreatDoorMg48
import Derived.Test.YtbmjablmmlnieaaGreatDoorMg09
import Derived.Test.YtbmjablmmlnieaaGreatDoorRows
import Derived.Lib.LaidTab
namespace Go.Proofs.YtbmjablmmlnieaaGreatDoor
set_option maxRecDepth 20000
open Go.ChangeShapes Go.WideShapes Go.RowKit Go.Deep

section
variable {H : Type} {enc : TypeId × Value → H} {W : World}
theorem jblks_of_trod {v : Value} {d : DataW H} {p : List MemPlace} {base : Nat} (hok : Value.okWide Tryz.prog W .any base 37 v) (h : DataW.Trod enc Tryz.prog W 0 (fun _ => true) true 37 v d p) : ∃ l, Blks W v l ∧ (∀ x ∈ l, BlkF x ∧ x.At ≤ 9223372036854775807) ∧ l.length ≤ 9223372036854775807 := by
  obtain ⟨l, h1, h2⟩ := blks_of_trod hok h
  obtain ⟨oa, cap, rfl⟩ := h1.form
  refine ⟨l, h1, fun x hx => ?_, ?_⟩
  · have h3 := (h2 x hx).At
    have h4 := (h2 x hx).V
    simp [Lit.wf, IntKind.min, IntKind.max, IntKind.signed, IntKind.bits] at h3 h4
    exact ⟨⟨x.V.toNat, by omega⟩, by omega⟩
  · obtain ⟨fuel, hf⟩ := h
    rcases open_slice Tryz.underlying37 hf with ⟨hcs, _⟩ | ⟨a, len', cap', m, n, D, Pl, hcs, _, hl, hm, _⟩
    · simp [Value.cells] at hcs
      rw [hcs.2.1]
      decide
    · simp [Value.cells] at hcs
      obtain ⟨_, e2, e3⟩ := hcs
      unfold maxLen at hm
      omega
theorem cutv_of_trod {v : Value} {d : DataW H} {p : List MemPlace} {base : Nat} (hok : Value.okWide Tryz.prog W .any base 40 v) (h : DataW.Trod enc Tryz.prog W 0 (fun _ => true) true 40 v d p) : ∃ c : CutT, v = .agg #[.int .i64 c.fuse, c.kv] ∧ Bools W (fun k => W.heap.size ≤ k) c.kv c.keep ∧ c.fuse < 9223372036854775808 := by
  obtain ⟨k, kv, l, e, hb, hk⟩ := cut_of_trod hok h
  exact ⟨⟨k, kv, l⟩, e, hb, hk⟩
end
theorem walk_jall (v0 : Value) (l : List Blk) (v1 : Value) (c : CutT) (v2 : Value) (cs : List CutT) (w : World) (h0 : Blks w v0 l ∧ (∀ x ∈ l, BlkF x ∧ x.At ≤ 9223372036854775807) ∧ l.length ≤ 9223372036854775807) (h1 : v1 = .agg #[.int .i64 c.fuse, c.kv] ∧ Bools w (fun k => w.heap.size ≤ k) c.kv c.keep ∧ c.fuse < 9223372036854775808) (h2 : Cuts w v2 cs) (hg : ErrT w) :
    Calls Tryz.prog 5 #[v0, v1, v2] w fun e w' => e = .returned (.bool true) ∧ Below w.heap.size w w' := by
  obtain ⟨rfl, hb, hk⟩ := h1
  exact walk_journalAll v0 l c.fuse c.kv c.keep v2 cs w h0.1 h0.2.1 h0.2.2 hb hk h2 hg
end Go.Proofs.YtbmjablmmlnieaaGreatDoor

namespace Go.Proofs.YtbmjablmmlnieaaGreatDoor
set_option maxRecDepth 20000
open Go.RowKit

theorem errT_of_handles {W : World} (h : handlesMet Tryz.prog [("errors.errorType", Rows.laid_errors_errorType)] W) : ErrT W := by
  have h2 : ∃ name u ty, (Rows.laid_errors_errorType : DataW Unit).handleName? = some name ∧ (Tryz.prog.cutTypes.find? (·.1 == "internal/reflectlite.rtype")).map (·.2) = some u ∧ ty < Tryz.prog.types.size ∧ Tryz.prog.rowNamed ty name = true ∧ W.var? Tryz.prog "errors.errorType" = some #[.iface u (.agg #[typeHandle Tryz.prog ty])] := h _ (List.mem_singleton.2 rfl)
  obtain ⟨name, u, ty, hn, hu, hty, hr, hv⟩ := h2
  obtain rfl : name = [101, 114, 114, 111, 114] := (Option.some.inj ((show (Rows.laid_errors_errorType : DataW Unit).handleName? = some [101, 114, 114, 111, 114] by kernel_rfl).symm.trans hn)).symm
  obtain rfl : u = 206 := (Option.some.inj ((show (Tryz.prog.cutTypes.find? (·.1 == "internal/reflectlite.rtype")).map (·.2) = some 206 by kernel_rfl).symm.trans hu)).symm
  have hall : (List.range Tryz.prog.types.size).all (fun t => !Tryz.prog.rowNamed t [101, 114, 114, 111, 114] || t == 99) = true := by kernel_rfl
  have h1 := List.all_eq_true.1 hall ty (List.mem_range.2 hty)
  rw [hr] at h1
  obtain rfl : ty = 99 := by simpa using h1
  have hc := World.var?_cell (show Tryz.prog.globalNamed "errors.errorType" = some 0 by kernel_rfl) hv 0
  have hs : Tryz.prog.globals.size = 4 := by kernel_rfl
  rw [ErrT, hc]
  simp only [typeHandle, hs]
  rfl
end Go.Proofs.YtbmjablmmlnieaaGreatDoor
