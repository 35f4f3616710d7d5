/- A list of entries that came in, appended to an empty one. -/
import Derived.Test.YtlcadhojfnanfaaDoorShArgs
import Derived.Laws.AppendOwnNone
namespace Go.Proofs.YtlcadhojfnanfaaDoor
set_option maxRecDepth 20000
open Go.ChangeShapes Go.WideShapes Go.RowKit Go.Deep

/-- What is nil has no place. -/
def NilEn (v : Value) : Prop := ∀ len cap, v = .slice none len cap → cap = 0
section
variable {H : Type} {enc : TypeId × Value → H} {W : World}
theorem ensn_of_trod {v : Value} {d : DataW H} {p : List MemPlace} {base : Nat} (hok : Value.okWide Tryd.prog W .any base 22 v) (h : DataW.Trod enc Tryd.prog W 0 (fun _ => true) true 22 v d p) (hw : ∀ n ∈ d.weights Tryd.prog 22, n ≤ reachBytes) : ∃ l, Ens W v l ∧ (∀ x ∈ l, x.Ok) ∧ Capped v ∧ NilEn v := by
  obtain ⟨l, h1, h2, h3⟩ := ens_of_trod hok h hw
  refine ⟨l, h1, h2, h3, fun len cap e => ?_⟩
  subst e
  obtain ⟨fuel, hf⟩ := h
  rcases open_slice Tryd.underlying22 hf with ⟨hcs, hx⟩ | ⟨a, len', cap', m, n, D, Pl, hcs, _⟩
  · simp [Value.cells] at hcs
    exact hcs.2
  · simp [Value.cells] at hcs
end
theorem Ens.news {W : World} {ad : Addr} {len cap : Nat} {l : List En} (h : Ens W (.slice (some ad) len cap) l) : ∀ j u, (l.flatMap En.cells)[j]? = some u → W.cell? (ad.add j) = some u := fun j u hu => by
  rcases h with ⟨oa', cap', e, rfl⟩ | ⟨g, o, cap', e, hg, hx⟩
  · simp at hu
  · simp only [Value.slice.injEq, Option.some.injEq] at e
    obtain ⟨rfl, _, _⟩ := e
    have hj := (List.getElem?_eq_some_iff.1 hu).1
    rw [flat_len] at hj
    have hi : j / 3 < l.length := by omega
    have e3 : j / 3 * 3 + j % 3 = j := by omega
    have hat := hx (j / 3) _ (List.getElem?_eq_getElem hi)
    have hc : j % 3 < 3 := Nat.mod_lt _ (by decide)
    have := flat_at l (j / 3) _ (List.getElem?_eq_getElem hi) (j % 3) hc
    rw [e3, hu] at this
    rw [en_add_plain, show o + j = o + j / 3 * 3 + j % 3 by omega]
    generalize j % 3 = c at *
    match c, hc with
    | 0, _ => rw [show o + j / 3 * 3 + 0 = o + j / 3 * 3 by omega, hat.c0]; exact this.symm
    | 1, _ => rw [hat.c1]; exact this.symm
    | 2, _ => rw [hat.c2]; exact this.symm
theorem cells_one {l : List En} : ∀ u ∈ l.flatMap En.cells, u.oneCell' = true := fun u hu => by
  obtain ⟨x, _, hx⟩ := List.mem_flatMap.1 hu
  simp [En.cells] at hx
  rcases hx with rfl | rfl | rfl <;> rfl
theorem wpList_append_ens {w : World} {ops : Array Oper} {rest : List Oper} {o : Oper} {a : Act} {Q : Exit → Act → World → Prop} (hgd : o.guard = none) (s x : Operand)
    (ho : o.op = .call { callee := .builtin .append, args := #[s, x], argTypes := #[22, 22] })
    (base : Nat) (v : Value) (hs : a.eval s = v) (hown : EZ w base v []) (xv : Value) (l : List En) (hx : a.eval x = xv) (hsrc : Ens w xv l) (hn : NilEn xv) (hl : l.length ≤ 1000000) (hb : base ≤ w.heap.size)
    (h : ∀ v' w', EZ w' base v' l → w.grownBy w' v.ownBlock → wpList Tryd.prog ops Q rest (a.put o.dst v') w') : wpList Tryd.prog ops Q (o :: rest) a w := by
  obtain ⟨i0, hi0, hz0, hz1, hz2⟩ := info_parts sh_info_en
  obtain ⟨oa, ca, rfl⟩ := hsrc.form
  cases oa with
  | none =>
    obtain rfl : ca = 0 := hn _ _ rfl
    have hl0 : l = [] := by
      rcases hsrc with ⟨_, _, _, e⟩ | ⟨g, o, cap, e, _⟩
      · exact e
      · cases e
    subst hl0
    exact wpList_append_own_none hgd s x _ ho base 28 i0 3 Tryd.underlying22 hi0 v 0 [] hs hown hx (h v w hown ⟨rfl, rfl, rfl, Nat.le_refl _, fun _ _ _ => rfl⟩)
  | some ad =>
    refine wpList_append_own w hgd s x _ ho base 28 i0 _ 3 32 Tryd.underlying22 hi0 hz0 hz1 hz2 rfl (by decide) v 0 [] hs hown ad l.length ca (l.flatMap En.cells) hx (flat_len l) hsrc.news cells_one (by unfold maxLen; omega) (by omega) hb fun v' w' h1 h2 _ => h v' w' ?_ h2
    rw [Nat.zero_add, List.nil_append] at h1
    exact h1
end Go.Proofs.YtlcadhojfnanfaaDoor
