/- A slice that the call owns, told by its cells alone (the row of []byte(s) bears a mark behind its end); append onto it; []byte(s). -/
import Derived.Test.YtgokehbdappcdaaDoorMg28
import Derived.Test.YtgokehbdappcdaaDoorMg38
import Derived.Lib.ConvBytes
import Derived.Laws.IdiomCopy
import Derived.Deep.Upon
namespace Go.Proofs.YtgokehbdappcdaaDoor.Sm
set_option maxRecDepth 20000
open Go.RowKit

structure OwnC (w : World) (base g n cap : Nat) (xs : List Value) : Prop where
  len : xs.length = n
  low : base ≤ g
  lt : g < w.heap.size
  room : n ≤ cap
  most : cap ≤ maxLen
  there : ∀ i, i < cap → (w.cell? ⟨g, i, none⟩).isSome = true
  free : ∀ i, i < cap → w.frozen? ⟨g, i, none⟩ = false
  cells : ∀ i u, xs[i]? = some u → w.cell? ⟨g, i, none⟩ = some u

theorem OwnC.drew {w : World} {base g n cap : Nat} {xs : List Value} (h : OwnC w base g n cap xs) : OwnC w.drew base g n cap xs := ⟨h.len, h.low, h.lt, h.room, h.most, h.there, h.free, h.cells⟩
theorem OwnC.kept {w w' : World} {base g n cap : Nat} {xs : List Value} (h : OwnC w base g n cap xs) (hb : w'.heap[g]? = w.heap[g]?) (hs : w.heap.size ≤ w'.heap.size) : OwnC w' base g n cap xs :=
  ⟨h.len, h.low, Nat.lt_of_lt_of_le h.lt hs, h.room, h.most, fun i hi => by rw [World.cell?_of_block (a := ⟨g, i, none⟩) hb]; exact h.there i hi, fun i hi => by rw [World.frozen?_of_block (a := ⟨g, i, none⟩) hb]; exact h.free i hi, fun i u hu => by rw [World.cell?_of_block (a := ⟨g, i, none⟩) hb]; exact h.cells i u hu⟩
theorem OwnC.alloc {w : World} {base g n cap : Nat} {xs : List Value} (h : OwnC w base g n cap xs) (o : Obj) : OwnC (w.alloc o) base g n cap xs := h.kept (Below.heap_alloc w o g (by have := h.lt; omega)) (by simp)
theorem OwnC.below {w w' : World} {base g n cap B : Nat} {xs : List Value} (h : OwnC w base g n cap xs) (hb : Below B w w') (hg : g < B) : OwnC w' base g n cap xs := h.kept (hb.block g hg) hb.size
/-- A row that is owned in the kit's sense, and not nil. -/
theorem OwnC.of {w : World} {base n : Nat} {e : TypeId} {v : Value} {xs : List Value} (h : w.ownsRow base e 1 v n xs) (hn : 0 < n) : ∃ g cap, v = .slice (some ⟨g, 0, none⟩) n cap ∧ OwnC w base g n cap xs := by
  rcases h.2 with ⟨_, h0⟩ | ⟨g, cap, cur, hv, hb, hg, hnc, hcm, hcs, htake⟩
  · omega
  · have hl := h.1
    simp only [Nat.mul_one] at hcs htake hl
    refine ⟨g, cap, hv, hl, hb, (Array.getElem?_eq_some_iff.1 hg).1, hnc, hcm, fun i hi => ?_, fun i _ => by simp [World.frozen?, hg], fun i u hu => ?_⟩
    · rw [cell_of_row w g i cur e (0, 0) hg, Array.getElem?_eq_getElem (by omega)]; rfl
    · rw [cell_of_row w g i cur e (0, 0) hg]
      rw [← htake, List.getElem?_take] at hu
      split at hu
      · simpa using hu
      · cases hu

theorem OwnC.append {P : Program} (w : World) (base : Nat) (t ty e : TypeId) (i : TypeInfo) (z : Value) (bytes : Nat) (ht : P.underlying t = some (.slice e)) (hi : P.info? e = some i) (hz : i.zero = some z)
    (hsize : i.size = 1) (hby : i.bytes = bytes) (hzs : z.cells.size = 1)
    (g n cap : Nat) (xs : List Value) (hown : OwnC w base g n cap xs)
    (a : Addr) (m c : Nat) (news : List Value) (hl : news.length = m) (hnews : ∀ j u, news[j]? = some u → w.cell? (a.add j) = some u) (h1 : ∀ u ∈ news, u.oneCell' = true)
    (h63 : n + m ≤ maxLen) (hbytes : (n + m) * bytes ≤ 140737488355328) (hbase : base ≤ w.heap.size) :
    ∃ g' cap' w', (Builtin.append_ #[t, t] ty #[.slice (some ⟨g, 0, none⟩) n cap, .slice (some a) m c]).run P w = .ok (.slice (some ⟨g', 0, none⟩) (n + m) cap') w' ∧ OwnC w' base g' (n + m) cap' (xs ++ news) ∧ w.grownBy w' (some g) ∧ (g' = g ∨ g' = w.heap.size) := by
  subst hby
  have hlx := hown.len
  have hlen : (xs ++ news).length = n + m := by rw [List.length_append]; omega
  by_cases hroom : n + m ≤ cap
  · have hf := run_firstCells_some (P := P) w i.size m a m c news (by rw [hsize]; omega) hnews
    have hst := run_storeCells_cells (P := P) g n news 0 w (fun j hj => by simpa using hown.there (n + j) (by omega)) (fun j hj => by simpa using hown.free (n + j) (by omega)) h1
    rw [Nat.add_zero] at hst
    have hcin := World.cell?_setCells_in g news n w (fun j hj => hown.there (n + j) (by omega))
    refine ⟨g, cap, w.setCells g n news, ?_, ⟨hlen, hown.low, ?_, hroom, hown.most, fun i hi => ?_, fun i hi => ?_, fun i u hu => ?_⟩, ⟨World.os_setCells _ _ _ _, ?_, World.output_setCells _ _ _ _, ?_, fun k hk hne => ?_⟩, .inl rfl⟩
    · rw [hsize] at hf
      simp [Builtin.append_, run_underlying ht, sizeOf, typeInfo, hi, Builtin.lenOf, hroom, hf, Addr.add_lit, hst, hsize]
    · exact Nat.lt_of_lt_of_le hown.lt (Only.setCells news n w (Only.refl g w)).size
    · by_cases hin : n ≤ i ∧ i < n + news.length
      · have := hcin (i - n) (by omega)
        rw [show n + (i - n) = i by omega] at this
        rw [this]; rfl
      · rw [World.cell?_setCells_out g news n w ⟨g, i, none⟩ (fun _ _ => by show i < n ∨ n + news.length ≤ i; omega)]
        exact hown.there i hi
    · rw [World.frozen?_setCells]; exact hown.free i hi
    · by_cases hin : i < n
      · rw [World.cell?_setCells_out g news n w ⟨g, i, none⟩ (fun _ _ => by show i < n ∨ _; omega)]
        rw [List.getElem?_append_left (by omega)] at hu
        exact hown.cells i u hu
      · rw [List.getElem?_append_right (by omega)] at hu
        have hlt := (List.getElem?_eq_some_iff.1 hu).1
        have := hcin (i - n) (by omega)
        rw [show n + (i - n) = i by omega] at this
        rw [this, ← hu, hlx, List.getElem?_eq_getElem]
    · exact (Only.setCells news n w (Only.refl g w)).1.tape
    · exact (Only.setCells news n w (Only.refl g w)).size
    · exact (Only.setCells news n w (Only.refl g w)).2 k hk (fun e => hne (by rw [e]))
  · have holds : ∀ j u, xs[j]? = some u → w.cell? ((⟨g, 0, none⟩ : Addr).add j) = some u := fun j u hu => by
      have hadd : (⟨g, 0, none⟩ : Addr).add j = ⟨g, j, none⟩ := by unfold Addr.add; split <;> simp_all
      rw [hadd]; exact hown.cells j u hu
    have h := run_append_grow (P := P) w t ty e i z ht hi hz ⟨g, 0, none⟩ n cap xs (by rw [hsize]; omega) holds a m c news (by rw [hsize]; omega) hnews (by omega) (by unfold maxLen at h63; omega) (growslice_fits (by omega) hbytes)
    have hge := grownCap_ge w (n + m) cap e
    have hcm : grownCap w (n + m) cap e ≤ maxLen := grownCap_le_maxLen w (n + m) cap e h63
    have hnew : (w.drew.alloc (.cells (xs.toArray ++ news.toArray ++ Builtin.zeroCells z.cells (grownCap w (n + m) cap e - (n + m))) e)).heap[w.heap.size]? = some (.cells (xs.toArray ++ news.toArray ++ Builtin.zeroCells z.cells (grownCap w (n + m) cap e - (n + m))) e (0, 0)) := heap_alloc_new w.drew _
    have hsz : (xs.toArray ++ news.toArray ++ Builtin.zeroCells z.cells (grownCap w (n + m) cap e - (n + m))).size = grownCap w (n + m) cap e := by
      rw [Array.size_append, Array.size_append, List.size_toArray, List.size_toArray, size_zeroCells, hzs]; omega
    refine ⟨w.heap.size, _, _, h, ⟨hlen, hbase, by simp, hge, hcm, fun i hi => ?_, fun i _ => ?_, fun i u hu => ?_⟩, ⟨rfl, rfl, rfl, by simp, fun k hk _ => Below.heap_alloc w.drew _ k (by have : w.drew.heap.size = w.heap.size := rfl; omega)⟩, .inr rfl⟩
    · rw [cell_of_row _ _ _ _ _ _ hnew, Array.getElem?_eq_getElem (by omega)]; rfl
    · simp only [World.frozen?, hnew]; simp
    · rw [cell_of_row _ _ _ _ _ _ hnew, Array.getElem?_append_left (by have := (List.getElem?_eq_some_iff.1 hu).1; simp at this ⊢; omega)]
      simpa using hu

theorem wpList_appendC {P : Program} (w : World) {ops : Array Oper} {rest : List Oper} {o : Oper} {a : Act} {Q : Exit → Act → World → Prop} (hgd : o.guard = none) (s x : Operand) (t : TypeId)
    (ho : o.op = .call { callee := .builtin .append, args := #[s, x], argTypes := #[t, t] })
    (base : Nat) (e : TypeId) (i : TypeInfo) (z : Value) (bytes : Nat) (ht : P.underlying t = some (.slice e)) (hi : P.info? e = some i) (hz : i.zero = some z)
    (hsize : i.size = 1) (hby : i.bytes = bytes) (hzs : z.cells.size = 1)
    (g n cap : Nat) (xs : List Value) (hs : a.eval s = .slice (some ⟨g, 0, none⟩) n cap) (hown : OwnC w base g n cap xs)
    (ad : Addr) (m c : Nat) (news : List Value) (hx : a.eval x = .slice (some ad) m c) (hl : news.length = m) (hnews : ∀ j u, news[j]? = some u → w.cell? (ad.add j) = some u) (h1 : ∀ u ∈ news, u.oneCell' = true)
    (h63 : n + m ≤ maxLen) (hbytes : (n + m) * bytes ≤ 140737488355328) (hbase : base ≤ w.heap.size)
    (h : ∀ g' cap' w', OwnC w' base g' (n + m) cap' (xs ++ news) → w.grownBy w' (some g) → (g' = g ∨ g' = w.heap.size) → wpList P ops Q rest (a.put o.dst (.slice (some ⟨g', 0, none⟩) (n + m) cap')) w') : wpList P ops Q (o :: rest) a w := by
  refine wpList_plain hgd fun K hK => ?_
  obtain ⟨g', cap', w', hr, h2, h3, h4⟩ := OwnC.append (P := P) w base t o.type e i z bytes ht hi hz hsize hby hzs g n cap xs hown ad m c news hl hnews h1 h63 hbytes hbase
  unfold Oper.wp execOp
  simp only [ho, resolve, invoke, builtin, Sem.run_bind, Sem.run_pure, Result.andThen_ok, List.map_toArray, List.map_cons, List.map_nil, hs, hx, hr]
  exact hK _ _ (h g' cap' w' h2 h3 h4)

theorem bytesWorld_below (w : World) (e : TypeId) (s : ByteArray) : Below w.heap.size w (Lib.bytesWorld w e s) :=
  ⟨rfl, rfl, rfl, by rw [Lib.bytesWorld_size]; omega, fun k hk => Lib.bytesWorld_at_old w e s k hk⟩
theorem bytesWorld_own (w : World) (e : TypeId) (s : ByteArray) (hs : s.size ≤ maxLen) : OwnC (Lib.bytesWorld w e s) w.heap.size w.heap.size s.size (grownCap w s.size 0 e) (s.data.toList.map fun x => Value.int .u8 (x.toNat : Int)) := by
  have hge := grownCap_ge w s.size 0 e
  have hnew := Lib.bytesWorld_at_new w e s
  have hsz : (Lib.bytesCells w e s).size = grownCap w s.size 0 e := by simp [Lib.bytesCells]; omega
  refine ⟨by simp, Nat.le_refl _, by rw [Lib.bytesWorld_size]; omega, hge, grownCap_le_maxLen w s.size 0 e hs, fun i hi => ?_, fun i hi => ?_, fun i u hu => ?_⟩
  · rw [cell_of_row _ _ _ _ _ _ hnew, Array.getElem?_eq_getElem (by omega)]; rfl
  · simp [World.frozen?, hnew, hsz]; omega
  · have hlt := (List.getElem?_eq_some_iff.1 hu).1
    simp only [List.length_map, Array.length_toList] at hlt
    have h2 : i < s.size := by simpa using hlt
    rw [Lib.bytesWorld_cell w e s i h2, ← hu]
    simp [List.getD, h2]
end Go.Proofs.YtgokehbdappcdaaDoor.Sm
