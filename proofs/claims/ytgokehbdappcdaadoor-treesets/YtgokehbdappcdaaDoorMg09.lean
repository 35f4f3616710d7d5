/- A row of texts in memory; tree's node and nodes, over any vault whose Hash is told. -/
import Derived.Test.YtgokehbdappcdaaDoorMg08
namespace Go.Proofs.YtgokehbdappcdaaDoor
set_option maxRecDepth 20000
open Go.RowKit

/-- A block that holds these texts. -/
def RowS (w : World) (g : Nat) (r : List ByteArray) : Prop := Row w g 9 (r.map Value.string)
theorem RowS.cell {w : World} {g : Nat} {r : List ByteArray} (h : RowS w g r) {i : Nat} {x : ByteArray} (hx : r[i]? = some x) : w.cell? ⟨g, i, none⟩ = some (.string x) := by
  have := Row.cell h i
  rw [List.getElem?_map, hx] at this
  exact this
theorem RowS.lt {w : World} {g : Nat} {r : List ByteArray} (h : RowS w g r) : g < w.heap.size := lt_of_block h
theorem RowS.keep {w w' : World} {g : Nat} {r : List ByteArray} (h : RowS w g r) (k : w'.heap[g]? = w.heap[g]?) : RowS w' g r := k.trans h
theorem RowS.set {w : World} {g : Nat} {r : List ByteArray} (h : RowS w g r) (i : Nat) (x : ByteArray) : RowS (w.setCell ⟨g, i, none⟩ (.string x)) g (r.set i x) := by
  have := Row.setL h i (.string x)
  rw [← List.map_set] at this
  exact this
theorem RowS.frozen {w : World} {g : Nat} {r : List ByteArray} (h : RowS w g r) (i : Nat) : w.frozen? ⟨g, i, none⟩ = false := Row.frozen h i
theorem catB_size_le : ∀ {l : List ByteArray}, (∀ x, x ∈ l → x.size ≤ 1000) → (catB l).size ≤ 1000 * l.length
  | [], _ => Nat.zero_le _
  | a :: l, h => by
    have h1 := catB_size_le (l := l) fun x hx => h x (List.mem_cons_of_mem _ hx)
    have h2 := h a List.mem_cons_self
    show (a ++ catB l).size ≤ _
    rw [ByteArray.size_append, List.length_cons]
    omega
section
variable {σ : Type} {K : HK σ}
set_option maxHeartbeats 400000 in
theorem node_any (o : HKOk K) (w : World) (F G : Nat → Prop) (B : Nat) (S : σ) (g j : Nat) (r : List ByteArray) (hr : RowS w g r) (hlen : r.length ≤ 1000000) (hj : j < upN r.length) (hs : ∀ x, x ∈ r → x.size ≤ 1000) (hn : K.n S ≤ 1000000) (v : K.V w F G B S) :
    Calls Tryd.prog 20 #[.pointer (some ⟨B, 0, none⟩), .slice (some ⟨g, 0, none⟩) r.length r.length, .int .i64 (j : Int)] w (HPost K w F G B S (nodeT (grp r j))) := by
  have hj2 : 4 * j < r.length := by unfold upN at hj; omega
  have hgl := grp_length r j
  have hc := nodeHash_any o w F G B S g (4 * j) (r.length - 4 * j) (grp r j) (fun m x hx => by
    have hm : m < 4 := by
      have := (List.getElem?_eq_some_iff.1 hx).1
      omega
    rw [grp_get _ _ _ hm] at hx
    exact hr.cell hx) hr.lt (by omega) (by omega) (by
      have := catB_size_le (l := grp r j) fun x hx => hs x (List.mem_of_mem_drop (List.mem_of_mem_take hx))
      omega) hn v
  have hf := fun w => four_any r.length (j * 4) (by omega) w
  obtain ⟨f, hfd⟩ : ∃ f : Nat, f = 4 * (j * 4 / 4) := ⟨_, rfl⟩
  obtain ⟨t, htd⟩ : ∃ t : Nat, t = min (4 * (j * 4 / 4) + 4) r.length := ⟨_, rfl⟩
  rw [← htd, ← hfd] at hf
  have e1 : (grp r j).length = t - f := by omega
  have e2 : 4 * j = f := by omega
  rw [e1, e2] at hc
  have m1 : IntKind.i64.wrap ((j : Int) * 4) = ((j * 4 : Nat) : Int) := by rw [IntKind.wrap_i64]; omega
  have n0 : f ≤ t := by omega
  have n1 : t ≤ r.length := by omega
  have n2 : ¬ r.length = f := by omega
  generalize nodeT (grp r j) = x at *
  clear hr hs v hgl hfd htd e1 e2 hj hj2
  generalize r.length = len at *
  generalize j * 4 = q at *
  have p1 : ((f : Nat) : Int) ≤ (t : Nat) := by omega
  have p2 : ((t : Nat) : Int) ≤ (len : Nat) := by omega
  have n3 : ¬ (len : Int) = (f : Int) := by omega
  go_enter Tryd.func20, Tryd.ntmps20
  go_wp2_with fail
  refine (hf _).mono ?_
  rintro e w1 ⟨rfl, rfl⟩
  clear hf
  go_wp2_with fail
  refine hc.mono ?_
  rintro e w2 ⟨S', rfl, h1⟩
  have HF : Hid _ := h1
  clear hc h1
  go_wp2
  go_ret
  exact ⟨S', rfl, HF.out⟩
/-- A row with so many of its hashes laid. -/
def partR (f : Nat → ByteArray) (m j : Nat) : List ByteArray := (List.range m).map fun i => if i < j then f i else ⟨#[]⟩
theorem partR_length (f : Nat → ByteArray) (m j : Nat) : (partR f m j).length = m := by simp [partR]
theorem partR_set (f : Nat → ByteArray) (m j : Nat) : (partR f m j).set j (f j) = partR f m (j + 1) := by
  apply List.ext_getElem?
  intro i
  rw [List.getElem?_set]
  by_cases hi : i < m
  · by_cases e : j = i
    · subst e
      rw [if_pos rfl, if_pos (by simpa [partR] using hi)]
      simp [partR, hi]
    · rw [if_neg e]
      simp only [partR, List.getElem?_map, List.getElem?_range hi, Option.map_some]
      congr 1
      by_cases h1 : i < j
      · rw [if_pos h1, if_pos (by omega)]
      · rw [if_neg h1, if_neg (by omega)]
  · rw [List.getElem?_eq_none (by rw [partR_length]; omega)]
    rw [List.getElem?_eq_none (by rw [partR_length]; omega)]
    split
    · rw [if_neg (by rw [partR_length]; omega)]
    · rfl
theorem partR_all (f : Nat → ByteArray) (m : Nat) : partR f m m = (List.range m).map f := List.map_congr_left fun _ hi => if_pos (List.mem_range.1 hi)
theorem partR_same {f f' : Nat → ByteArray} {m j : Nat} (h : ∀ i, i < j → f' i = f i) : partR f' m j = partR f m j := List.map_congr_left fun i _ => by
  by_cases hi : i < j
  · rw [if_pos hi, if_pos hi, h i hi]
  · rw [if_neg hi, if_neg hi]
theorem partR_none (f : Nat → ByteArray) (m : Nat) : (partR f m 0).map Value.string = List.replicate m (Value.string ⟨#[]⟩) := by
  apply List.ext_getElem?
  intro i
  by_cases hi : i < m
  · simp [partR, hi]
  · simp [partR, hi]
theorem tr_info_string : (Tryd.prog.info? 9).map (fun i => (i.zero, i.size, i.bytes)) = some (some (.string ⟨#[]⟩), 1, 16) := by kernel_rfl
theorem run_make_strs (n : Nat) (hn : n ≤ 1000000) (w : World) : (Instr.makeSlice 22 (.int .i64 (n : Int)) (.int .i64 (n : Int))).run Tryd.prog w = .ok (.slice (some ⟨w.heap.size, 0, none⟩) n n) (w.alloc (.cells (madeCells #[.string ⟨#[]⟩] n) 9)) :=
  run_make_row' (P := Tryd.prog) 22 9 (.string ⟨#[]⟩) 16 Tryd.underlying22 tr_info_string rfl .i64 .i64 n (by omega) (by omega) w
theorem made_strs (w : World) (f : Nat → ByteArray) (n : Nat) : RowS (w.alloc (.cells (madeCells #[.string ⟨#[]⟩] n) 9)) w.heap.size (partR f n 0) := by
  unfold RowS
  rw [partR_none, Row, ← toList_madeCells_one]
  exact heap_alloc_new w _
/-- What nodes comes to. -/
def NodesPost (K : HK σ) (w : World) (F G : Nat → Prop) (B : Nat) (S : σ) (r : List ByteArray) (e : Ending) (w' : World) : Prop :=
  ∃ S', e = .returned (.slice (some ⟨w.heap.size, 0, none⟩) (upN r.length) (upN r.length)) ∧ K.V w' F G B S' ∧ RowS w' w.heap.size (upRow (K.h S') r) ∧ (∀ j, j < upN r.length → K.D S' (nodeT (grp r j))) ∧ Touch G w w' ∧ K.ext S S' ∧ K.n S' ≤ K.n S + upN r.length
set_option maxHeartbeats 1000000 in
theorem nodes_any (o : HKOk K) (w : World) (F G : Nat → Prop) (B : Nat) (S : σ) (g : Nat) (r : List ByteArray) (hr : RowS w g r) (hlen : r.length ≤ 100000) (hs : ∀ x, x ∈ r → x.size ≤ 1000) (hn : K.n S ≤ 800000) (hg : ¬ G g) (hF : ∀ k, F k → k < w.heap.size) (hG : ∀ k, G k → k < w.heap.size) (v : K.V w F G B S) :
    Calls Tryd.prog 18 #[.pointer (some ⟨B, 0, none⟩), .slice (some ⟨g, 0, none⟩) r.length r.length] w (NodesPost K w F G B S r) := by
  obtain ⟨m, hm⟩ : ∃ m, m = upN r.length := ⟨_, rfl⟩
  have hml : m ≤ 100000 := by unfold upN at hm; omega
  have ha := fun w => above_any r.length (by omega) w
  rw [← hm] at ha
  have hmk := run_make_strs m (by omega) w
  obtain ⟨w1, hw1⟩ : ∃ w1, w.alloc (.cells (madeCells #[.string ⟨#[]⟩] m) 9) = w1 := ⟨_, rfl⟩
  have hr1 : RowS w1 w.heap.size (partR (fun i => K.h S (nodeT (grp r i))) m 0) := by rw [← hw1]; exact made_strs w _ m
  have hb1 : Below w.heap.size w w1 := by rw [← hw1]; exact (Below.refl _ _).alloc (Nat.le_refl _) _
  rw [hw1] at hmk
  have HI : Hid (K.V w1 F G B S ∧ RowS w1 w.heap.size (partR (fun i => K.h S (nodeT (grp r i))) m 0) ∧ Touch G w w1) := ⟨o.below v hb1, hr1, Touch.of_below hb1⟩
  have hglt := hr.lt
  have HR : Hid (∀ wr, Touch G w wr → RowS wr g r) := fun wr t => hr.keep (t.2 g hglt hg)
  have HM : Hid (m = upN r.length) := hm
  clear v hr hr1 hb1 hm hw1
  have hlen' : ∀ w2, Calls Tryd.prog 36 #[.int .i64 ((r.length : Nat) : Int)] w2 fun e w' => e = .returned (.int .i64 (m : Nat)) ∧ w' = w2 := ha
  obtain ⟨len, hl⟩ : ∃ len, len = r.length := ⟨_, rfl⟩
  have HL : Hid (len = r.length) := hl
  rw [← hl] at ha ⊢
  clear hlen' hl
  go_enter Tryd.func18, Tryd.ntmps18
  go_wp2_with fail
  refine (ha _).mono ?_
  rintro e w2 ⟨rfl, rfl⟩
  clear ha
  go_wp2_with fail
  go_loopw [13] (fun v wr => ∃ (j : Nat) (Sj : σ), j ≤ m ∧ v = .int .i64 (j : Int) ∧ K.V wr F G B Sj ∧ RowS wr w2.heap.size (partR (fun i => K.h Sj (nodeT (grp r i))) m j) ∧ (∀ i, i < j → K.D Sj (nodeT (grp r i))) ∧ Touch G w2 wr ∧ K.ext S Sj ∧ K.n Sj ≤ K.n S + j) (fun v _ => m - (intOf v).toNat)
  case atStart => exact ⟨0, S, Nat.zero_le _, rfl, HI.out.1, HI.out.2.1, fun i hi => absurd hi (Nat.not_lt_zero i), HI.out.2.2, K.ext_refl S, Nat.le_refl _⟩
  case round =>
    clear HI
    obtain ⟨j, Sj, hj, rfl, hv, hrow, hD, ht, hx, hnj⟩ := hrel
    by_cases hlt : j < m
    · have j1 : (j : Int) < m := by omega
      have hnd := node_any o wr F G B Sj g j r (HR.out wr ht) (by omega) (by rw [← HM.out]; exact hlt) hs (by omega) hv
      rw [← HL.out] at hnd
      have HJ : Hid (RowS wr w2.heap.size (partR (fun i => K.h Sj (nodeT (grp r i))) m j) ∧ (∀ i, i < j → K.D Sj (nodeT (grp r i))) ∧ Touch G w2 wr ∧ K.ext S Sj ∧ K.n Sj ≤ K.n S + j) := ⟨hrow, hD, ht, hx, hnj⟩
      clear hv hrow hD ht hx hnj
      go_wp2_with fail
      refine hnd.mono ?_
      rintro e w3 ⟨S3, rfl, h1, h2, h3, h4, h5⟩
      have hrow3 : RowS w3 w2.heap.size (partR (fun i => K.h S3 (nodeT (grp r i))) m j) := by
        rw [partR_same fun i hi => (h3 _ (HJ.out.2.1 i hi)).2]
        exact HJ.out.1.keep (h2.2 _ HJ.out.1.lt fun hg => absurd (hG _ hg) (Nat.lt_irrefl _))
      obtain ⟨old, hold⟩ : ∃ old, (partR (fun i => K.h S3 (nodeT (grp r i))) m j)[j]? = some old := ⟨_, List.getElem?_eq_getElem (by rw [partR_length]; exact hlt)⟩
      have c3 := hrow3.cell hold
      have f3 := hrow3.frozen j
      obtain ⟨w4, hw4⟩ : ∃ w4, w3.setCell ⟨w2.heap.size, j, none⟩ (.string (K.h S3 (nodeT (grp r j)))) = w4 := ⟨_, rfl⟩
      have HF : Hid (K.V w4 F G B S3 ∧ RowS w4 w2.heap.size (partR (fun i => K.h S3 (nodeT (grp r i))) m (j + 1)) ∧ (∀ i, i < j + 1 → K.D S3 (nodeT (grp r i))) ∧ Touch G w2 w4 ∧ K.ext S S3 ∧ K.n S3 ≤ K.n S + (j + 1)) := by
        have hs4 := hrow3.set j (K.h S3 (nodeT (grp r j)))
        rw [partR_set (fun i => K.h S3 (nodeT (grp r i)))] at hs4
        have ht3 : Touch G w2 w3 := HJ.out.2.2.1.trans (h2.mono fun _ h => .inl h)
        rw [← hw4]
        refine ⟨o.keep h1 fun k _ hf => Below.heap_setCell w3 ⟨w2.heap.size, j, none⟩ _ k (fun e => absurd (hF k hf) (by rw [e]; exact Nat.lt_irrefl _)), hs4, fun i hi => ?_, ht3.setCell _ _ _ (.inr (Nat.le_refl _)), HK.ext_trans HJ.out.2.2.2.1 h3, by have := HJ.out.2.2.2.2; omega⟩
        by_cases e : i = j
        · rw [e]; exact h4
        · exact (h3 _ (HJ.out.2.1 i (by omega))).1
      clear hnd h1 h2 h3 h4 h5 hrow3 hold HJ
      go_wp2
      go_roundw
      case rel => exact ⟨j + 1, S3, by omega, by go_num, HF.out⟩
      case measure => simp [intOf]; omega
    · obtain rfl : j = m := by omega
      have j1 : ¬ (j : Int) < j := by omega
      have HF : Hid (K.V wr F G B Sj ∧ RowS wr w2.heap.size (upRow (K.h Sj) r) ∧ (∀ i, i < upN r.length → K.D Sj (nodeT (grp r i))) ∧ Touch G w2 wr ∧ K.ext S Sj ∧ K.n Sj ≤ K.n S + upN r.length) := by
        rw [partR_all, HM.out] at hrow
        rw [HM.out] at hD hnj
        exact ⟨hv, hrow, hD, ht, hx, hnj⟩
      clear hv hrow hD ht hx hnj
      go_wp2
      go_ret
      exact ⟨Sj, by rw [HM.out]; rfl, HF.out⟩
end
end Go.Proofs.YtgokehbdappcdaaDoor
