/- The laws' awake: a tree of one leaf. · The law TreeUnlike, called with any two lists of texts, returns true, and changes nothing that was there. -/
import Derived.Test.YtgokehbdappcdaaDoorMg15
import Derived.Test.YtgokehbdappcdaaDoorMg16
import Derived.BigQuiet
namespace Go.Proofs.YtgokehbdappcdaaDoor
set_option maxRecDepth 20000
open Go.RowKit

theorem lv_lit {w : World} {G : Nat → Prop} {g : Nat} {x : ByteArray} (h : w.heap[g]? = some (.cells #[.string x] 9 (0, 0))) (hg : ¬ G g) : Lv w G (some ⟨g, 0, none⟩) [x] := fun i y hy => by
  cases i with
  | zero =>
    obtain rfl := Option.some.inj hy
    exact ⟨g, 0, rfl, lt_of_block h, hg, cell_of_row _ _ _ _ _ _ h⟩
  | succ i => simp at hy
theorem path_nil (w : World) (G : Nat → Prop) : PathIn w G none [] := fun k s hs => by simp at hs
theorem ok_one (r : ByteArray) (hr : r.size = 32) : okB r 1 0 [] = true := by
  unfold okB leadB
  rw [hr]
  have : hgt 1 = 0 := hgt_end (by decide)
  simp [this, leadGo]
theorem top_one (h : ByteArray → ByteArray) (x : ByteArray) : topS h [x] = h (leafT x) := by
  unfold topS
  have : hgt [x].length = 0 := hgt_end (show ¬ 1 < 1 by decide)
  rw [this]
  rfl
theorem chk_one {S : VS} {r x y : ByteArray} (hn : S.texts.length ≤ 2000000) (hx : idealK.D S (leafT x)) (hy : idealK.D S (leafT y)) (h1 : idealK.D S (rootT 1 (idealK.h S (leafT x)))) (h2 : idealK.D S (rootT 1 (idealK.h S (leafT y)))) (hr : r = idealK.h S (rootT 1 (idealK.h S (leafT x)))) : chkB (idealK.h S) r 1 0 y [] = decide (x = y) := by
  have hz : r.size = 32 := by rw [hr]; exact idealOk.size S _ h1 hn
  unfold chkB
  rw [ok_one r hz, Bool.true_and]
  apply decide_eq_decide.2
  show idealK.h S (rootT 1 (idealK.h S (leafT y))) = r ↔ x = y
  rw [hr]
  constructor
  · intro e
    have e1 := ideal_inj S hn _ _ h2 h1 e
    have e2 := ideal_inj S hn _ _ hy hx (rootT_inj (by decide) (by decide) e1).2
    exact (leafT_inj e2).symm
  · rintro rfl
    rfl
theorem chk_after {S S' : VS} {x y : ByteArray} (tin : TreeInK (idealK.D S) (idealK.h S) [x] (hgt [x].length)) (d : idealK.D S (rootT [x].length (topS (idealK.h S) [x]))) (hx : idealK.ext S S') (hn : idealK.n S' ≤ 2000000) (hz : idealK.n S ≤ 2000000) (hc : okB (idealK.h S (rootT [x].length (topS (idealK.h S) [x]))) 1 0 [] = true → ClimbIn (idealK.D S') (idealK.h S') y [] ∧ idealK.D S' (rootT (1 : Int).toNat (climb (idealK.h S') (idealK.h S' (leafT y)) []))) : chkB (idealK.h S') (idealK.h S (rootT [x].length (topS (idealK.h S) [x]))) 1 0 y [] = decide (x = y) := by
  have h32 := idealOk.size S _ d hz
  obtain ⟨c1, c2⟩ := hc (ok_one _ h32)
  rw [top_one] at d h32 ⊢
  have d1 : idealK.D S (leafT x) := tin.1 x List.mem_cons_self
  obtain ⟨e1, e2⟩ := hx _ d1
  obtain ⟨e3, e4⟩ := hx _ d
  refine chk_one hn e1 c1.1 ?_ c2 ?_
  · rw [e2]; exact e3
  · rw [e2, ← e4]; rfl
theorem bs_ne : ¬ (⟨#[120]⟩ : ByteArray) = ⟨#[121]⟩ := by decide
set_option maxHeartbeats 2000000 in
theorem tawake_any (w : World) : Calls Tryd.prog 11 #[] w fun e w' => e = .returned (.bool true) ∧ Below w.heap.size w w' := by
  go_enter Tryd.func11, Tryd.ntmps11
  go_wp2_with fail
  refine (ideal_any w).mono ?_
  rintro e w1 ⟨B, rfl, hp, hb⟩
  obtain ⟨w2, hw2⟩ : ∃ w2, w1.alloc (.cells #[.string ⟨#[120]⟩] 9) = w2 := ⟨_, rfl⟩
  have g2 : w2.heap[w1.heap.size]? = some (.cells #[.string ⟨#[120]⟩] 9 (0, 0)) := by rw [← hw2]; exact heap_alloc_new w1 _
  have hb2 : Below w1.heap.size w1 w2 := by rw [← hw2]; exact (Below.refl _ _).alloc (Nat.le_refl _) _
  have hz := hb.size
  have hz2 := hb2.size
  have hnw := new_on idealOk (w0 := w) (w := w2) (F := fun k => w.heap.size ≤ k ∧ k < w1.heap.size) (G := fun k => w.heap.size ≤ k ∧ k < w1.heap.size) (B := B) (S := newV) (some ⟨w1.heap.size, 0, none⟩) 1 [⟨#[120]⟩] (lv_lit g2 (by omega)) (by decide) (fun x hx => by simp at hx; rw [hx]; decide) (by decide) (fun k hk => by omega) (fun k hk => by omega) ⟨hp.below hb2, fun _ h => h⟩ (hb.trans (hb2.mono hz))
  rw [show ([⟨#[120]⟩] : List ByteArray).length = 1 from rfl] at hnw
  clear hp hb hb2 g2
  go_wp2_with fail
  try rw [hw2]
  refine hnw.mono ?_
  rintro e w3 ⟨S3, T, rfl, on3, _, _, hn3⟩
  generalize (fun k => w2.heap.size ≤ k ∧ k < w3.heap.size) = H at *
  generalize (fun k => w.heap.size ≤ k ∧ k < w1.heap.size) = F at *
  have hn3' : idealK.n S3 ≤ 40200 := by have : idealK.n newV = 0 := rfl; omega
  have hct := count_on on3
  have hrt := root_on idealOk on3 (by decide) (by omega)
  rw [show ([⟨#[120]⟩] : List ByteArray).length = 1 from rfl] at hct
  clear hnw hw2 hn3
  go_wp2_with fail
  refine hct.mono ?_
  rintro e w4 ⟨rfl, rfl⟩
  clear hct
  go_wp2_with fail
  refine hrt.mono ?_
  rintro e w5 ⟨S5, rfl, on5, _, x5, d5, n5⟩
  have z5 := idealOk.size S5 _ d5 (by omega)
  have hrt := root_on idealOk on5 (by decide) (by omega)
  have z5' : ((idealK.h S5 (rootT ([⟨#[120]⟩] : List ByteArray).length (topS (idealK.h S5) [⟨#[120]⟩]))).size : Int) = 32 := by omega
  generalize hR5 : idealK.h S5 (rootT ([⟨#[120]⟩] : List ByteArray).length (topS (idealK.h S5) [⟨#[120]⟩])) = R5 at *
  clear hR5
  go_wp2_with fail
  refine hrt.mono ?_
  rintro e w6 ⟨S6, rfl, on6, _, x6, d6, n6⟩
  have hck := check_on idealOk on6 (idealK.h S6 (rootT ([⟨#[120]⟩] : List ByteArray).length (topS (idealK.h S6) [⟨#[120]⟩]))) 1 0 ⟨#[120]⟩ none 0 [] (by decide) (path_nil _ _) (by decide) (by omega)
  have HC : Hid (∀ S', idealK.ext S6 S' → idealK.n S' ≤ idealK.n S6 + 32770 → (okB (idealK.h S6 (rootT ([⟨#[120]⟩] : List ByteArray).length (topS (idealK.h S6) [⟨#[120]⟩]))) 1 0 [] = true → ClimbIn (idealK.D S') (idealK.h S') ⟨#[120]⟩ [] ∧ idealK.D S' (rootT (1 : Int).toNat (climb (idealK.h S') (idealK.h S' (leafT ⟨#[120]⟩)) []))) → chkB (idealK.h S') (idealK.h S6 (rootT ([⟨#[120]⟩] : List ByteArray).length (topS (idealK.h S6) [⟨#[120]⟩]))) 1 0 ⟨#[120]⟩ [] = true) := fun S' hx hn hc => by rw [chk_after on6.tin d6 hx (by omega) (by omega) hc]; rfl
  rw [show ([] : List Stp).length = 0 from rfl] at hck
  generalize hR6 : idealK.h S6 (rootT ([⟨#[120]⟩] : List ByteArray).length (topS (idealK.h S6) [⟨#[120]⟩])) = R6 at *
  clear hR6 hrt
  go_wp2_with fail
  refine hck.mono ?_
  rintro e w7 ⟨S7, rfl, on7, _, x7, n7, c7⟩
  rw [HC.out S7 x7 n7 c7]
  have hrt := root_on idealOk on7 (by decide) (by omega)
  clear hck HC c7
  go_wp2_with fail
  refine hrt.mono ?_
  rintro e w8 ⟨S8, rfl, on8, _, x8, d8, n8⟩
  have hck := check_on idealOk on8 (idealK.h S8 (rootT ([⟨#[120]⟩] : List ByteArray).length (topS (idealK.h S8) [⟨#[120]⟩]))) 1 0 ⟨#[121]⟩ none 0 [] (by decide) (path_nil _ _) (by decide) (by omega)
  have HC : Hid (∀ S', idealK.ext S8 S' → idealK.n S' ≤ idealK.n S8 + 32770 → (okB (idealK.h S8 (rootT ([⟨#[120]⟩] : List ByteArray).length (topS (idealK.h S8) [⟨#[120]⟩]))) 1 0 [] = true → ClimbIn (idealK.D S') (idealK.h S') ⟨#[121]⟩ [] ∧ idealK.D S' (rootT (1 : Int).toNat (climb (idealK.h S') (idealK.h S' (leafT ⟨#[121]⟩)) []))) → chkB (idealK.h S') (idealK.h S8 (rootT ([⟨#[120]⟩] : List ByteArray).length (topS (idealK.h S8) [⟨#[120]⟩]))) 1 0 ⟨#[121]⟩ [] = false) := fun S' hx hn hc => by rw [chk_after on8.tin d8 hx (by omega) (by omega) hc]; exact decide_eq_false bs_ne
  rw [show ([] : List Stp).length = 0 from rfl] at hck
  generalize hR8 : idealK.h S8 (rootT ([⟨#[120]⟩] : List ByteArray).length (topS (idealK.h S8) [⟨#[120]⟩])) = R8 at *
  clear hR8 hrt
  go_wp2_with fail
  refine hck.mono ?_
  rintro e w9 ⟨S9, rfl, on9, _, x9, n9, c9⟩
  rw [HC.out S9 x9 n9 c9]
  have HF : Hid (Below w.heap.size w w9) := on9.below
  clear hck HC c9
  go_wp2
  go_ret
  exact ⟨rfl, HF.out⟩
end Go.Proofs.YtgokehbdappcdaaDoor

namespace Go.Proofs.YtgokehbdappcdaaDoor
set_option maxRecDepth 20000
open Go.RowKit

/-- A list of texts of one's own. -/
def OwnL (w : World) (base : Nat) (v : Value) (l : List ByteArray) : Prop := w.ownsRow base 9 1 v l.length (l.map Value.string)
theorem OwnL.keep {w w' : World} {base : Nat} {v : Value} {l : List ByteArray} (h : OwnL w base v l) (hb : ∀ k, base ≤ k → k < w.heap.size → v.ownBlock = some k → w'.heap[k]? = w.heap[k]?) : OwnL w' base v l := by
  refine ⟨h.1, ?_⟩
  rcases h.2 with hn | ⟨g, cap, cur, rfl, h0, hg, hr⟩
  · exact .inl hn
  · exact .inr ⟨g, cap, cur, rfl, h0, (hb g h0 (lt_of_block hg) rfl).trans hg, hr⟩
theorem OwnL.lt {w : World} {base : Nat} {v : Value} {l : List ByteArray} (h : OwnL w base v l) {k : Nat} (hk : v.ownBlock = some k) : base ≤ k ∧ k < w.heap.size := by
  rcases h.2 with ⟨rfl, _⟩ | ⟨g, cap, cur, rfl, h0, hg, hr⟩
  · cases hk
  · obtain rfl : g = k := Option.some.inj hk
    exact ⟨h0, lt_of_block hg⟩
theorem OwnL.form {w : World} {base : Nat} {v : Value} {l : List ByteArray} (h : OwnL w base v l) : ∃ oa cap, v = .slice oa l.length cap := owns_slice3 h
theorem OwnL.cell {w : World} {base : Nat} {oa : Option Addr} {cap : Nat} {l : List ByteArray} (h : OwnL w base (.slice oa l.length cap) l) {i : Nat} {x : ByteArray} (hx : l[i]? = some x) : ∃ g, oa = some ⟨g, 0, none⟩ ∧ base ≤ g ∧ g < w.heap.size ∧ w.cell? ⟨g, i, none⟩ = some (.string x) ∧ w.frozen? ⟨g, i, none⟩ = false := by
  have hl := (List.getElem?_eq_some_iff.1 hx).1
  rcases h.2 with ⟨e, h0⟩ | ⟨g, cap', cur, e, h0, hg, h1, h2, h3, h4⟩
  · omega
  · have e2 := (Value.slice.inj e).1
    refine ⟨g, e2, h0, lt_of_block hg, ?_, by simp [World.frozen?, hg]⟩
    have hc : (cur.toList.take (l.length * 1))[i]? = some (.string x) := by rw [h4, List.getElem?_map, hx]; rfl
    rw [List.getElem?_take_of_lt (by omega)] at hc
    rw [cell_of_row _ _ _ _ _ _ hg]
    simpa using hc
theorem OwnL.lv {w : World} {base : Nat} {oa : Option Addr} {cap : Nat} {l : List ByteArray} (h : OwnL w base (.slice oa l.length cap) l) {G : Nat → Prop} (hG : ∀ k, (Value.slice oa l.length cap).ownBlock = some k → ¬ G k) : Lv w G oa l := fun i x hx => by
  obtain ⟨g, rfl, _, h2, h3, _⟩ := h.cell hx
  exact ⟨g, 0, rfl, h2, hG g rfl, by rw [Nat.zero_add]; exact h3⟩
/-- Are the first of two lists one? -/
def isB (a b : List ByteArray) (j : Nat) : Bool := decide (a.length = b.length) && decide (a.take j = b.take j)
theorem isB_succ (a b : List ByteArray) (j : Nat) (ha : j < a.length) (hb : j < b.length) : isB a b (j + 1) = (isB a b j && decide (a[j] = b[j])) := by
  unfold isB
  rw [Bool.and_assoc]
  congr 1
  rw [List.take_add_one, List.take_add_one, List.getElem?_eq_getElem ha, List.getElem?_eq_getElem hb, ← Bool.decide_and]
  apply decide_eq_decide.2
  constructor
  · intro e
    have := List.append_inj' e (by simp)
    exact ⟨this.1, by simpa using this.2⟩
  · rintro ⟨e1, e2⟩
    rw [e1, e2]
theorem isB_all (a b : List ByteArray) : isB a b (min a.length b.length) = decide (a = b) := by
  unfold isB
  rw [← Bool.decide_and]
  apply decide_eq_decide.2
  constructor
  · rintro ⟨e1, e2⟩
    rw [← e1, Nat.min_self, List.take_length] at e2
    rw [e2, List.take_of_length_le (by omega)]
  · rintro rfl
    exact ⟨rfl, rfl⟩
theorem roots_cmp {S S' : VS} {a b : List ByteArray} (ha : a.length ≤ 200) (hb : b.length ≤ 200) (ta : TreeInK (idealK.D S) (idealK.h S) a (hgt a.length)) (da : idealK.D S (rootT a.length (topS (idealK.h S) a))) (hx : idealK.ext S S') (tb : TreeInK (idealK.D S') (idealK.h S') b (hgt b.length)) (db : idealK.D S' (rootT b.length (topS (idealK.h S') b))) (hn : idealK.n S' ≤ 2000000) : decide (idealK.h S (rootT a.length (topS (idealK.h S) a)) = idealK.h S' (rootT b.length (topS (idealK.h S') b))) = decide (a = b) := by
  have ta' : TreeIn (idealK.D S) (idealK.h S) a := ta
  have e1 := top_same ta' fun x h => (hx x h).2
  have e2 := (hx _ da).2
  rw [← e1] at e2 da
  have d2 := (hx _ da).1
  rw [← e1, ← (show idealK.h S' (rootT a.length (topS (idealK.h S') a)) = idealK.h S (rootT a.length (topS (idealK.h S') a)) from e2)]
  apply decide_eq_decide.2
  exact roots_unlike (ta'.mono hx) tb (fun x h => idealOk.size S' x h hn) (fun x y h1 h2 e => ideal_inj S' hn x y h1 h2 e) (by omega) (by omega) d2 db
end Go.Proofs.YtgokehbdappcdaaDoor
