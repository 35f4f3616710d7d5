/- An image that grows; block's Look, at an image and an ideal vault that lie in memory. -/
import Derived.Test.YtkopbpbmfdogfaaDoorBkAtL
import Derived.Maps.AppendAt
import Derived.Deep.AppendLies
namespace Go.Proofs.YtkopbpbmfdogfaaDoor
set_option maxRecDepth 20000
open Go.RowKit

def Apart (v : Value) (b : Nat) : Prop := v.ownBlock ≠ some b
def Apart2 (v u : Value) : Prop := ∀ g, v.ownBlock = some g → u.ownBlock ≠ some g
/-- An image that grows. -/
structure ImgMid (base : Nat) (w : World) (M : Nat) (rv mv : Value) (raws : List ByteArray) (masks : List Int) : Prop where
  row : Row w M 28 [rv, mv]
  raws : w.ownsRow 0 9 1 rv raws.length (raws.map Value.string)
  masks : w.ownsRow 0 3 1 mv masks.length (masks.map (Value.int .i64))
  low : base ≤ M
  fR : ∀ g, rv.ownBlock = some g → base ≤ g
  fM : ∀ g, mv.ownBlock = some g → base ≤ g
  rM : Apart rv M
  mM : Apart mv M
  rm : Apart2 rv mv
theorem ImgMid.keep {base : Nat} {w w' : World} {M : Nat} {rv mv : Value} {raws : List ByteArray} {masks : List Int} (h : ImgMid base w M rv mv raws masks) (hb : ∀ k, base ≤ k → k < w.heap.size → w'.heap[k]? = w.heap[k]?) : ImgMid base w' M rv mv raws masks :=
  { h with row := (hb M h.low h.row.lt).trans h.row, raws := owns_keep h.raws fun g hg => hb g (h.fR g hg) (owns_lt h.raws g hg), masks := owns_keep h.masks fun g hg => hb g (h.fM g hg) (owns_lt h.masks g hg) }
theorem ImgMid.low_mono {base b2 : Nat} {w : World} {M : Nat} {rv mv : Value} {raws : List ByteArray} {masks : List Int} (h : ImgMid base w M rv mv raws masks) (hb : b2 ≤ base) : ImgMid b2 w M rv mv raws masks :=
  { h with low := Nat.le_trans hb h.low, fR := fun g hg => Nat.le_trans hb (h.fR g hg), fM := fun g hg => Nat.le_trans hb (h.fM g hg) }
theorem ImgMid.growR {base : Nat} {w w' : World} {M : Nat} {rv mv v' : Value} {raws : List ByteArray} {masks : List Int} {x : ByteArray} (h : ImgMid base w M rv mv raws masks) (hbase : base ≤ w.heap.size) (hown : w'.ownsRow 0 9 1 v' (raws.length + 1) (raws.map Value.string ++ [.string x])) (hg : w.grownBy w' rv.ownBlock) (hat : v'.ownBlock = rv.ownBlock ∨ v'.ownBlock = some w.heap.size) :
    w'.cell? ⟨M, 0, none⟩ = some rv ∧ w'.frozen? ⟨M, 0, none⟩ = false ∧ ImgMid base (w'.setCell ⟨M, 0, none⟩ v') M v' mv (raws ++ [x]) masks := by
  have hB := h.row.lt
  have r1 : Row w' M _ _ := (hg.block M h.row.lt (fun e => h.rM e.symm)).trans h.row
  have r3 := owns_keep (w' := w') h.masks fun g hg' => hg.block g (owns_lt h.masks g hg') (fun e => h.rm g e.symm hg')
  have nB : Apart v' M := by
    rcases hat with e | e
    · unfold Apart; rw [e]; exact h.rM
    · unfold Apart; rw [e]; intro e2; cases e2; omega
  have nD : Apart2 v' mv := fun g hg' e2 => by
    rcases hat with e | e
    · exact h.rm g (by rw [← e]; exact hg') e2
    · rw [e] at hg'; cases hg'; have := owns_lt h.masks _ e2; omega
  refine ⟨r1.cell 0, r1.frozen 0, r1.setL 0 v', ?_, owns_off r3 h.mM _ _, h.low, fun g hg' => ?_, h.fM, nB, h.mM, nD⟩
  · have := owns_off hown nB 0 v'
    rw [List.length_append, List.map_append]
    exact this
  · rcases hat with e | e
    · exact h.fR g (by rw [← e]; exact hg')
    · rw [e] at hg'; cases hg'; exact hbase
theorem zero_image (w : World) : (zeroValue 28).run Tryd.prog w = .ok (.agg #[.slice none 0 0, .slice none 0 0]) w := (zero_of_info (n := 2) (by kernel_rfl)).1 w
theorem apart_cell {w : World} {e : TypeId} {n g cap i : Nat} {xs : List Value} {u : Value} (h : w.ownsRow 0 e 1 (.slice (some ⟨g, 0, none⟩) n cap) n xs) (hi : xs[i]? = some u) : w.cell? ⟨g, i, none⟩ = some u := by
  obtain ⟨g', cap', e', _, hc⟩ := owns_form h (by have := (List.getElem?_eq_some_iff.1 hi).1; have := h.1; omega)
  cases e'
  exact hc i u hi
theorem list1_of_owns {α : Type} {f : α → Value} {w : World} {e : TypeId} {v : Value} {l : List α} (h : w.ownsRow 0 e 1 v l.length (l.map f)) : List1 f w v l := by
  rcases h.2 with ⟨rfl, hn⟩ | ⟨g, cap, cur, rfl, _, hg, _⟩
  · exact .inl ⟨none, 0, rfl, List.length_eq_zero_iff.1 hn⟩
  · exact .inr ⟨g, 0, cap, rfl, lt_of_block hg, fun i x hx => by rw [Nat.zero_add]; exact (apart_cell h (by rw [List.getElem?_map, hx]; rfl))⟩
theorem List1.below {α : Type} {f : α → Value} {W W' : World} {v : Value} {l : List α} (h : List1 f W v l) (hb : Below W.heap.size W W') : List1 f W' v l := by
  rcases h with h | ⟨g, o, cap, e, hg, hx⟩
  · exact .inl h
  · exact .inr ⟨g, o, cap, e, Nat.lt_of_lt_of_le hg hb.size, fun i x hi => (cell_kept_ (hb.block g hg) _).trans (hx i x hi)⟩
/-- What Told and Look tell. -/
def toldA (T : VS) (r : ByteArray) (a : Int) : Array Value := if bopenE T r = 0 ∧ (bopenH T r).v1 = a then readA true (bopenH T r) (bopenS T r) else noneA
def lookA (T : VS) (raws : List ByteArray) (masks : List Int) (a : Int) : Array Value := if atM raws masks a = 0 then toldA T (atS raws masks a) a else noneA
theorem readA_one2 (ok : Bool) (h : Hd) (s : ByteArray) : (readA ok h s).all (·.oneCell') = true := by simp [readA, Value.oneCell']
theorem toldA_ok (T : VS) (r : ByteArray) (a : Int) : (toldA T r a).size = 10 ∧ (toldA T r a).all (·.oneCell') = true := by
  unfold toldA
  split
  · exact ⟨rfl, readA_one2 _ _ _⟩
  · exact ⟨rfl, readA_one2 _ _ _⟩
theorem look_ret (tmps : Array Value) (g : Nat) (w' : World) (cs : Array Value) (R : Ending → World → Prop) (h1 : tmps.getD 6 undef = .pointer (some ⟨g, 0, none⟩)) (hg : w'.heap[g]? = some (.cells cs 36 (0, 0))) (hs : cs.size = 10) (hR : R (.returned (.agg cs)) w') :
    bodyPost Tryd.prog Tryd.f7 R .ret { tmps := tmps, defers := [] } w' :=
  bodyPost_ret (v := .agg cs) (results_cell_row Tryd.results7 tmps w' g 36 cs (0, 0) _ h1 hg Tryd.underlying36 rfl (by rw [hs]; kernel_rfl)) rfl hR
set_option maxHeartbeats 4000000 in
theorem look_any (B : Nat) (F : Nat → Prop) (T : VS) (hl : T.seals.length ≤ 1000000) (oa ob : Option Addr) (ca cb : Nat) (raws : List ByteArray) (masks : List Int) (a : Int) (w : World) (hp : Ideal w F B T) (h1 : List1 Value.string w (.slice oa raws.length ca) raws) (h2 : List1 (Value.int .i64) w (.slice ob masks.length cb) masks) :
    Calls Tryd.prog 7 #[.pointer (some ⟨B, 0, none⟩), .agg #[.slice oa raws.length ca, .slice ob masks.length cb], .int .i64 a] w fun e w' => e = .returned (.agg (lookA T raws masks a)) ∧ Below w.heap.size w w' := by
  obtain ⟨w0, hw0⟩ : ∃ w0, (w.alloc (.cells #[.slice oa raws.length ca, .slice ob masks.length cb] 28)).alloc (.cells #[.bool false, .int .i64 0, .int .i64 0, .int .i64 0, .int .i64 0, .int .i64 0, .int .i64 0, .int .i64 0, .int .i64 0, .string ⟨#[]⟩] 36) = w0 := ⟨_, rfl⟩
  have e1 : (w.alloc (.cells #[.slice oa raws.length ca, .slice ob masks.length cb] 28)).heap.size = w.heap.size + 1 := by simp
  have g0 : w0.heap[w.heap.size + 1]? = some (.cells #[.bool false, .int .i64 0, .int .i64 0, .int .i64 0, .int .i64 0, .int .i64 0, .int .i64 0, .int .i64 0, .int .i64 0, .string ⟨#[]⟩] 36 (0, 0)) := by rw [← hw0, ← e1]; exact heap_alloc_new _ _
  have r0 : Row w0 w.heap.size 28 [.slice oa raws.length ca, .slice ob masks.length cb] := by rw [← hw0]; exact (Below.heap_alloc _ _ _ (by rw [e1]; omega)).trans (heap_alloc_new w _)
  have hb0 : Below w.heap.size w w0 := by rw [← hw0]; exact ((Below.refl _ _).alloc (Nat.le_refl _) _).alloc (by rw [e1]; omega) _
  have hat := at_any w0 oa ob ca cb raws masks a (h1.below hb0) (h2.below hb0)
  have c0 : w0.cell? ⟨w.heap.size, 0, none⟩ = some (.slice oa raws.length ca) := r0.cell 0
  have c1 : w0.cell? ⟨w.heap.size, 1, none⟩ = some (.slice ob masks.length cb) := r0.cell 1
  have HL : Hid (lookA T raws masks a = if atM raws masks a = 0 then toldA T (atS raws masks a) a else noneA) := rfl
  have H0 : Hid (Below w.heap.size w w0 ∧ Ideal w0 F B T) := ⟨hb0, hp.below hb0⟩
  have hW0 : Hid ((w.alloc (.cells #[.slice oa raws.length ca, .slice ob masks.length cb] 28)).alloc (.cells #[.bool false, .int .i64 0, .int .i64 0, .int .i64 0, .int .i64 0, .int .i64 0, .int .i64 0, .int .i64 0, .int .i64 0, .string ⟨#[]⟩] 36) = w0) := hw0
  have HR : Hid (∀ w' cs, Below w.heap.size w w' → Below w.heap.size w (w'.setRow (w.heap.size + 1) cs)) := fun w' cs h => h.trans ⟨rfl, rfl, rfl, by simp [World.setRow], fun k hk => setRow_other _ _ _ _ (by omega)⟩
  generalize atS raws masks a = r at *
  generalize atM raws masks a = m at *
  generalize lookA T raws masks a = A at *
  generalize raws.length = rl at *
  generalize masks.length = ml at *
  clear h1 h2 hp hb0 r0 e1 hw0
  by_cases hm : m = 0
  · rw [Hid, if_pos hm] at HL
    subst hm
    have htold := fun w h => told_any B F T r a hl w h
    have hto := toldA_ok T r a
    rw [← HL] at hto
    have HT : Hid ((if bopenE T r = 0 ∧ (bopenH T r).v1 = a then readA true (bopenH T r) (bopenS T r) else noneA) = A) := HL.symm
    simp only [HT.out] at htold
    obtain ⟨hA, hA1⟩ := hto
    clear HL HT
    go_enter Tryd.func7, Tryd.ntmps7
    go_wp2_with fail
    try rw [hW0.out]
    refine hat.mono ?_
    rintro e w1 ⟨rfl, hb1⟩
    have g1 := (hb1.block _ (lt_of_block g0)).trans g0
    have H1 : Hid (Below w.heap.size w w1 ∧ Ideal w1 F B T) := ⟨H0.out.1.trans (hb1.mono H0.out.1.size), H0.out.2.below hb1⟩
    clear hat hb1 g0 c0 c1 hW0
    go_wp2_with fail
    refine (htold _ H1.out.2).mono ?_
    rintro e w2 ⟨rfl, hb2⟩
    have g2 := (hb2.block _ (lt_of_block g1)).trans g1
    have HF : Hid _ := HR.out w2 A (H1.out.1.trans (hb2.mono H1.out.1.size))
    clear htold hb2 g1 HR
    go_wp2_with (refine wpList_store_row rfl 36 _ _ rfl (w.heap.size + 1) A rfl rfl 36 _ g2 (by rw [hA]; kernel_rfl) (by rw [hA]; rfl) hA1 ?_)
    exact look_ret _ (w.heap.size + 1) _ A _ rfl (setRow_heap _ _ _ _ _ _ g2) hA ⟨rfl, HF.out⟩
  · rw [Hid, if_neg hm] at HL
    subst HL
    simp only [noneA, readA, Hd.zero]
    have hm1 : (m != 0) = true := bne_iff_ne.2 hm
    go_enter Tryd.func7, Tryd.ntmps7
    go_wp2_with fail
    try rw [hW0.out]
    refine hat.mono ?_
    rintro e w1 ⟨rfl, hb1⟩
    have g1 := (hb1.block _ (lt_of_block g0)).trans g0
    have HF : Hid _ := HR.out w1 #[.bool false, .int .i64 0, .int .i64 0, .int .i64 0, .int .i64 0, .int .i64 0, .int .i64 0, .int .i64 0, .int .i64 0, .string ⟨#[]⟩] (H0.out.1.trans (hb1.mono H0.out.1.size))
    clear hat hb1 g0 c0 c1 hW0 HR
    go_wp2_with (refine wpList_store_row rfl 36 _ _ rfl (w.heap.size + 1) #[.bool false, .int .i64 0, .int .i64 0, .int .i64 0, .int .i64 0, .int .i64 0, .int .i64 0, .int .i64 0, .int .i64 0, .string ⟨#[]⟩] rfl rfl 36 _ g1 (by kernel_rfl) rfl (by simp [Value.oneCell']) ?_)
    exact look_ret _ (w.heap.size + 1) _ _ _ rfl (setRow_heap _ _ _ _ _ _ g1) rfl ⟨rfl, HF.out⟩
end Go.Proofs.YtkopbpbmfdogfaaDoor
