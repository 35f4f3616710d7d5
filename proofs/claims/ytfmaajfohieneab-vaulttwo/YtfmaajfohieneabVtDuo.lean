/- The ideal vault and the document's, side by side: a step leaves them alike. -/
import Derived.Test.YtfmaajfohieneabVtStep
import Derived.Test.YtfmaajfohieneabVtRefSeal
namespace Go.Proofs.Ytfmaajfohieneab
open Go.RowKit

def DuoV (w : World) (F : Nat → Prop) (B1 B2 : Nat) (S : VS) : Prop :=
  ∃ F1 F2 : Nat → Prop, Ideal w F1 B1 S ∧ RefV w F2 B2 S ∧ (∀ k, F1 k → F k) ∧ (∀ k, F2 k → F k) ∧ (∀ k, F1 k → ¬ F2 k) ∧ ∀ k, F1 k ∨ F2 k → k < w.heap.size
theorem DuoV.keep {w w' : World} {F : Nat → Prop} {B1 B2 : Nat} {S : VS} (h : DuoV w F B1 B2 S) (hs : w.heap.size ≤ w'.heap.size) (hk : ∀ k, k < w.heap.size → F k → w'.heap[k]? = w.heap[k]?) : DuoV w' F B1 B2 S := by
  obtain ⟨F1, F2, h1, h2, s1, s2, dj, lt⟩ := h
  exact ⟨F1, F2, h1.keep fun k hk' hf => hk k hk' (s1 k hf), h2.keep fun k hk' hf => hk k hk' (s2 k hf), s1, s2, dj, fun k hf => Nat.lt_of_lt_of_le (lt k hf) hs⟩
theorem DuoV.mono {w : World} {F F' : Nat → Prop} {B1 B2 : Nat} {S : VS} (h : DuoV w F B1 B2 S) (hF : ∀ k, k < w.heap.size → F k → F' k) : DuoV w F' B1 B2 S := by
  obtain ⟨F1, F2, h1, h2, s1, s2, dj, lt⟩ := h
  exact ⟨F1, F2, h1, h2, fun k hf => hF k (lt k (.inl hf)) (s1 k hf), fun k hf => hF k (lt k (.inr hf)) (s2 k hf), dj, lt⟩
theorem DuoV.below {w w' : World} {F : Nat → Prop} {B1 B2 : Nat} {S : VS} (h : DuoV w F B1 B2 S) (hb : Below w.heap.size w w') : DuoV w' F B1 B2 S := h.keep hb.size fun k hk _ => hb.block k hk
def stepV (S : VS) (x : OpV) : VS :=
  if x.kind = 1 then hashP S (cutI x.text 600) else if x.kind = 2 then macP S (cutI x.label 100) (cutI x.text 600) else if x.kind = 4 then sealP S x.salt x.nonce (cutI x.label 100) (cutI x.text 600) else S
theorem stepV_len (S : VS) (x : OpV) : (stepV S x).texts.length ≤ S.texts.length + 1 ∧ (stepV S x).marks.length ≤ S.marks.length + 1 ∧ (stepV S x).seals.length ≤ S.seals.length + 1 := by
  unfold stepV
  by_cases h1 : x.kind = 1
  · rw [if_pos h1]
    exact ⟨addN_length _ _, Nat.le_succ _, Nat.le_succ _⟩
  rw [if_neg h1]
  by_cases h2 : x.kind = 2
  · rw [if_pos h2]
    exact ⟨Nat.le_succ _, addN_length _ _, Nat.le_succ _⟩
  rw [if_neg h2]
  by_cases h4 : x.kind = 4
  · rw [if_pos h4]
    unfold sealP
    split
    · exact ⟨Nat.le_succ _, Nat.le_succ _, addN_length _ _⟩
    · exact ⟨Nat.le_succ _, Nat.le_succ _, Nat.le_succ _⟩
  rw [if_neg h4]
  exact ⟨Nat.le_succ _, Nat.le_succ _, Nat.le_succ _⟩

/-- A new ideal vault, and the document's. -/
theorem refv_new (w : World) : RefV (w.alloc (.cells #[.bool true, .string ⟨#[]⟩, .slice none 0 0, .slice none 0 0, .slice none 0 0] 30)) (fun k => k = w.heap.size) w.heap.size newV :=
  ⟨.slice none 0 0, .slice none 0 0, .slice none 0 0, heap_alloc_new w _, World.ownsRow_nil _ _ _ _, World.ownsRow_nil _ _ _ _, World.ownsRow_nil _ _ _ _, rfl, (fun _ h => by cases h), (fun _ h => by cases h), (fun _ h => by cases h), (fun h => by cases h), (fun h => by cases h), (fun h => by cases h), (fun _ h => by cases h), (fun _ h => by cases h), (fun _ h => by cases h)⟩
theorem duo_new {w w1 : World} {B1 : Nat} (h1 : Ideal w1 (fun k => w.heap.size ≤ k ∧ k < w1.heap.size) B1 newV) (hb : Below w.heap.size w w1) :
    DuoV (w1.alloc (.cells #[.bool true, .string ⟨#[]⟩, .slice none 0 0, .slice none 0 0, .slice none 0 0] 30)) (fun k => w.heap.size ≤ k ∧ k < w1.heap.size + 1) B1 w1.heap.size newV := by
  have hs := hb.size
  refine ⟨_, _, h1.below ((Below.refl w1.heap.size w1).alloc (Nat.le_refl _) _), refv_new w1, fun k h => ⟨h.1, by omega⟩, fun k h => by subst h; exact ⟨hs, Nat.lt_succ_self _⟩, fun k h1 h2 => by omega, fun k h => ?_⟩
  have : (w1.alloc (.cells #[.bool true, .string ⟨#[]⟩, .slice none 0 0, .slice none 0 0, .slice none 0 0] 30)).heap.size = w1.heap.size + 1 := by simp
  rw [this]
  omega
/-- Behind the first vault's call: it stands, the document's stands as it stood, and the box of the step. -/
structure MidV (w : World) (F F1 F2 : Nat → Prop) (B1 B2 : Nat) (S S' : VS) (b : Nat) (O : Obj) (W : World) : Prop where
  one : Ideal W F1 B1 S'
  two : RefV W F2 B2 S
  box : W.heap[b]? = some O
  touch : Touch F w W
/-- Behind both. -/
def EndV (w : World) (F : Nat → Prop) (B1 B2 : Nat) (S' : VS) (b : Nat) (O : Obj) (W : World) : Prop := DuoV W (grow F w W) B1 B2 S' ∧ W.heap[b]? = some O ∧ Touch F w W

section
variable {w wb W : World} {F F1 F2 : Nat → Prop} {B1 B2 : Nat} {S S' : VS} {O : Obj}
theorem MidV.of (h1 : Ideal W F1 B1 S') (ht : Touch F1 wb W) (hb : Below w.heap.size w wb) (hO : wb.heap[w.heap.size]? = some O) (h2 : RefV wb F2 B2 S) (s1 : ∀ k, F1 k → F k) (dj : ∀ k, F1 k → ¬ F2 k) (lt : ∀ k, F1 k ∨ F2 k → k < w.heap.size) : MidV w F F1 F2 B1 B2 S S' w.heap.size O W := by
  have hlt := lt_of_block hO
  refine ⟨h1, h2.keep fun k hk hf => ht.2 k hk fun h => dj k h hf, (ht.2 _ hlt fun h => absurd (lt _ (.inl h)) (Nat.lt_irrefl _)).trans hO, ⟨(hb.mono (Nat.zero_le _)).trans ht.1, fun k hk hn => (ht.2 k (Nat.lt_of_lt_of_le hk hb.size) fun h => hn (s1 k h)).trans (hb.block k hk)⟩⟩
/-- The document's call grew its blocks. -/
theorem MidV.fin {W' : World} {b : Nat} (h : MidV w F F1 F2 B1 B2 S S' b O W) (h2 : RefV W' (grow F2 W W') B2 S') (ht : Touch F2 W W') (s1 : ∀ k, F1 k → F k) (s2 : ∀ k, F2 k → F k) (dj : ∀ k, F1 k → ¬ F2 k) (lt : ∀ k, F1 k ∨ F2 k → k < w.heap.size) (hb : b < W.heap.size) (nb : ¬ F2 b) : EndV w F B1 B2 S' b O W' := by
  have hs := h.touch.size
  have hs2 := ht.size
  refine ⟨⟨F1, fun k => grow F2 W W' k ∧ k < W'.heap.size, h.one.keep fun k hk hf => ht.2 k hk (dj k hf), h2.mono fun k hk hf => ⟨hf, hk⟩, fun k hf => .inl (s1 k hf), fun k hf => ?_, fun k h1 h2 => ?_, fun k hf => ?_⟩, (ht.2 b hb nb).trans h.box, ⟨h.touch.1.trans ht.1, fun k hk hn => (ht.2 k (Nat.lt_of_lt_of_le hk hs) fun hf => hn (s2 k hf)).trans (h.touch.2 k hk hn)⟩⟩
  · rcases hf.1 with hf' | hf'
    · exact .inl (s2 k hf')
    · exact .inr ⟨Nat.le_trans hs hf'.1, hf.2⟩
  · have := lt k (.inl h1)
    rcases h2.1 with h2 | h2
    · exact dj k h1 h2
    · omega
  · rcases hf with hf | hf
    · have := lt k (.inl hf); omega
    · exact hf.2
/-- A call of the document's that changes nothing that was there. -/
theorem MidV.same {W' : World} {b : Nat} (h : MidV w F F1 F2 B1 B2 S S b O W) (hb : Below W.heap.size W W') (s1 : ∀ k, F1 k → F k) (s2 : ∀ k, F2 k → F k) (dj : ∀ k, F1 k → ¬ F2 k) (lt : ∀ k, F1 k ∨ F2 k → k < w.heap.size) (hb2 : b < W.heap.size) (nb : ¬ F2 b) : EndV w F B1 B2 S b O W' :=
  h.fin ((h.two.below hb).mono fun _ _ hf => .inl hf) (Touch.of_below hb) s1 s2 dj lt hb2 nb
end

theorem step_duo (B1 B2 : Nat) (F : Nat → Prop) (S : VS) (x : OpV) (hx : x.Ok) (ht : S.texts.length ≤ 1000000) (hm : S.marks.length ≤ 1000000) (hs : S.seals.length ≤ 1000000) (w : World) (hp : DuoV w F B1 B2 S) :
    Calls Try.prog 6 #[.pointer (some ⟨B1, 0, none⟩), .pointer (some ⟨B2, 0, none⟩), .agg x.cells.toArray] w fun e w' => e = .returned (.bool true) ∧ DuoV w' (grow F w w') B1 B2 (stepV S x) ∧ Touch F w w' := by
  obtain ⟨F1, F2, h1, h2, s1, s2, dj, lt⟩ := hp
  have hnb : ¬ F2 w.heap.size := fun h => absurd (lt _ (.inr h)) (Nat.lt_irrefl _)
  have z6 := fun s => cutI_size s 600
  have z1 := fun s => cutI_size s 100
  have z4 := fun s => cutI_size s 40
  have z6 : ∀ s, (cutI s 600).size ≤ 600 := z6
  have z1 : ∀ s, (cutI s 100).size ≤ 100 := z1
  have z4 : ∀ s, (cutI s 40).size ≤ 40 := z4
  obtain ⟨k, z, n, l, t, g⟩ := x
  have hz : (Lit.int .i64 z).wf = true := hx.salt
  have hn : n.size ≤ 140737488355328 := hx.nonce
  have fitt : fitT (cutI t 600) := by have := z6 t; unfold fitT; omega
  have fitl : fitM (cutI l 100, cutI t 600) := ⟨by have := z1 l; show (cutI l 100).size ≤ _; omega, by have := z6 t; show (cutI t 600).size ≤ _; omega⟩
  have fits : fitF ⟨z, n, cutI l 100, cutI t 600⟩ := ⟨hz, hn, fitl.1, fitl.2⟩
  have size5 : (cutI t 600 ++ cutI g 40).size ≤ 640 := by have := z6 t; have := z4 g; rw [ByteArray.size_append]; omega
  have fit5 : fitF ⟨z, n, cutI l 100, cutI t 600 ++ cutI g 40⟩ := ⟨hz, hn, fitl.1, by show (cutI t 600 ++ cutI g 40).size ≤ _; omega⟩
  have hb : ∀ k, Below w.heap.size w (w.alloc (.cells #[.int .i64 k, .int .i64 z, .string n, .string l, .string t, .string g] 33)) := fun k => (Below.refl w.heap.size w).alloc (Nat.le_refl _) _
  have hO : ∀ k, (w.alloc (.cells #[.int .i64 k, .int .i64 z, .string n, .string l, .string t, .string g] 33)).heap[w.heap.size]? = some (.cells #[.int .i64 k, .int .i64 z, .string n, .string l, .string t, .string g] 33 (0, 0)) := fun k => heap_alloc_new w _
  simp only [OpV.cells]
  by_cases k1 : k = 1
  · subst k1
    refine (step_k1 B1 B2 z n l t g w (hashS S (cutI t 600)) (MidV w F F1 F2 B1 B2 S (hashP S (cutI t 600)) w.heap.size (.cells #[.int .i64 1, .int .i64 z, .string n, .string l, .string t, .string g] 33 (0, 0))) (EndV w F B1 B2 (hashP S (cutI t 600)) w.heap.size (.cells #[.int .i64 1, .int .i64 z, .string n, .string l, .string t, .string g] 33 (0, 0)))
      ((vhash_any B1 F1 S (cutI t 600) fitt ht _ (h1.below (hb 1))).mono fun e w' ⟨he, hi, hT⟩ => ⟨he, MidV.of hi hT (hb 1) (hO 1) (h2.below (hb 1)) s1 dj lt⟩)
      (fun W hM => (rhash_any B2 F2 S (cutI t 600) ht W hM.two).mono fun e w' ⟨he, hr, hT⟩ => ⟨he, hM.fin hr hT s1 s2 dj lt (lt_of_block hM.box) hnb⟩)).mono fun e w' ⟨he, hE⟩ => ⟨he, hE.1, hE.2.2⟩
  by_cases k2 : k = 2
  · subst k2
    refine (step_k2 B1 B2 z n l t g w (macS S (cutI l 100) (cutI t 600)) (MidV w F F1 F2 B1 B2 S (macP S (cutI l 100) (cutI t 600)) w.heap.size (.cells #[.int .i64 2, .int .i64 z, .string n, .string l, .string t, .string g] 33 (0, 0))) (EndV w F B1 B2 (macP S (cutI l 100) (cutI t 600)) w.heap.size (.cells #[.int .i64 2, .int .i64 z, .string n, .string l, .string t, .string g] 33 (0, 0)))
      ((vmac_any B1 F1 S (cutI l 100) (cutI t 600) fitl hm _ (h1.below (hb 2))).mono fun e w' ⟨he, hi, hT⟩ => ⟨he, MidV.of hi hT (hb 2) (hO 2) (h2.below (hb 2)) s1 dj lt⟩)
      (fun W hM => (rmac_any B2 F2 S (cutI l 100) (cutI t 600) hm W hM.two).mono fun e w' ⟨he, hr, hT⟩ => ⟨he, hM.fin hr hT s1 s2 dj lt (lt_of_block hM.box) hnb⟩)).mono fun e w' ⟨he, hE⟩ => ⟨he, hE.1, hE.2.2⟩
  by_cases k3 : k = 3
  · subst k3
    refine (step_k3 B1 B2 z n l t g w (madeB S (cutI l 100) (cutI t 600) g) (MidV w F F1 F2 B1 B2 S S w.heap.size (.cells #[.int .i64 3, .int .i64 z, .string n, .string l, .string t, .string g] 33 (0, 0))) (EndV w F B1 B2 S w.heap.size (.cells #[.int .i64 3, .int .i64 z, .string n, .string l, .string t, .string g] 33 (0, 0)))
      ((vmade_any B1 F1 S (cutI l 100) (cutI t 600) g fitl hm _ ((h1.below (hb 3)).below (Below.refl _ _).drew)).mono fun e w' ⟨he, hB⟩ => ⟨he, MidV.of ((h1.below (hb 3)).below ((Below.refl _ _).drew.trans hB)) (Touch.of_below ((Below.refl _ _).drew.trans hB)) (hb 3) (hO 3) (h2.below (hb 3)) s1 dj lt⟩)
      (fun W hM => (rmade_any B2 F2 S (cutI l 100) (cutI t 600) g hm W hM.two).mono fun e w' ⟨he, hB⟩ => ⟨he, hM.same hB s1 s2 dj lt (lt_of_block hM.box) hnb⟩)
      (fun W hM => hM.box) (fun W hE => hE.2.1)).mono fun e w' ⟨he, hE⟩ => ⟨he, hE.1, hE.2.2⟩
  by_cases k4 : k = 4
  · subst k4
    refine (step_k4 B1 B2 z n l t g w (sealS S z n (cutI l 100) (cutI t 600)) (sealE z n) (MidV w F F1 F2 B1 B2 S (sealP S z n (cutI l 100) (cutI t 600)) w.heap.size (.cells #[.int .i64 4, .int .i64 z, .string n, .string l, .string t, .string g] 33 (0, 0))) (EndV w F B1 B2 (sealP S z n (cutI l 100) (cutI t 600)) w.heap.size (.cells #[.int .i64 4, .int .i64 z, .string n, .string l, .string t, .string g] 33 (0, 0)))
      ((vseal_any B1 F1 S z n (cutI l 100) (cutI t 600) fits hs _ (h1.below (hb 4))).mono fun e w' ⟨he, hi, hT⟩ => ⟨he, MidV.of hi hT (hb 4) (hO 4) (h2.below (hb 4)) s1 dj lt⟩)
      (fun W hM => (rseal_any B2 F2 S z n (cutI l 100) (cutI t 600) fitl.2 hs W hM.two).mono fun e w' ⟨he, hr, hT⟩ => ⟨he, hM.fin hr hT s1 s2 dj lt (lt_of_block hM.box) hnb⟩)
      (fun W hM => hM.box)).mono fun e w' ⟨he, hE⟩ => ⟨he, hE.1, hE.2.2⟩
  by_cases k5 : k = 5
  · subst k5
    refine (step_k5 B1 B2 z n l t g w (openS S z n (cutI l 100) (cutI t 600 ++ cutI g 40)) (openE S z n (cutI l 100) (cutI t 600 ++ cutI g 40)) (MidV w F F1 F2 B1 B2 S S w.heap.size (.cells #[.int .i64 5, .int .i64 z, .string n, .string l, .string t, .string g] 33 (0, 0))) (EndV w F B1 B2 S w.heap.size (.cells #[.int .i64 5, .int .i64 z, .string n, .string l, .string t, .string g] 33 (0, 0)))
      ((vopen_any B1 F1 S z n (cutI l 100) (cutI t 600 ++ cutI g 40) fit5 hs _ (h1.below (hb 5))).mono fun e w' ⟨he, hB⟩ => ⟨he, MidV.of ((h1.below (hb 5)).below hB) (Touch.of_below hB) (hb 5) (hO 5) (h2.below (hb 5)) s1 dj lt⟩)
      (fun W hM => (ropen_any B2 F2 S z n (cutI l 100) (cutI t 600 ++ cutI g 40) (by omega) hs W hM.two).mono fun e w' ⟨he, hB⟩ => ⟨he, hM.same hB s1 s2 dj lt (lt_of_block hM.box) hnb⟩)
      (fun W hM => hM.box)).mono fun e w' ⟨he, hE⟩ => ⟨he, hE.1, hE.2.2⟩
  refine (step_k0 B1 B2 k z n l t g w (by omega)).mono fun e w' ⟨he, hB⟩ => ⟨he, ?_, Touch.of_below hB⟩
  have e0 : stepV S ⟨k, z, n, l, t, g⟩ = S := by
    unfold stepV
    rw [if_neg k1, if_neg k2, if_neg k4]
  rw [e0]
  exact (DuoV.below ⟨F1, F2, h1, h2, s1, s2, dj, lt⟩ hB).mono fun k _ hf => .inl hf
end Go.Proofs.Ytfmaajfohieneab
