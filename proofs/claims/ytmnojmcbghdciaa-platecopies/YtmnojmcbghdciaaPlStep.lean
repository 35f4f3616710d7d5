/- The law's step: both devices do a step, answer alike, and stand alike behind it. -/
import Derived.Test.YtmnojmcbghdciaaPlRefNew
import Derived.Test.YtmnojmcbghdciaaPlOps
namespace Go.Proofs.Ytmnojmcbghdciaa
open Go.RowKit

/-- Two devices, plate's and the document's, in blocks of F, apart. -/
def PairF (w : World) (F : Nat → Prop) (B1 B2 : Nat) (S1 S2 : PS) : Prop := ∃ F1 F2, Plate w F1 B1 S1 ∧ RefP w F2 B2 S2 ∧ (∀ k, F1 k → F k) ∧ (∀ k, F2 k → F k) ∧ (∀ k, F1 k → ¬ F2 k) ∧ ∀ k, F1 k ∨ F2 k → k < w.heap.size
theorem PairF.keep {w w' : World} {F : Nat → Prop} {B1 B2 : Nat} {S1 S2 : PS} (h : PairF w F B1 B2 S1 S2) (hs : w.heap.size ≤ w'.heap.size) (hk : ∀ k, k < w.heap.size → F k → w'.heap[k]? = w.heap[k]?) : PairF w' F B1 B2 S1 S2 := by
  obtain ⟨F1, F2, h1, h2, s1, s2, dj, lt⟩ := h
  exact ⟨F1, F2, h1.keep fun k hk' hf => hk k hk' (s1 k hf), h2.keep fun k hk' hf => hk k hk' (s2 k hf), s1, s2, dj, fun k hf => Nat.lt_of_lt_of_le (lt k hf) hs⟩
theorem PairF.mono {w : World} {F F' : Nat → Prop} {B1 B2 : Nat} {S1 S2 : PS} (h : PairF w F B1 B2 S1 S2) (hF : ∀ k, k < w.heap.size → F k → F' k) : PairF w F' B1 B2 S1 S2 := by
  obtain ⟨F1, F2, h1, h2, s1, s2, dj, lt⟩ := h
  exact ⟨F1, F2, h1, h2, fun k hf => hF k (lt k (.inl hf)) (s1 k hf), fun k hf => hF k (lt k (.inr hf)) (s2 k hf), dj, lt⟩
theorem PairF.tight {w : World} {F : Nat → Prop} {B1 B2 : Nat} {S1 S2 : PS} (h : PairF w F B1 B2 S1 S2) : PairF w (fun k => F k ∧ k < w.heap.size) B1 B2 S1 S2 := h.mono fun _ hk hf => ⟨hf, hk⟩
theorem pairL {w w' : World} {F F1 F2 : Nat → Prop} {B1 B2 : Nat} {S1' S2 : PS} (h2 : RefP w F2 B2 S2) (s1 : ∀ k, F1 k → F k) (s2 : ∀ k, F2 k → F k) (dj : ∀ k, F1 k → ¬ F2 k) (lt : ∀ k, F1 k ∨ F2 k → k < w.heap.size) (hp : Plate w' (grow F1 w w') B1 S1') (ht : Touch F1 w w') : PairF w' (grow F w w') B1 B2 S1' S2 ∧ Touch F w w' :=
  ⟨⟨grow F1 w w', F2, hp, h2.keep fun k hk hf => ht.2 k hk fun h1 => dj k h1 hf, fun k hk => hk.elim (fun h => .inl (s1 k h)) .inr, fun k hk => .inl (s2 k hk), fun k hk hf => by
    rcases hk with h | h
    · exact dj k h hf
    · have := lt k (.inr hf); omega, fun k hk => by
    have hs := ht.size
    rcases hk with (h | h) | h
    · have := lt k (.inl h); omega
    · omega
    · have := lt k (.inr h); omega⟩, ht.mono s1⟩
theorem pairR {w w' : World} {F F1 F2 : Nat → Prop} {B1 B2 : Nat} {S1 S2' : PS} (h1 : Plate w F1 B1 S1) (s1 : ∀ k, F1 k → F k) (s2 : ∀ k, F2 k → F k) (dj : ∀ k, F1 k → ¬ F2 k) (lt : ∀ k, F1 k ∨ F2 k → k < w.heap.size) (hp : RefP w' (grow F2 w w') B2 S2') (ht : Touch F2 w w') : PairF w' (grow F w w') B1 B2 S1 S2' ∧ Touch F w w' :=
  ⟨⟨F1, grow F2 w w', h1.keep fun k hk hf => ht.2 k hk fun h2 => dj k hf h2, hp, fun k hk => .inl (s1 k hk), fun k hk => hk.elim (fun h => .inl (s2 k h)) .inr, fun k hf hk => by
    rcases hk with h | h
    · exact dj k hf h
    · have := lt k (.inl hf); omega, fun k hk => by
    have hs := ht.size
    rcases hk with h | (h | h)
    · have := lt k (.inl h); omega
    · have := lt k (.inr h); omega
    · omega⟩, ht.mono s2⟩
theorem grow_grow {F : Nat → Prop} {w w1 w2 : World} (h1 : w.heap.size ≤ w1.heap.size) (h2 : w1.heap.size ≤ w2.heap.size) (k : Nat) (h : grow (grow F w w1) w1 w2 k) : grow F w w2 k := by
  rcases h with (h | h) | h
  · exact .inl h
  · exact .inr ⟨h.1, by omega⟩
  · exact .inr ⟨by omega, h.2⟩
/-- Further on from where a step began. -/
structure Far (F : Nat → Prop) (w wc : World) (B1 B2 : Nat) (S1 S2 : PS) : Prop where
  pair : PairF wc (grow F w wc) B1 B2 S1 S2
  touch : Touch F w wc
theorem Far.left {F : Nat → Prop} {w wc : World} {B1 B2 f : Nat} {args : Array Value} {S1 S2 S1' : PS} {R : Ending → Prop} (h : Far F w wc B1 B2 S1 S2)
    (hc : ∀ F1, Plate wc F1 B1 S1 → Calls Try.prog f args wc fun e w' => R e ∧ Plate w' (grow F1 wc w') B1 S1' ∧ Touch F1 wc w') : Calls Try.prog f args wc fun e w' => R e ∧ Far F w w' B1 B2 S1' S2 := by
  obtain ⟨F1, F2, h1, h2, s1, s2, dj, lt⟩ := h.pair
  refine (hc F1 h1).mono fun e w' ⟨he, hp, ht⟩ => ?_
  obtain ⟨q1, q2⟩ := pairL h2 s1 s2 dj lt hp ht
  exact ⟨he, q1.mono fun k _ hk => grow_grow h.touch.size ht.size k hk, h.touch.trans q2⟩
theorem Far.right {F : Nat → Prop} {w wc : World} {B1 B2 f : Nat} {args : Array Value} {S1 S2 S2' : PS} {R : Ending → Prop} (h : Far F w wc B1 B2 S1 S2)
    (hc : ∀ F2, RefP wc F2 B2 S2 → Calls Try.prog f args wc fun e w' => R e ∧ RefP w' (grow F2 wc w') B2 S2' ∧ Touch F2 wc w') : Calls Try.prog f args wc fun e w' => R e ∧ Far F w w' B1 B2 S1 S2' := by
  obtain ⟨F1, F2, h1, h2, s1, s2, dj, lt⟩ := h.pair
  refine (hc F2 h2).mono fun e w' ⟨he, hp, ht⟩ => ?_
  obtain ⟨q1, q2⟩ := pairR h1 s1 s2 dj lt hp ht
  exact ⟨he, q1.mono fun k _ hk => grow_grow h.touch.size ht.size k hk, h.touch.trans q2⟩
theorem Far.below {F : Nat → Prop} {w wc w' : World} {B1 B2 : Nat} {S1 S2 : PS} (h : Far F w wc B1 B2 S1 S2) (hb : Below wc.heap.size wc w') : Far F w w' B1 B2 S1 S2 :=
  ⟨(h.pair.keep hb.size fun k hk _ => hb.block k hk).mono fun _ _ hk => hk.elim .inl fun x => .inr ⟨x.1, Nat.lt_of_lt_of_le x.2 hb.size⟩, h.touch.trans (Touch.of_below hb)⟩
theorem Far.gone {F : Nat → Prop} {w wc : World} {B1 B2 f : Nat} {args : Array Value} {S1 S2 : PS} {R : Ending → Prop} (h : Far F w wc B1 B2 S1 S2) (hc : ∀ F1, Plate wc F1 B1 S1 → Calls Try.prog f args wc fun e w' => R e ∧ w' = wc) : Calls Try.prog f args wc fun e w' => R e ∧ w' = wc := by
  obtain ⟨F1, F2, h1, _⟩ := h.pair
  exact hc F1 h1
theorem Far.goneR {F : Nat → Prop} {w wc : World} {B1 B2 f : Nat} {args : Array Value} {S1 S2 : PS} {R : Ending → Prop} (h : Far F w wc B1 B2 S1 S2) (hc : ∀ F2, RefP wc F2 B2 S2 → Calls Try.prog f args wc fun e w' => R e ∧ w' = wc) : Calls Try.prog f args wc fun e w' => R e ∧ w' = wc := by
  obtain ⟨F1, F2, _, h2, _⟩ := h.pair
  exact hc F2 h2
theorem bools_far {w wc : World} {F F1 : Nat → Prop} {kv : Value} {l : List Bool} (h : Bools w F kv l) (hc : ∀ k, k < w.heap.size → ¬ F k → wc.heap[k]? = w.heap[k]?) (hs : w.heap.size ≤ wc.heap.size) (hF : ∀ k, k < w.heap.size → F1 k → F k) : Bools wc F1 kv l := by
  rcases h with h | ⟨g, o, cap, rfl, hg, hf, hx⟩
  · exact .inl h
  · exact .inr ⟨g, o, cap, rfl, Nat.lt_of_lt_of_le hg hs, fun x => hf (hF g hg x), fun i b hi => by rw [World.cell?_of_block (a := ⟨g, o + i, none⟩) (hc g hg hf)]; exact hx i b hi⟩
theorem Far.leftF {F : Nat → Prop} {w wc : World} {B1 B2 f : Nat} {args : Array Value} {S1 S2 S1' : PS} {R : Ending → Prop} (h : Far F w wc B1 B2 S1 S2)
    (hc : ∀ F1, (∀ k, F1 k → grow F w wc k) → Plate wc F1 B1 S1 → Calls Try.prog f args wc fun e w' => R e ∧ Plate w' (grow F1 wc w') B1 S1' ∧ Touch F1 wc w') : Calls Try.prog f args wc fun e w' => R e ∧ Far F w w' B1 B2 S1' S2 := by
  obtain ⟨F1, F2, h1, h2, s1, s2, dj, lt⟩ := h.pair
  refine (hc F1 s1 h1).mono fun e w' ⟨he, hp, ht⟩ => ?_
  obtain ⟨q1, q2⟩ := pairL h2 s1 s2 dj lt hp ht
  exact ⟨he, q1.mono fun k _ hk => grow_grow h.touch.size ht.size k hk, h.touch.trans q2⟩
theorem Far.rightF {F : Nat → Prop} {w wc : World} {B1 B2 f : Nat} {args : Array Value} {S1 S2 S2' : PS} {R : Ending → Prop} (h : Far F w wc B1 B2 S1 S2)
    (hc : ∀ F2, (∀ k, F2 k → grow F w wc k) → RefP wc F2 B2 S2 → Calls Try.prog f args wc fun e w' => R e ∧ RefP w' (grow F2 wc w') B2 S2' ∧ Touch F2 wc w') : Calls Try.prog f args wc fun e w' => R e ∧ Far F w w' B1 B2 S1 S2' := by
  obtain ⟨F1, F2, h1, h2, s1, s2, dj, lt⟩ := h.pair
  refine (hc F2 s2 h2).mono fun e w' ⟨he, hp, ht⟩ => ?_
  obtain ⟨q1, q2⟩ := pairR h1 s1 s2 dj lt hp ht
  exact ⟨he, q1.mono fun k _ hk => grow_grow h.touch.size ht.size k hk, h.touch.trans q2⟩
theorem plate_grow {w w' : World} {F : Nat → Prop} {B : Nat} {S : PS} (h : Plate w' F B S) : Plate w' (grow F w w') B S := h.mono fun _ _ h => .inl h
theorem ref_grow {w w' : World} {F : Nat → Prop} {B : Nat} {S : PS} (h : RefP w' F B S) : RefP w' (grow F w w') B S := h.mono fun _ _ h => .inl h

/-- How long a step's text is. -/
def someN (n : Int) : Nat := if n < 0 ∨ 200 < n then 64 else n.toNat
theorem someN_le (n : Int) : someN n ≤ 200 := by unfold someN; split <;> omega
set_option maxHeartbeats 400000 in
theorem some_any (n : Int) (w : World) : Calls Try.prog 35 #[.int .i64 n] w fun e w' => e = .returned (.int .i64 (someN n : Nat)) ∧ w' = w := by
  by_cases h0 : n < 0
  · have e : someN n = 64 := by simp [someN, h0]
    rw [e]
    go_enter Try.func35, Try.ntmps35
    go_wp2
    go_ret
    exact ⟨rfl, rfl⟩
  · obtain ⟨m, rfl⟩ : ∃ m : Nat, n = m := ⟨n.toNat, by omega⟩
    by_cases h1 : (200 : Int) < m
    · have e : someN m = 64 := by simp [someN, h1]
      rw [e]
      go_enter Try.func35, Try.ntmps35
      go_wp2
      go_ret
      exact ⟨rfl, rfl⟩
    · have e : someN m = m := by unfold someN; rw [if_neg (by omega)]; simp
      rw [e]
      go_enter Try.func35, Try.ntmps35
      go_wp2
      go_ret
      exact ⟨rfl, rfl⟩

def stepP (S : PS) (x : OpT) : PS :=
  if x.kind = 1 then readP S x.at_ else if x.kind = 3 then writeP S x.at_ (fillS x.v (someN x.len)) else if x.kind = 4 then flushP S else if x.kind = 5 then armP S x.at_ else if x.kind = 6 then startP x.keep S
  else if x.kind = 7 then layP S x.at_ (fillS x.v (someN x.len)) else if x.kind = 8 then spoilP S x.at_ else S
def opV (x : OpT) : Value := .agg #[.int .i64 x.kind, .int .i64 x.at_, .int .i64 x.len, .int .u8 (x.v : Nat), x.kv]

set_option maxRecDepth 10000 in
set_option maxHeartbeats 2000000 in
theorem step1 (B1 B2 : Nat) (S : PS) (kd at_ len : Int) (v : Nat) (oa : Option Addr) (kl cap : Nat) (l : List Bool) (hkd : kd = 1) (F : Nat → Prop) (w : World) (hp : PairF w F B1 B2 S S) (hw : S.wait.length ≤ 1000000) (hk : Bools w F (.slice oa kl cap) l) :
    Calls Try.prog 17 #[.pointer (some ⟨B1, 0, none⟩), .pointer (some ⟨B2, 0, none⟩), .agg #[.int .i64 kd, .int .i64 at_, .int .i64 len, .int .u8 (v : Nat), .slice oa kl cap]] w fun e w' => e = .returned (.bool true) ∧ PairF w' (grow F w w') B1 B2 (readP S at_) (readP S at_) ∧ Touch F w w' := by
  subst hkd
  have hb0 : Below w.heap.size w (w.alloc (.cells #[.int .i64 1, .int .i64 at_, .int .i64 len, .int .u8 (v : Nat), .slice oa kl cap] 33)) := (Below.refl _ _).alloc (Nat.le_refl _) _
  have hr0 : Row (w.alloc (.cells #[.int .i64 1, .int .i64 at_, .int .i64 len, .int .u8 (v : Nat), .slice oa kl cap] 33)) w.heap.size 33 [.int .i64 1, .int .i64 at_, .int .i64 len, .int .u8 (v : Nat), .slice oa kl cap] := heap_alloc_new w _
  obtain ⟨w1, hw1⟩ : ∃ w1, w.alloc (.cells #[.int .i64 1, .int .i64 at_, .int .i64 len, .int .u8 (v : Nat), .slice oa kl cap] 33) = w1 := ⟨_, rfl⟩
  rw [hw1] at hb0 hr0
  obtain ⟨P, hP⟩ : ∃ P, w.heap.size = P := ⟨_, rfl⟩
  have hr1 : Row w1 P 33 [.int .i64 1, .int .i64 at_, .int .i64 len, .int .u8 (v : Nat), .slice oa kl cap] := by rw [← hP]; exact hr0
  have hf1 : Far (fun k => F k ∧ k < w.heap.size) w1 w1 B1 B2 S S := ⟨(hp.tight.keep hb0.size fun k hk _ => hb0.block k hk).mono fun k _ h => .inl h, Touch.refl _ _⟩
  have HX : Hid (∀ wc, Touch (fun k => F k ∧ k < w.heap.size) w1 wc → wc.cell? ⟨P, 0, none⟩ = some (.int .i64 1) ∧ wc.cell? ⟨P, 1, none⟩ = some (.int .i64 at_) ∧ wc.cell? ⟨P, 2, none⟩ = some (.int .i64 len) ∧ wc.cell? ⟨P, 3, none⟩ = some (.int .u8 (v : Nat)) ∧ wc.cell? ⟨P, 4, none⟩ = some (.slice oa kl cap)) := fun wc ht => by
    have hr : Row wc P _ _ := (ht.2 P hr1.lt fun h => by have := h.2; omega).trans hr1
    exact ⟨hr.cell 0, hr.cell 1, hr.cell 2, hr.cell 3, hr.cell 4⟩
  have HEND : Hid (∀ w' S', Far (fun k => F k ∧ k < w.heap.size) w1 w' B1 B2 S' S' → PairF w' (grow F w w') B1 B2 S' S' ∧ Touch F w w') := fun w' S' h => by
    have hs := h.touch.size
    have hs0 := hb0.size
    refine ⟨h.pair.mono fun k _ hk => ?_, ⟨(hb0.mono (Nat.zero_le _)).trans h.touch.1, fun k hk hn => (h.touch.2 k (by omega) fun x => hn x.1).trans (hb0.block k hk)⟩⟩
    rcases hk with x | x
    · exact .inl x.1
    · exact .inr ⟨by omega, x.2⟩
  have HK : Hid (∀ (wc : World) (F1 : Nat → Prop), Touch (fun k => F k ∧ k < w.heap.size) w1 wc → (∀ k, F1 k → grow (fun k => F k ∧ k < w.heap.size) w1 wc k) → Bools wc F1 (.slice oa kl cap) l) := fun wc F1 ht hF => by
    have hs0 := hb0.size
    exact bools_far hk (fun k hk' hn => (ht.2 k (by omega) fun x => hn x.1).trans (hb0.block k hk')) (by have := ht.size; omega) fun k hk' hf => (hF k hf).elim (fun x => x.1) fun x => by omega
  have hbt := fun W => bytes_any v (someN len) (someN_le len) W
  obtain ⟨s, hs⟩ : ∃ s, s = fillS v (someN len) := ⟨_, rfl⟩
  have HS : Hid (s = fillS v (someN len)) := hs
  rw [← hs] at hbt
  clear hs hp hk hr0 hr1 hb0
  obtain ⟨x0, x1, x2, x3, x4⟩ := HX.out w1 hf1.touch
  have hso := some_any len
  obtain ⟨mm, hmm⟩ : ∃ mm, mm = someN len := ⟨_, rfl⟩
  rw [← hmm] at hso hbt
  clear hmm
  go_enter Try.func17, Try.ntmps17
  go_wp2_with fail
  go_region_held3 (fun w' => w'.cell? ⟨P, 3, none⟩ = some (.int .u8 (v : Nat)) ∧ w'.cell? ⟨P, 2, none⟩ = some (.int .i64 len)) (first | exact ⟨(HX.out _ hfA.touch).2.2.2.1, (HX.out _ hfA.touch).2.2.1⟩ | exact ⟨x3, x2⟩) (first | (go_at_call 35; refine (hso _).mono ?_; rintro e wS ⟨rfl, rfl⟩) | (go_at_call 14; refine (hbt _).mono ?_; rintro e wA ⟨rfl, hA⟩; have hfA : Far (fun k => F k ∧ k < w.heap.size) w1 wA B1 B2 S S := Far.below (wc := w1.drew) (hf1.below (Below.refl _ _).drew) hA))
  obtain ⟨y0, y1, _, _, y4⟩ := HX.out wA hfA.touch
  clear x0 x1 x2 x3 x4 hf1 hso hbt hA hw1
  have hl := hfA.left (R := fun e => e = .returned (.tuple #[.string (readS S at_), .int .i64 (readE S at_)])) fun F1 h => (read_any B1 F1 S at_ wA h hw).mono fun _ _ ⟨he, h1, h2⟩ => ⟨he, plate_grow h1, h2⟩
  go_wp2_with fail
  refine hl.mono ?_
  rintro e wB ⟨rfl, hfB⟩
  obtain ⟨_, z1, _⟩ := HX.out wB hfB.touch
  have hr := hfB.right (R := fun e => e = .returned (.tuple #[.string (readS S at_), .int .i64 (readE S at_)])) fun F2 h => (rread_any B2 F2 S at_ wB h hw).mono fun _ _ ⟨he, h1, h2⟩ => ⟨he, ref_grow h1, h2⟩
  clear hl hfA
  generalize readS S at_ = rs at *
  generalize readE S at_ = re at *
  go_wp2_with fail
  refine hr.mono ?_
  rintro e wC ⟨rfl, hfC⟩
  have HF : Hid (_ ∧ _) := HEND.out _ _ hfC
  clear hr hfB hfC
  go_wp2
  go_ret
  exact ⟨rfl, HF.out.1, HF.out.2⟩

set_option maxRecDepth 10000 in
set_option maxHeartbeats 2000000 in
theorem step2 (B1 B2 : Nat) (S : PS) (kd at_ len : Int) (v : Nat) (oa : Option Addr) (kl cap : Nat) (l : List Bool) (hkd : kd = 2) (F : Nat → Prop) (w : World) (hp : PairF w F B1 B2 S S) (_ : S.wait.length ≤ 1000000) (hk : Bools w F (.slice oa kl cap) l) :
    Calls Try.prog 17 #[.pointer (some ⟨B1, 0, none⟩), .pointer (some ⟨B2, 0, none⟩), .agg #[.int .i64 kd, .int .i64 at_, .int .i64 len, .int .u8 (v : Nat), .slice oa kl cap]] w fun e w' => e = .returned (.bool true) ∧ PairF w' (grow F w w') B1 B2 (S) (S) ∧ Touch F w w' := by
  subst hkd
  have hb0 : Below w.heap.size w (w.alloc (.cells #[.int .i64 2, .int .i64 at_, .int .i64 len, .int .u8 (v : Nat), .slice oa kl cap] 33)) := (Below.refl _ _).alloc (Nat.le_refl _) _
  have hr0 : Row (w.alloc (.cells #[.int .i64 2, .int .i64 at_, .int .i64 len, .int .u8 (v : Nat), .slice oa kl cap] 33)) w.heap.size 33 [.int .i64 2, .int .i64 at_, .int .i64 len, .int .u8 (v : Nat), .slice oa kl cap] := heap_alloc_new w _
  obtain ⟨w1, hw1⟩ : ∃ w1, w.alloc (.cells #[.int .i64 2, .int .i64 at_, .int .i64 len, .int .u8 (v : Nat), .slice oa kl cap] 33) = w1 := ⟨_, rfl⟩
  rw [hw1] at hb0 hr0
  obtain ⟨P, hP⟩ : ∃ P, w.heap.size = P := ⟨_, rfl⟩
  have hr1 : Row w1 P 33 [.int .i64 2, .int .i64 at_, .int .i64 len, .int .u8 (v : Nat), .slice oa kl cap] := by rw [← hP]; exact hr0
  have hf1 : Far (fun k => F k ∧ k < w.heap.size) w1 w1 B1 B2 S S := ⟨(hp.tight.keep hb0.size fun k hk _ => hb0.block k hk).mono fun k _ h => .inl h, Touch.refl _ _⟩
  have HX : Hid (∀ wc, Touch (fun k => F k ∧ k < w.heap.size) w1 wc → wc.cell? ⟨P, 0, none⟩ = some (.int .i64 2) ∧ wc.cell? ⟨P, 1, none⟩ = some (.int .i64 at_) ∧ wc.cell? ⟨P, 2, none⟩ = some (.int .i64 len) ∧ wc.cell? ⟨P, 3, none⟩ = some (.int .u8 (v : Nat)) ∧ wc.cell? ⟨P, 4, none⟩ = some (.slice oa kl cap)) := fun wc ht => by
    have hr : Row wc P _ _ := (ht.2 P hr1.lt fun h => by have := h.2; omega).trans hr1
    exact ⟨hr.cell 0, hr.cell 1, hr.cell 2, hr.cell 3, hr.cell 4⟩
  have HEND : Hid (∀ w' S', Far (fun k => F k ∧ k < w.heap.size) w1 w' B1 B2 S' S' → PairF w' (grow F w w') B1 B2 S' S' ∧ Touch F w w') := fun w' S' h => by
    have hs := h.touch.size
    have hs0 := hb0.size
    refine ⟨h.pair.mono fun k _ hk => ?_, ⟨(hb0.mono (Nat.zero_le _)).trans h.touch.1, fun k hk hn => (h.touch.2 k (by omega) fun x => hn x.1).trans (hb0.block k hk)⟩⟩
    rcases hk with x | x
    · exact .inl x.1
    · exact .inr ⟨by omega, x.2⟩
  have HK : Hid (∀ (wc : World) (F1 : Nat → Prop), Touch (fun k => F k ∧ k < w.heap.size) w1 wc → (∀ k, F1 k → grow (fun k => F k ∧ k < w.heap.size) w1 wc k) → Bools wc F1 (.slice oa kl cap) l) := fun wc F1 ht hF => by
    have hs0 := hb0.size
    exact bools_far hk (fun k hk' hn => (ht.2 k (by omega) fun x => hn x.1).trans (hb0.block k hk')) (by have := ht.size; omega) fun k hk' hf => (hF k hf).elim (fun x => x.1) fun x => by omega
  have hbt := fun W => bytes_any v (someN len) (someN_le len) W
  obtain ⟨s, hs⟩ : ∃ s, s = fillS v (someN len) := ⟨_, rfl⟩
  have HS : Hid (s = fillS v (someN len)) := hs
  rw [← hs] at hbt
  clear hs hp hk hr0 hr1 hb0
  obtain ⟨x0, x1, x2, x3, x4⟩ := HX.out w1 hf1.touch
  have hso := some_any len
  obtain ⟨mm, hmm⟩ : ∃ mm, mm = someN len := ⟨_, rfl⟩
  rw [← hmm] at hso hbt
  clear hmm
  go_enter Try.func17, Try.ntmps17
  go_wp2_with fail
  go_region_held3 (fun w' => w'.cell? ⟨P, 3, none⟩ = some (.int .u8 (v : Nat)) ∧ w'.cell? ⟨P, 2, none⟩ = some (.int .i64 len)) (first | exact ⟨(HX.out _ hfA.touch).2.2.2.1, (HX.out _ hfA.touch).2.2.1⟩ | exact ⟨x3, x2⟩) (first | (go_at_call 35; refine (hso _).mono ?_; rintro e wS ⟨rfl, rfl⟩) | (go_at_call 14; refine (hbt _).mono ?_; rintro e wA ⟨rfl, hA⟩; have hfA : Far (fun k => F k ∧ k < w.heap.size) w1 wA B1 B2 S S := Far.below (wc := w1.drew) (hf1.below (Below.refl _ _).drew) hA))
  obtain ⟨y0, y1, _, _, y4⟩ := HX.out wA hfA.touch
  clear x0 x1 x2 x3 x4 hf1 hso hbt hA hw1
  have hl := hfA.gone (R := fun e => e = .returned (.tuple #[.string (heldS S at_), .int .i64 (heldE S at_)])) fun F1 h => held_any B1 F1 S at_ wA h
  have hr := hfA.goneR (R := fun e => e = .returned (.tuple #[.string (heldS S at_), .int .i64 (heldE S at_)])) fun F2 h => rheld_any B2 F2 S at_ wA h
  generalize heldS S at_ = rs at *
  generalize heldE S at_ = re at *
  go_wp2_with fail
  refine hl.mono ?_
  rintro e wB ⟨rfl, rfl⟩
  go_wp2_with fail
  refine hr.mono ?_
  rintro e wC ⟨rfl, rfl⟩
  have HF : Hid (_ ∧ _) := HEND.out _ _ hfA
  clear hl hr hfA
  go_wp2
  go_ret
  exact ⟨rfl, HF.out.1, HF.out.2⟩

set_option maxRecDepth 10000 in
set_option maxHeartbeats 2000000 in
theorem step3 (B1 B2 : Nat) (S : PS) (kd at_ len : Int) (v : Nat) (oa : Option Addr) (kl cap : Nat) (l : List Bool) (hkd : kd = 3) (F : Nat → Prop) (w : World) (hp : PairF w F B1 B2 S S) (hw : S.wait.length ≤ 1000000) (hk : Bools w F (.slice oa kl cap) l) :
    Calls Try.prog 17 #[.pointer (some ⟨B1, 0, none⟩), .pointer (some ⟨B2, 0, none⟩), .agg #[.int .i64 kd, .int .i64 at_, .int .i64 len, .int .u8 (v : Nat), .slice oa kl cap]] w fun e w' => e = .returned (.bool true) ∧ PairF w' (grow F w w') B1 B2 (writeP S at_ (fillS v (someN len))) (writeP S at_ (fillS v (someN len))) ∧ Touch F w w' := by
  subst hkd
  have hb0 : Below w.heap.size w (w.alloc (.cells #[.int .i64 3, .int .i64 at_, .int .i64 len, .int .u8 (v : Nat), .slice oa kl cap] 33)) := (Below.refl _ _).alloc (Nat.le_refl _) _
  have hr0 : Row (w.alloc (.cells #[.int .i64 3, .int .i64 at_, .int .i64 len, .int .u8 (v : Nat), .slice oa kl cap] 33)) w.heap.size 33 [.int .i64 3, .int .i64 at_, .int .i64 len, .int .u8 (v : Nat), .slice oa kl cap] := heap_alloc_new w _
  obtain ⟨w1, hw1⟩ : ∃ w1, w.alloc (.cells #[.int .i64 3, .int .i64 at_, .int .i64 len, .int .u8 (v : Nat), .slice oa kl cap] 33) = w1 := ⟨_, rfl⟩
  rw [hw1] at hb0 hr0
  obtain ⟨P, hP⟩ : ∃ P, w.heap.size = P := ⟨_, rfl⟩
  have hr1 : Row w1 P 33 [.int .i64 3, .int .i64 at_, .int .i64 len, .int .u8 (v : Nat), .slice oa kl cap] := by rw [← hP]; exact hr0
  have hf1 : Far (fun k => F k ∧ k < w.heap.size) w1 w1 B1 B2 S S := ⟨(hp.tight.keep hb0.size fun k hk _ => hb0.block k hk).mono fun k _ h => .inl h, Touch.refl _ _⟩
  have HX : Hid (∀ wc, Touch (fun k => F k ∧ k < w.heap.size) w1 wc → wc.cell? ⟨P, 0, none⟩ = some (.int .i64 3) ∧ wc.cell? ⟨P, 1, none⟩ = some (.int .i64 at_) ∧ wc.cell? ⟨P, 2, none⟩ = some (.int .i64 len) ∧ wc.cell? ⟨P, 3, none⟩ = some (.int .u8 (v : Nat)) ∧ wc.cell? ⟨P, 4, none⟩ = some (.slice oa kl cap)) := fun wc ht => by
    have hr : Row wc P _ _ := (ht.2 P hr1.lt fun h => by have := h.2; omega).trans hr1
    exact ⟨hr.cell 0, hr.cell 1, hr.cell 2, hr.cell 3, hr.cell 4⟩
  have HEND : Hid (∀ w' S', Far (fun k => F k ∧ k < w.heap.size) w1 w' B1 B2 S' S' → PairF w' (grow F w w') B1 B2 S' S' ∧ Touch F w w') := fun w' S' h => by
    have hs := h.touch.size
    have hs0 := hb0.size
    refine ⟨h.pair.mono fun k _ hk => ?_, ⟨(hb0.mono (Nat.zero_le _)).trans h.touch.1, fun k hk hn => (h.touch.2 k (by omega) fun x => hn x.1).trans (hb0.block k hk)⟩⟩
    rcases hk with x | x
    · exact .inl x.1
    · exact .inr ⟨by omega, x.2⟩
  have HK : Hid (∀ (wc : World) (F1 : Nat → Prop), Touch (fun k => F k ∧ k < w.heap.size) w1 wc → (∀ k, F1 k → grow (fun k => F k ∧ k < w.heap.size) w1 wc k) → Bools wc F1 (.slice oa kl cap) l) := fun wc F1 ht hF => by
    have hs0 := hb0.size
    exact bools_far hk (fun k hk' hn => (ht.2 k (by omega) fun x => hn x.1).trans (hb0.block k hk')) (by have := ht.size; omega) fun k hk' hf => (hF k hf).elim (fun x => x.1) fun x => by omega
  have hbt := fun W => bytes_any v (someN len) (someN_le len) W
  obtain ⟨s, hs⟩ : ∃ s, s = fillS v (someN len) := ⟨_, rfl⟩
  have HS : Hid (s = fillS v (someN len)) := hs
  rw [← hs] at hbt
  clear hs hp hk hr0 hr1 hb0
  obtain ⟨x0, x1, x2, x3, x4⟩ := HX.out w1 hf1.touch
  have hso := some_any len
  obtain ⟨mm, hmm⟩ : ∃ mm, mm = someN len := ⟨_, rfl⟩
  rw [← hmm] at hso hbt
  clear hmm
  go_enter Try.func17, Try.ntmps17
  go_wp2_with fail
  go_region_held3 (fun w' => w'.cell? ⟨P, 3, none⟩ = some (.int .u8 (v : Nat)) ∧ w'.cell? ⟨P, 2, none⟩ = some (.int .i64 len)) (first | exact ⟨(HX.out _ hfA.touch).2.2.2.1, (HX.out _ hfA.touch).2.2.1⟩ | exact ⟨x3, x2⟩) (first | (go_at_call 35; refine (hso _).mono ?_; rintro e wS ⟨rfl, rfl⟩) | (go_at_call 14; refine (hbt _).mono ?_; rintro e wA ⟨rfl, hA⟩; have hfA : Far (fun k => F k ∧ k < w.heap.size) w1 wA B1 B2 S S := Far.below (wc := w1.drew) (hf1.below (Below.refl _ _).drew) hA))
  obtain ⟨y0, y1, _, _, y4⟩ := HX.out wA hfA.touch
  clear x0 x1 x2 x3 x4 hf1 hso hbt hA hw1
  have hl := hfA.left (R := fun e => e = .returned (.int .i64 (writeE S at_ s))) fun F1 h => (write_any B1 F1 S at_ s wA h hw).mono fun _ _ ⟨he, h1, h2⟩ => ⟨he, h1, h2⟩
  have hr : ∀ wB, Far (fun k => F k ∧ k < w.heap.size) w1 wB B1 B2 (writeP S at_ s) S → Calls Try.prog 38 #[.pointer (some ⟨B2, 0, none⟩), .int .i64 at_, .string s] wB fun e w' => e = .returned (.int .i64 (writeE S at_ s)) ∧ Far (fun k => F k ∧ k < w.heap.size) w1 w' B1 B2 (writeP S at_ s) (writeP S at_ s) := fun wB hfB => hfB.right (R := fun e => e = .returned (.int .i64 (writeE S at_ s))) fun F2 h => (rwrite_any B2 F2 S at_ s wB h hw).mono fun _ _ ⟨he, h1, h2⟩ => ⟨he, h1, h2⟩
  have hl' : ∀ q, Calls Try.prog 15 #[.pointer (some ⟨B1, 0, none⟩), .int .i64 at_, .string s] (wA.drewN q) fun e w' => e = .returned (.int .i64 (writeE S at_ s)) ∧ Far (fun k => F k ∧ k < w.heap.size) w1 w' B1 B2 (writeP S at_ s) S := fun q => (hfA.below (w' := wA.drewN q) ⟨rfl, rfl, rfl, Nat.le_refl _, fun _ _ => rfl⟩).left (R := fun e => e = .returned (.int .i64 (writeE S at_ s))) fun F1 h => (write_any B1 F1 S at_ s (wA.drewN q) h hw).mono fun _ _ ⟨he, h1, h2⟩ => ⟨he, h1, h2⟩
  clear hl
  obtain ⟨re, hre⟩ : ∃ re, re = writeE S at_ s := ⟨_, rfl⟩
  rw [← hre] at hr hl'
  go_wp2_with fail
  go_region_held3 (fun w' => w'.cell? ⟨P, 1, none⟩ = some (.int .i64 at_)) (first | exact (HX.out _ hfC.touch).2.1 | exact (HX.out _ hfB.touch).2.1 | exact y1) (first | (go_at_call 15; refine (hl' 1).mono ?_; rintro e wB ⟨rfl, hfB⟩) | (go_at_call 38; refine (hr _ hfB).mono ?_; rintro e wC ⟨rfl, hfC⟩))
  rw [HS.out] at hfC
  have HF : Hid (_ ∧ _) := HEND.out _ _ hfC
  clear hr hl' hfB hfC hfA hre
  go_wp2
  go_ret
  exact ⟨rfl, HF.out.1, HF.out.2⟩

set_option maxRecDepth 10000 in
set_option maxHeartbeats 2000000 in
theorem step7 (B1 B2 : Nat) (S : PS) (kd at_ len : Int) (v : Nat) (oa : Option Addr) (kl cap : Nat) (l : List Bool) (hkd : kd = 7) (F : Nat → Prop) (w : World) (hp : PairF w F B1 B2 S S) (_ : S.wait.length ≤ 1000000) (hk : Bools w F (.slice oa kl cap) l) :
    Calls Try.prog 17 #[.pointer (some ⟨B1, 0, none⟩), .pointer (some ⟨B2, 0, none⟩), .agg #[.int .i64 kd, .int .i64 at_, .int .i64 len, .int .u8 (v : Nat), .slice oa kl cap]] w fun e w' => e = .returned (.bool true) ∧ PairF w' (grow F w w') B1 B2 (layP S at_ (fillS v (someN len))) (layP S at_ (fillS v (someN len))) ∧ Touch F w w' := by
  subst hkd
  have hb0 : Below w.heap.size w (w.alloc (.cells #[.int .i64 7, .int .i64 at_, .int .i64 len, .int .u8 (v : Nat), .slice oa kl cap] 33)) := (Below.refl _ _).alloc (Nat.le_refl _) _
  have hr0 : Row (w.alloc (.cells #[.int .i64 7, .int .i64 at_, .int .i64 len, .int .u8 (v : Nat), .slice oa kl cap] 33)) w.heap.size 33 [.int .i64 7, .int .i64 at_, .int .i64 len, .int .u8 (v : Nat), .slice oa kl cap] := heap_alloc_new w _
  obtain ⟨w1, hw1⟩ : ∃ w1, w.alloc (.cells #[.int .i64 7, .int .i64 at_, .int .i64 len, .int .u8 (v : Nat), .slice oa kl cap] 33) = w1 := ⟨_, rfl⟩
  rw [hw1] at hb0 hr0
  obtain ⟨P, hP⟩ : ∃ P, w.heap.size = P := ⟨_, rfl⟩
  have hr1 : Row w1 P 33 [.int .i64 7, .int .i64 at_, .int .i64 len, .int .u8 (v : Nat), .slice oa kl cap] := by rw [← hP]; exact hr0
  have hf1 : Far (fun k => F k ∧ k < w.heap.size) w1 w1 B1 B2 S S := ⟨(hp.tight.keep hb0.size fun k hk _ => hb0.block k hk).mono fun k _ h => .inl h, Touch.refl _ _⟩
  have HX : Hid (∀ wc, Touch (fun k => F k ∧ k < w.heap.size) w1 wc → wc.cell? ⟨P, 0, none⟩ = some (.int .i64 7) ∧ wc.cell? ⟨P, 1, none⟩ = some (.int .i64 at_) ∧ wc.cell? ⟨P, 2, none⟩ = some (.int .i64 len) ∧ wc.cell? ⟨P, 3, none⟩ = some (.int .u8 (v : Nat)) ∧ wc.cell? ⟨P, 4, none⟩ = some (.slice oa kl cap)) := fun wc ht => by
    have hr : Row wc P _ _ := (ht.2 P hr1.lt fun h => by have := h.2; omega).trans hr1
    exact ⟨hr.cell 0, hr.cell 1, hr.cell 2, hr.cell 3, hr.cell 4⟩
  have HEND : Hid (∀ w' S', Far (fun k => F k ∧ k < w.heap.size) w1 w' B1 B2 S' S' → PairF w' (grow F w w') B1 B2 S' S' ∧ Touch F w w') := fun w' S' h => by
    have hs := h.touch.size
    have hs0 := hb0.size
    refine ⟨h.pair.mono fun k _ hk => ?_, ⟨(hb0.mono (Nat.zero_le _)).trans h.touch.1, fun k hk hn => (h.touch.2 k (by omega) fun x => hn x.1).trans (hb0.block k hk)⟩⟩
    rcases hk with x | x
    · exact .inl x.1
    · exact .inr ⟨by omega, x.2⟩
  have HK : Hid (∀ (wc : World) (F1 : Nat → Prop), Touch (fun k => F k ∧ k < w.heap.size) w1 wc → (∀ k, F1 k → grow (fun k => F k ∧ k < w.heap.size) w1 wc k) → Bools wc F1 (.slice oa kl cap) l) := fun wc F1 ht hF => by
    have hs0 := hb0.size
    exact bools_far hk (fun k hk' hn => (ht.2 k (by omega) fun x => hn x.1).trans (hb0.block k hk')) (by have := ht.size; omega) fun k hk' hf => (hF k hf).elim (fun x => x.1) fun x => by omega
  have hbt := fun W => bytes_any v (someN len) (someN_le len) W
  obtain ⟨s, hs⟩ : ∃ s, s = fillS v (someN len) := ⟨_, rfl⟩
  have HS : Hid (s = fillS v (someN len)) := hs
  rw [← hs] at hbt
  clear hs hp hk hr0 hr1 hb0
  obtain ⟨x0, x1, x2, x3, x4⟩ := HX.out w1 hf1.touch
  have hso := some_any len
  obtain ⟨mm, hmm⟩ : ∃ mm, mm = someN len := ⟨_, rfl⟩
  rw [← hmm] at hso hbt
  clear hmm
  go_enter Try.func17, Try.ntmps17
  go_wp2_with fail
  go_region_held3 (fun w' => w'.cell? ⟨P, 3, none⟩ = some (.int .u8 (v : Nat)) ∧ w'.cell? ⟨P, 2, none⟩ = some (.int .i64 len)) (first | exact ⟨(HX.out _ hfA.touch).2.2.2.1, (HX.out _ hfA.touch).2.2.1⟩ | exact ⟨x3, x2⟩) (first | (go_at_call 35; refine (hso _).mono ?_; rintro e wS ⟨rfl, rfl⟩) | (go_at_call 14; refine (hbt _).mono ?_; rintro e wA ⟨rfl, hA⟩; have hfA : Far (fun k => F k ∧ k < w.heap.size) w1 wA B1 B2 S S := Far.below (wc := w1.drew) (hf1.below (Below.refl _ _).drew) hA))
  obtain ⟨y0, y1, _, _, y4⟩ := HX.out wA hfA.touch
  clear x0 x1 x2 x3 x4 hf1 hso hbt hA hw1
  have hl := hfA.left (R := fun e => e = .returned (.int .i64 (layE S at_ s))) fun F1 h => (lay_any B1 F1 S at_ s wA h).mono fun _ _ ⟨he, h1, h2⟩ => ⟨he, plate_grow h1, h2⟩
  have hr : ∀ wB, Far (fun k => F k ∧ k < w.heap.size) w1 wB B1 B2 (layP S at_ s) S → Calls Try.prog 42 #[.pointer (some ⟨B2, 0, none⟩), .int .i64 at_, .string s] wB fun e w' => e = .returned (.int .i64 (layE S at_ s)) ∧ Far (fun k => F k ∧ k < w.heap.size) w1 w' B1 B2 (layP S at_ s) (layP S at_ s) := fun wB hfB => hfB.right (R := fun e => e = .returned (.int .i64 (layE S at_ s))) fun F2 h => (rlay_any B2 F2 S at_ s wB h).mono fun _ _ ⟨he, h1, h2⟩ => ⟨he, ref_grow h1, h2⟩
  have hl' : ∀ q, Calls Try.prog 13 #[.pointer (some ⟨B1, 0, none⟩), .int .i64 at_, .string s] (wA.drewN q) fun e w' => e = .returned (.int .i64 (layE S at_ s)) ∧ Far (fun k => F k ∧ k < w.heap.size) w1 w' B1 B2 (layP S at_ s) S := fun q => (hfA.below (w' := wA.drewN q) ⟨rfl, rfl, rfl, Nat.le_refl _, fun _ _ => rfl⟩).left (R := fun e => e = .returned (.int .i64 (layE S at_ s))) fun F1 h => (lay_any B1 F1 S at_ s (wA.drewN q) h).mono fun _ _ ⟨he, h1, h2⟩ => ⟨he, plate_grow h1, h2⟩
  clear hl
  obtain ⟨re, hre⟩ : ∃ re, re = layE S at_ s := ⟨_, rfl⟩
  rw [← hre] at hr hl'
  go_wp2_with fail
  go_region_held3 (fun w' => w'.cell? ⟨P, 1, none⟩ = some (.int .i64 at_)) (first | exact (HX.out _ hfC.touch).2.1 | exact (HX.out _ hfB.touch).2.1 | exact y1) (first | (go_at_call 13; refine (hl' 1).mono ?_; rintro e wB ⟨rfl, hfB⟩) | (go_at_call 42; refine (hr _ hfB).mono ?_; rintro e wC ⟨rfl, hfC⟩))
  rw [HS.out] at hfC
  have HF : Hid (_ ∧ _) := HEND.out _ _ hfC
  clear hr hl' hfB hfC hfA hre
  go_wp2
  go_ret
  exact ⟨rfl, HF.out.1, HF.out.2⟩

set_option maxRecDepth 10000 in
set_option maxHeartbeats 2000000 in
theorem step5 (B1 B2 : Nat) (S : PS) (kd at_ len : Int) (v : Nat) (oa : Option Addr) (kl cap : Nat) (l : List Bool) (hkd : kd = 5) (hat : at_ < 9223372036854775808) (F : Nat → Prop) (w : World) (hp : PairF w F B1 B2 S S) (_ : S.wait.length ≤ 1000000) (hk : Bools w F (.slice oa kl cap) l) :
    Calls Try.prog 17 #[.pointer (some ⟨B1, 0, none⟩), .pointer (some ⟨B2, 0, none⟩), .agg #[.int .i64 kd, .int .i64 at_, .int .i64 len, .int .u8 (v : Nat), .slice oa kl cap]] w fun e w' => e = .returned (.bool true) ∧ PairF w' (grow F w w') B1 B2 (armP S at_) (armP S at_) ∧ Touch F w w' := by
  subst hkd
  have hb0 : Below w.heap.size w (w.alloc (.cells #[.int .i64 5, .int .i64 at_, .int .i64 len, .int .u8 (v : Nat), .slice oa kl cap] 33)) := (Below.refl _ _).alloc (Nat.le_refl _) _
  have hr0 : Row (w.alloc (.cells #[.int .i64 5, .int .i64 at_, .int .i64 len, .int .u8 (v : Nat), .slice oa kl cap] 33)) w.heap.size 33 [.int .i64 5, .int .i64 at_, .int .i64 len, .int .u8 (v : Nat), .slice oa kl cap] := heap_alloc_new w _
  obtain ⟨w1, hw1⟩ : ∃ w1, w.alloc (.cells #[.int .i64 5, .int .i64 at_, .int .i64 len, .int .u8 (v : Nat), .slice oa kl cap] 33) = w1 := ⟨_, rfl⟩
  rw [hw1] at hb0 hr0
  obtain ⟨P, hP⟩ : ∃ P, w.heap.size = P := ⟨_, rfl⟩
  have hr1 : Row w1 P 33 [.int .i64 5, .int .i64 at_, .int .i64 len, .int .u8 (v : Nat), .slice oa kl cap] := by rw [← hP]; exact hr0
  have hf1 : Far (fun k => F k ∧ k < w.heap.size) w1 w1 B1 B2 S S := ⟨(hp.tight.keep hb0.size fun k hk _ => hb0.block k hk).mono fun k _ h => .inl h, Touch.refl _ _⟩
  have HX : Hid (∀ wc, Touch (fun k => F k ∧ k < w.heap.size) w1 wc → wc.cell? ⟨P, 0, none⟩ = some (.int .i64 5) ∧ wc.cell? ⟨P, 1, none⟩ = some (.int .i64 at_) ∧ wc.cell? ⟨P, 2, none⟩ = some (.int .i64 len) ∧ wc.cell? ⟨P, 3, none⟩ = some (.int .u8 (v : Nat)) ∧ wc.cell? ⟨P, 4, none⟩ = some (.slice oa kl cap)) := fun wc ht => by
    have hr : Row wc P _ _ := (ht.2 P hr1.lt fun h => by have := h.2; omega).trans hr1
    exact ⟨hr.cell 0, hr.cell 1, hr.cell 2, hr.cell 3, hr.cell 4⟩
  have HEND : Hid (∀ w' S', Far (fun k => F k ∧ k < w.heap.size) w1 w' B1 B2 S' S' → PairF w' (grow F w w') B1 B2 S' S' ∧ Touch F w w') := fun w' S' h => by
    have hs := h.touch.size
    have hs0 := hb0.size
    refine ⟨h.pair.mono fun k _ hk => ?_, ⟨(hb0.mono (Nat.zero_le _)).trans h.touch.1, fun k hk hn => (h.touch.2 k (by omega) fun x => hn x.1).trans (hb0.block k hk)⟩⟩
    rcases hk with x | x
    · exact .inl x.1
    · exact .inr ⟨by omega, x.2⟩
  have HK : Hid (∀ (wc : World) (F1 : Nat → Prop), Touch (fun k => F k ∧ k < w.heap.size) w1 wc → (∀ k, F1 k → grow (fun k => F k ∧ k < w.heap.size) w1 wc k) → Bools wc F1 (.slice oa kl cap) l) := fun wc F1 ht hF => by
    have hs0 := hb0.size
    exact bools_far hk (fun k hk' hn => (ht.2 k (by omega) fun x => hn x.1).trans (hb0.block k hk')) (by have := ht.size; omega) fun k hk' hf => (hF k hf).elim (fun x => x.1) fun x => by omega
  have hbt := fun W => bytes_any v (someN len) (someN_le len) W
  obtain ⟨s, hs⟩ : ∃ s, s = fillS v (someN len) := ⟨_, rfl⟩
  have HS : Hid (s = fillS v (someN len)) := hs
  rw [← hs] at hbt
  clear hs hp hk hr0 hr1 hb0
  obtain ⟨x0, x1, x2, x3, x4⟩ := HX.out w1 hf1.touch
  have hso := some_any len
  obtain ⟨mm, hmm⟩ : ∃ mm, mm = someN len := ⟨_, rfl⟩
  rw [← hmm] at hso hbt
  clear hmm
  go_enter Try.func17, Try.ntmps17
  go_wp2_with fail
  go_region_held3 (fun w' => w'.cell? ⟨P, 3, none⟩ = some (.int .u8 (v : Nat)) ∧ w'.cell? ⟨P, 2, none⟩ = some (.int .i64 len)) (first | exact ⟨(HX.out _ hfA.touch).2.2.2.1, (HX.out _ hfA.touch).2.2.1⟩ | exact ⟨x3, x2⟩) (first | (go_at_call 35; refine (hso _).mono ?_; rintro e wS ⟨rfl, rfl⟩) | (go_at_call 14; refine (hbt _).mono ?_; rintro e wA ⟨rfl, hA⟩; have hfA : Far (fun k => F k ∧ k < w.heap.size) w1 wA B1 B2 S S := Far.below (wc := w1.drew) (hf1.below (Below.refl _ _).drew) hA))
  obtain ⟨y0, y1, _, _, y4⟩ := HX.out wA hfA.touch
  clear x0 x1 x2 x3 x4 hf1 hso hbt hA hw1
  have hl := hfA.left (R := fun e => e = .returned (.int .i64 (armE S at_))) fun F1 h => (arm_any B1 F1 S at_ hat wA h).mono fun _ _ ⟨he, h1, h2⟩ => ⟨he, plate_grow h1, h2⟩
  have hr : ∀ wB, Far (fun k => F k ∧ k < w.heap.size) w1 wB B1 B2 (armP S at_) S → Calls Try.prog 40 #[.pointer (some ⟨B2, 0, none⟩), .int .i64 at_] wB fun e w' => e = .returned (.int .i64 (armE S at_)) ∧ Far (fun k => F k ∧ k < w.heap.size) w1 w' B1 B2 (armP S at_) (armP S at_) := fun wB hfB => hfB.right (R := fun e => e = .returned (.int .i64 (armE S at_))) fun F2 h => (rarm_any B2 F2 S at_ hat wB h).mono fun _ _ ⟨he, h1, h2⟩ => ⟨he, ref_grow h1, h2⟩
  have hl' : ∀ q, Calls Try.prog 23 #[.pointer (some ⟨B1, 0, none⟩), .int .i64 at_] (wA.drewN q) fun e w' => e = .returned (.int .i64 (armE S at_)) ∧ Far (fun k => F k ∧ k < w.heap.size) w1 w' B1 B2 (armP S at_) S := fun q => (hfA.below (w' := wA.drewN q) ⟨rfl, rfl, rfl, Nat.le_refl _, fun _ _ => rfl⟩).left (R := fun e => e = .returned (.int .i64 (armE S at_))) fun F1 h => (arm_any B1 F1 S at_ hat (wA.drewN q) h).mono fun _ _ ⟨he, h1, h2⟩ => ⟨he, plate_grow h1, h2⟩
  clear hl
  obtain ⟨re, hre⟩ : ∃ re, re = armE S at_ := ⟨_, rfl⟩
  rw [← hre] at hr hl'
  go_wp2_with fail
  go_region_held3 (fun w' => w'.cell? ⟨P, 1, none⟩ = some (.int .i64 at_)) (first | exact (HX.out _ hfC.touch).2.1 | exact (HX.out _ hfB.touch).2.1 | exact y1) (first | (go_at_call 23; refine (hl' 1).mono ?_; rintro e wB ⟨rfl, hfB⟩) | (go_at_call 40; refine (hr _ hfB).mono ?_; rintro e wC ⟨rfl, hfC⟩))
  have HF : Hid (_ ∧ _) := HEND.out _ _ hfC
  clear hr hl' hfB hfC hfA hre
  go_wp2
  go_ret
  exact ⟨rfl, HF.out.1, HF.out.2⟩

set_option maxRecDepth 10000 in
set_option maxHeartbeats 2000000 in
theorem step8 (B1 B2 : Nat) (S : PS) (kd at_ len : Int) (v : Nat) (oa : Option Addr) (kl cap : Nat) (l : List Bool) (hkd : kd = 8) (F : Nat → Prop) (w : World) (hp : PairF w F B1 B2 S S) (_ : S.wait.length ≤ 1000000) (hk : Bools w F (.slice oa kl cap) l) :
    Calls Try.prog 17 #[.pointer (some ⟨B1, 0, none⟩), .pointer (some ⟨B2, 0, none⟩), .agg #[.int .i64 kd, .int .i64 at_, .int .i64 len, .int .u8 (v : Nat), .slice oa kl cap]] w fun e w' => e = .returned (.bool true) ∧ PairF w' (grow F w w') B1 B2 (spoilP S at_) (spoilP S at_) ∧ Touch F w w' := by
  subst hkd
  have hb0 : Below w.heap.size w (w.alloc (.cells #[.int .i64 8, .int .i64 at_, .int .i64 len, .int .u8 (v : Nat), .slice oa kl cap] 33)) := (Below.refl _ _).alloc (Nat.le_refl _) _
  have hr0 : Row (w.alloc (.cells #[.int .i64 8, .int .i64 at_, .int .i64 len, .int .u8 (v : Nat), .slice oa kl cap] 33)) w.heap.size 33 [.int .i64 8, .int .i64 at_, .int .i64 len, .int .u8 (v : Nat), .slice oa kl cap] := heap_alloc_new w _
  obtain ⟨w1, hw1⟩ : ∃ w1, w.alloc (.cells #[.int .i64 8, .int .i64 at_, .int .i64 len, .int .u8 (v : Nat), .slice oa kl cap] 33) = w1 := ⟨_, rfl⟩
  rw [hw1] at hb0 hr0
  obtain ⟨P, hP⟩ : ∃ P, w.heap.size = P := ⟨_, rfl⟩
  have hr1 : Row w1 P 33 [.int .i64 8, .int .i64 at_, .int .i64 len, .int .u8 (v : Nat), .slice oa kl cap] := by rw [← hP]; exact hr0
  have hf1 : Far (fun k => F k ∧ k < w.heap.size) w1 w1 B1 B2 S S := ⟨(hp.tight.keep hb0.size fun k hk _ => hb0.block k hk).mono fun k _ h => .inl h, Touch.refl _ _⟩
  have HX : Hid (∀ wc, Touch (fun k => F k ∧ k < w.heap.size) w1 wc → wc.cell? ⟨P, 0, none⟩ = some (.int .i64 8) ∧ wc.cell? ⟨P, 1, none⟩ = some (.int .i64 at_) ∧ wc.cell? ⟨P, 2, none⟩ = some (.int .i64 len) ∧ wc.cell? ⟨P, 3, none⟩ = some (.int .u8 (v : Nat)) ∧ wc.cell? ⟨P, 4, none⟩ = some (.slice oa kl cap)) := fun wc ht => by
    have hr : Row wc P _ _ := (ht.2 P hr1.lt fun h => by have := h.2; omega).trans hr1
    exact ⟨hr.cell 0, hr.cell 1, hr.cell 2, hr.cell 3, hr.cell 4⟩
  have HEND : Hid (∀ w' S', Far (fun k => F k ∧ k < w.heap.size) w1 w' B1 B2 S' S' → PairF w' (grow F w w') B1 B2 S' S' ∧ Touch F w w') := fun w' S' h => by
    have hs := h.touch.size
    have hs0 := hb0.size
    refine ⟨h.pair.mono fun k _ hk => ?_, ⟨(hb0.mono (Nat.zero_le _)).trans h.touch.1, fun k hk hn => (h.touch.2 k (by omega) fun x => hn x.1).trans (hb0.block k hk)⟩⟩
    rcases hk with x | x
    · exact .inl x.1
    · exact .inr ⟨by omega, x.2⟩
  have HK : Hid (∀ (wc : World) (F1 : Nat → Prop), Touch (fun k => F k ∧ k < w.heap.size) w1 wc → (∀ k, F1 k → grow (fun k => F k ∧ k < w.heap.size) w1 wc k) → Bools wc F1 (.slice oa kl cap) l) := fun wc F1 ht hF => by
    have hs0 := hb0.size
    exact bools_far hk (fun k hk' hn => (ht.2 k (by omega) fun x => hn x.1).trans (hb0.block k hk')) (by have := ht.size; omega) fun k hk' hf => (hF k hf).elim (fun x => x.1) fun x => by omega
  have hbt := fun W => bytes_any v (someN len) (someN_le len) W
  obtain ⟨s, hs⟩ : ∃ s, s = fillS v (someN len) := ⟨_, rfl⟩
  have HS : Hid (s = fillS v (someN len)) := hs
  rw [← hs] at hbt
  clear hs hp hk hr0 hr1 hb0
  obtain ⟨x0, x1, x2, x3, x4⟩ := HX.out w1 hf1.touch
  have hso := some_any len
  obtain ⟨mm, hmm⟩ : ∃ mm, mm = someN len := ⟨_, rfl⟩
  rw [← hmm] at hso hbt
  clear hmm
  go_enter Try.func17, Try.ntmps17
  go_wp2_with fail
  go_region_held3 (fun w' => w'.cell? ⟨P, 3, none⟩ = some (.int .u8 (v : Nat)) ∧ w'.cell? ⟨P, 2, none⟩ = some (.int .i64 len)) (first | exact ⟨(HX.out _ hfA.touch).2.2.2.1, (HX.out _ hfA.touch).2.2.1⟩ | exact ⟨x3, x2⟩) (first | (go_at_call 35; refine (hso _).mono ?_; rintro e wS ⟨rfl, rfl⟩) | (go_at_call 14; refine (hbt _).mono ?_; rintro e wA ⟨rfl, hA⟩; have hfA : Far (fun k => F k ∧ k < w.heap.size) w1 wA B1 B2 S S := Far.below (wc := w1.drew) (hf1.below (Below.refl _ _).drew) hA))
  obtain ⟨y0, y1, _, _, y4⟩ := HX.out wA hfA.touch
  clear x0 x1 x2 x3 x4 hf1 hso hbt hA hw1
  have hl := hfA.left (R := fun e => e = .returned (.int .i64 (spoilE S at_))) fun F1 h => (spoil_any B1 F1 S at_ wA h).mono fun _ _ ⟨he, h1, h2⟩ => ⟨he, plate_grow h1, h2⟩
  have hr : ∀ wB, Far (fun k => F k ∧ k < w.heap.size) w1 wB B1 B2 (spoilP S at_) S → Calls Try.prog 43 #[.pointer (some ⟨B2, 0, none⟩), .int .i64 at_] wB fun e w' => e = .returned (.int .i64 (spoilE S at_)) ∧ Far (fun k => F k ∧ k < w.heap.size) w1 w' B1 B2 (spoilP S at_) (spoilP S at_) := fun wB hfB => hfB.right (R := fun e => e = .returned (.int .i64 (spoilE S at_))) fun F2 h => (rspoil_any B2 F2 S at_ wB h).mono fun _ _ ⟨he, h1, h2⟩ => ⟨he, ref_grow h1, h2⟩
  have hl' : ∀ q, Calls Try.prog 16 #[.pointer (some ⟨B1, 0, none⟩), .int .i64 at_] (wA.drewN q) fun e w' => e = .returned (.int .i64 (spoilE S at_)) ∧ Far (fun k => F k ∧ k < w.heap.size) w1 w' B1 B2 (spoilP S at_) S := fun q => (hfA.below (w' := wA.drewN q) ⟨rfl, rfl, rfl, Nat.le_refl _, fun _ _ => rfl⟩).left (R := fun e => e = .returned (.int .i64 (spoilE S at_))) fun F1 h => (spoil_any B1 F1 S at_ (wA.drewN q) h).mono fun _ _ ⟨he, h1, h2⟩ => ⟨he, plate_grow h1, h2⟩
  clear hl
  obtain ⟨re, hre⟩ : ∃ re, re = spoilE S at_ := ⟨_, rfl⟩
  rw [← hre] at hr hl'
  go_wp2_with fail
  go_region_held3 (fun w' => w'.cell? ⟨P, 1, none⟩ = some (.int .i64 at_)) (first | exact (HX.out _ hfC.touch).2.1 | exact (HX.out _ hfB.touch).2.1 | exact y1) (first | (go_at_call 16; refine (hl' 1).mono ?_; rintro e wB ⟨rfl, hfB⟩) | (go_at_call 43; refine (hr _ hfB).mono ?_; rintro e wC ⟨rfl, hfC⟩))
  have HF : Hid (_ ∧ _) := HEND.out _ _ hfC
  clear hr hl' hfB hfC hfA hre
  go_wp2
  go_ret
  exact ⟨rfl, HF.out.1, HF.out.2⟩

set_option maxRecDepth 10000 in
set_option maxHeartbeats 2000000 in
theorem step4 (B1 B2 : Nat) (S : PS) (kd at_ len : Int) (v : Nat) (oa : Option Addr) (kl cap : Nat) (l : List Bool) (hkd : kd = 4) (F : Nat → Prop) (w : World) (hp : PairF w F B1 B2 S S) (hw : S.wait.length ≤ 1000000) (hk : Bools w F (.slice oa kl cap) l) :
    Calls Try.prog 17 #[.pointer (some ⟨B1, 0, none⟩), .pointer (some ⟨B2, 0, none⟩), .agg #[.int .i64 kd, .int .i64 at_, .int .i64 len, .int .u8 (v : Nat), .slice oa kl cap]] w fun e w' => e = .returned (.bool true) ∧ PairF w' (grow F w w') B1 B2 (flushP S) (flushP S) ∧ Touch F w w' := by
  subst hkd
  have hb0 : Below w.heap.size w (w.alloc (.cells #[.int .i64 4, .int .i64 at_, .int .i64 len, .int .u8 (v : Nat), .slice oa kl cap] 33)) := (Below.refl _ _).alloc (Nat.le_refl _) _
  have hr0 : Row (w.alloc (.cells #[.int .i64 4, .int .i64 at_, .int .i64 len, .int .u8 (v : Nat), .slice oa kl cap] 33)) w.heap.size 33 [.int .i64 4, .int .i64 at_, .int .i64 len, .int .u8 (v : Nat), .slice oa kl cap] := heap_alloc_new w _
  obtain ⟨w1, hw1⟩ : ∃ w1, w.alloc (.cells #[.int .i64 4, .int .i64 at_, .int .i64 len, .int .u8 (v : Nat), .slice oa kl cap] 33) = w1 := ⟨_, rfl⟩
  rw [hw1] at hb0 hr0
  obtain ⟨P, hP⟩ : ∃ P, w.heap.size = P := ⟨_, rfl⟩
  have hr1 : Row w1 P 33 [.int .i64 4, .int .i64 at_, .int .i64 len, .int .u8 (v : Nat), .slice oa kl cap] := by rw [← hP]; exact hr0
  have hf1 : Far (fun k => F k ∧ k < w.heap.size) w1 w1 B1 B2 S S := ⟨(hp.tight.keep hb0.size fun k hk _ => hb0.block k hk).mono fun k _ h => .inl h, Touch.refl _ _⟩
  have HX : Hid (∀ wc, Touch (fun k => F k ∧ k < w.heap.size) w1 wc → wc.cell? ⟨P, 0, none⟩ = some (.int .i64 4) ∧ wc.cell? ⟨P, 1, none⟩ = some (.int .i64 at_) ∧ wc.cell? ⟨P, 2, none⟩ = some (.int .i64 len) ∧ wc.cell? ⟨P, 3, none⟩ = some (.int .u8 (v : Nat)) ∧ wc.cell? ⟨P, 4, none⟩ = some (.slice oa kl cap)) := fun wc ht => by
    have hr : Row wc P _ _ := (ht.2 P hr1.lt fun h => by have := h.2; omega).trans hr1
    exact ⟨hr.cell 0, hr.cell 1, hr.cell 2, hr.cell 3, hr.cell 4⟩
  have HEND : Hid (∀ w' S', Far (fun k => F k ∧ k < w.heap.size) w1 w' B1 B2 S' S' → PairF w' (grow F w w') B1 B2 S' S' ∧ Touch F w w') := fun w' S' h => by
    have hs := h.touch.size
    have hs0 := hb0.size
    refine ⟨h.pair.mono fun k _ hk => ?_, ⟨(hb0.mono (Nat.zero_le _)).trans h.touch.1, fun k hk hn => (h.touch.2 k (by omega) fun x => hn x.1).trans (hb0.block k hk)⟩⟩
    rcases hk with x | x
    · exact .inl x.1
    · exact .inr ⟨by omega, x.2⟩
  have HK : Hid (∀ (wc : World) (F1 : Nat → Prop), Touch (fun k => F k ∧ k < w.heap.size) w1 wc → (∀ k, F1 k → grow (fun k => F k ∧ k < w.heap.size) w1 wc k) → Bools wc F1 (.slice oa kl cap) l) := fun wc F1 ht hF => by
    have hs0 := hb0.size
    exact bools_far hk (fun k hk' hn => (ht.2 k (by omega) fun x => hn x.1).trans (hb0.block k hk')) (by have := ht.size; omega) fun k hk' hf => (hF k hf).elim (fun x => x.1) fun x => by omega
  have hbt := fun W => bytes_any v (someN len) (someN_le len) W
  obtain ⟨s, hs⟩ : ∃ s, s = fillS v (someN len) := ⟨_, rfl⟩
  have HS : Hid (s = fillS v (someN len)) := hs
  rw [← hs] at hbt
  clear hs hp hk hr0 hr1 hb0
  obtain ⟨x0, x1, x2, x3, x4⟩ := HX.out w1 hf1.touch
  have hso := some_any len
  obtain ⟨mm, hmm⟩ : ∃ mm, mm = someN len := ⟨_, rfl⟩
  rw [← hmm] at hso hbt
  clear hmm
  go_enter Try.func17, Try.ntmps17
  go_wp2_with fail
  go_region_held3 (fun w' => w'.cell? ⟨P, 3, none⟩ = some (.int .u8 (v : Nat)) ∧ w'.cell? ⟨P, 2, none⟩ = some (.int .i64 len)) (first | exact ⟨(HX.out _ hfA.touch).2.2.2.1, (HX.out _ hfA.touch).2.2.1⟩ | exact ⟨x3, x2⟩) (first | (go_at_call 35; refine (hso _).mono ?_; rintro e wS ⟨rfl, rfl⟩) | (go_at_call 14; refine (hbt _).mono ?_; rintro e wA ⟨rfl, hA⟩; have hfA : Far (fun k => F k ∧ k < w.heap.size) w1 wA B1 B2 S S := Far.below (wc := w1.drew) (hf1.below (Below.refl _ _).drew) hA))
  obtain ⟨y0, y1, _, _, y4⟩ := HX.out wA hfA.touch
  clear x0 x1 x2 x3 x4 hf1 hso hbt hA hw1
  have hl := hfA.left (R := fun e => e = .returned (.int .i64 (flushE S))) fun F1 h => (flush_any B1 F1 S wA h hw).mono fun _ _ ⟨he, h1, h2⟩ => ⟨he, plate_grow h1, h2⟩
  go_wp2_with fail
  refine hl.mono ?_
  rintro e wB ⟨rfl, hfB⟩
  have hr := hfB.right (R := fun e => e = .returned (.int .i64 (flushE S))) fun F2 h => (rflush_any B2 F2 S wB h hw).mono fun _ _ ⟨he, h1, h2⟩ => ⟨he, ref_grow h1, h2⟩
  clear hl hfA
  generalize flushE S = re at *
  go_wp2_with fail
  refine hr.mono ?_
  rintro e wC ⟨rfl, hfC⟩
  have HF : Hid (_ ∧ _) := HEND.out _ _ hfC
  clear hr hfB hfC
  go_wp2
  go_ret
  exact ⟨rfl, HF.out.1, HF.out.2⟩

set_option maxRecDepth 10000 in
set_option maxHeartbeats 2000000 in
theorem step6 (B1 B2 : Nat) (S : PS) (kd at_ len : Int) (v : Nat) (oa : Option Addr) (kl cap : Nat) (l : List Bool) (hkd : kd = 6) (F : Nat → Prop) (w : World) (hp : PairF w F B1 B2 S S) (hw : S.wait.length ≤ 1000000) (hk : Bools w F (.slice oa kl cap) l) :
    Calls Try.prog 17 #[.pointer (some ⟨B1, 0, none⟩), .pointer (some ⟨B2, 0, none⟩), .agg #[.int .i64 kd, .int .i64 at_, .int .i64 len, .int .u8 (v : Nat), .slice oa kl cap]] w fun e w' => e = .returned (.bool true) ∧ PairF w' (grow F w w') B1 B2 (startP l S) (startP l S) ∧ Touch F w w' := by
  subst hkd
  have hb0 : Below w.heap.size w (w.alloc (.cells #[.int .i64 6, .int .i64 at_, .int .i64 len, .int .u8 (v : Nat), .slice oa kl cap] 33)) := (Below.refl _ _).alloc (Nat.le_refl _) _
  have hr0 : Row (w.alloc (.cells #[.int .i64 6, .int .i64 at_, .int .i64 len, .int .u8 (v : Nat), .slice oa kl cap] 33)) w.heap.size 33 [.int .i64 6, .int .i64 at_, .int .i64 len, .int .u8 (v : Nat), .slice oa kl cap] := heap_alloc_new w _
  obtain ⟨w1, hw1⟩ : ∃ w1, w.alloc (.cells #[.int .i64 6, .int .i64 at_, .int .i64 len, .int .u8 (v : Nat), .slice oa kl cap] 33) = w1 := ⟨_, rfl⟩
  rw [hw1] at hb0 hr0
  obtain ⟨P, hP⟩ : ∃ P, w.heap.size = P := ⟨_, rfl⟩
  have hr1 : Row w1 P 33 [.int .i64 6, .int .i64 at_, .int .i64 len, .int .u8 (v : Nat), .slice oa kl cap] := by rw [← hP]; exact hr0
  have hf1 : Far (fun k => F k ∧ k < w.heap.size) w1 w1 B1 B2 S S := ⟨(hp.tight.keep hb0.size fun k hk _ => hb0.block k hk).mono fun k _ h => .inl h, Touch.refl _ _⟩
  have HX : Hid (∀ wc, Touch (fun k => F k ∧ k < w.heap.size) w1 wc → wc.cell? ⟨P, 0, none⟩ = some (.int .i64 6) ∧ wc.cell? ⟨P, 1, none⟩ = some (.int .i64 at_) ∧ wc.cell? ⟨P, 2, none⟩ = some (.int .i64 len) ∧ wc.cell? ⟨P, 3, none⟩ = some (.int .u8 (v : Nat)) ∧ wc.cell? ⟨P, 4, none⟩ = some (.slice oa kl cap)) := fun wc ht => by
    have hr : Row wc P _ _ := (ht.2 P hr1.lt fun h => by have := h.2; omega).trans hr1
    exact ⟨hr.cell 0, hr.cell 1, hr.cell 2, hr.cell 3, hr.cell 4⟩
  have HEND : Hid (∀ w' S', Far (fun k => F k ∧ k < w.heap.size) w1 w' B1 B2 S' S' → PairF w' (grow F w w') B1 B2 S' S' ∧ Touch F w w') := fun w' S' h => by
    have hs := h.touch.size
    have hs0 := hb0.size
    refine ⟨h.pair.mono fun k _ hk => ?_, ⟨(hb0.mono (Nat.zero_le _)).trans h.touch.1, fun k hk hn => (h.touch.2 k (by omega) fun x => hn x.1).trans (hb0.block k hk)⟩⟩
    rcases hk with x | x
    · exact .inl x.1
    · exact .inr ⟨by omega, x.2⟩
  have HK : Hid (∀ (wc : World) (F1 : Nat → Prop), Touch (fun k => F k ∧ k < w.heap.size) w1 wc → (∀ k, F1 k → grow (fun k => F k ∧ k < w.heap.size) w1 wc k) → Bools wc F1 (.slice oa kl cap) l) := fun wc F1 ht hF => by
    have hs0 := hb0.size
    exact bools_far hk (fun k hk' hn => (ht.2 k (by omega) fun x => hn x.1).trans (hb0.block k hk')) (by have := ht.size; omega) fun k hk' hf => (hF k hf).elim (fun x => x.1) fun x => by omega
  have hbt := fun W => bytes_any v (someN len) (someN_le len) W
  obtain ⟨s, hs⟩ : ∃ s, s = fillS v (someN len) := ⟨_, rfl⟩
  have HS : Hid (s = fillS v (someN len)) := hs
  rw [← hs] at hbt
  clear hs hp hk hr0 hr1 hb0
  obtain ⟨x0, x1, x2, x3, x4⟩ := HX.out w1 hf1.touch
  have hso := some_any len
  obtain ⟨mm, hmm⟩ : ∃ mm, mm = someN len := ⟨_, rfl⟩
  rw [← hmm] at hso hbt
  clear hmm
  go_enter Try.func17, Try.ntmps17
  go_wp2_with fail
  go_region_held3 (fun w' => w'.cell? ⟨P, 3, none⟩ = some (.int .u8 (v : Nat)) ∧ w'.cell? ⟨P, 2, none⟩ = some (.int .i64 len)) (first | exact ⟨(HX.out _ hfA.touch).2.2.2.1, (HX.out _ hfA.touch).2.2.1⟩ | exact ⟨x3, x2⟩) (first | (go_at_call 35; refine (hso _).mono ?_; rintro e wS ⟨rfl, rfl⟩) | (go_at_call 14; refine (hbt _).mono ?_; rintro e wA ⟨rfl, hA⟩; have hfA : Far (fun k => F k ∧ k < w.heap.size) w1 wA B1 B2 S S := Far.below (wc := w1.drew) (hf1.below (Below.refl _ _).drew) hA))
  obtain ⟨y0, y1, _, _, y4⟩ := HX.out wA hfA.touch
  clear x0 x1 x2 x3 x4 hf1 hso hbt hA hw1
  have hl := hfA.leftF (R := fun e => e = .returned (.tuple #[])) fun F1 hF h => (start_any B1 F1 S _ l wA h hw (HK.out wA F1 hfA.touch hF)).mono fun _ _ ⟨he, h1, h2⟩ => ⟨he, plate_grow h1, h2⟩
  go_wp2_with fail
  refine hl.mono ?_
  rintro e wB ⟨rfl, hfB⟩
  have hr := hfB.rightF (R := fun e => e = .returned (.tuple #[])) fun F2 hF h => (rstart_any B2 F2 S _ l wB h hw (HK.out wB F2 hfB.touch hF)).mono fun _ _ ⟨he, h1, h2⟩ => ⟨he, ref_grow h1, h2⟩
  obtain ⟨_, _, _, _, z4⟩ := HX.out wB hfB.touch
  clear hl hfA
  go_wp2_with fail
  refine hr.mono ?_
  rintro e wC ⟨rfl, hfC⟩
  have HF : Hid (_ ∧ _) := HEND.out _ _ hfC
  clear hr hfB hfC
  go_wp2
  go_ret
  exact ⟨rfl, HF.out.1, HF.out.2⟩

set_option maxRecDepth 10000 in
set_option maxHeartbeats 2000000 in
theorem step0 (B1 B2 : Nat) (S : PS) (kd at_ len : Int) (v : Nat) (oa : Option Addr) (kl cap : Nat) (l : List Bool) (hkd : ¬ kd = 1 ∧ ¬ kd = 2 ∧ ¬ kd = 3 ∧ ¬ kd = 4 ∧ ¬ kd = 5 ∧ ¬ kd = 6 ∧ ¬ kd = 7 ∧ ¬ kd = 8) (F : Nat → Prop) (w : World) (hp : PairF w F B1 B2 S S) (_ : S.wait.length ≤ 1000000) (hk : Bools w F (.slice oa kl cap) l) :
    Calls Try.prog 17 #[.pointer (some ⟨B1, 0, none⟩), .pointer (some ⟨B2, 0, none⟩), .agg #[.int .i64 kd, .int .i64 at_, .int .i64 len, .int .u8 (v : Nat), .slice oa kl cap]] w fun e w' => e = .returned (.bool true) ∧ PairF w' (grow F w w') B1 B2 (S) (S) ∧ Touch F w w' := by
  obtain ⟨k1, k2, k3, k4, k5, k6, k7, k8⟩ := hkd
  have hb0 : Below w.heap.size w (w.alloc (.cells #[.int .i64 kd, .int .i64 at_, .int .i64 len, .int .u8 (v : Nat), .slice oa kl cap] 33)) := (Below.refl _ _).alloc (Nat.le_refl _) _
  have hr0 : Row (w.alloc (.cells #[.int .i64 kd, .int .i64 at_, .int .i64 len, .int .u8 (v : Nat), .slice oa kl cap] 33)) w.heap.size 33 [.int .i64 kd, .int .i64 at_, .int .i64 len, .int .u8 (v : Nat), .slice oa kl cap] := heap_alloc_new w _
  obtain ⟨w1, hw1⟩ : ∃ w1, w.alloc (.cells #[.int .i64 kd, .int .i64 at_, .int .i64 len, .int .u8 (v : Nat), .slice oa kl cap] 33) = w1 := ⟨_, rfl⟩
  rw [hw1] at hb0 hr0
  obtain ⟨P, hP⟩ : ∃ P, w.heap.size = P := ⟨_, rfl⟩
  have hr1 : Row w1 P 33 [.int .i64 kd, .int .i64 at_, .int .i64 len, .int .u8 (v : Nat), .slice oa kl cap] := by rw [← hP]; exact hr0
  have hf1 : Far (fun k => F k ∧ k < w.heap.size) w1 w1 B1 B2 S S := ⟨(hp.tight.keep hb0.size fun k hk _ => hb0.block k hk).mono fun k _ h => .inl h, Touch.refl _ _⟩
  have HX : Hid (∀ wc, Touch (fun k => F k ∧ k < w.heap.size) w1 wc → wc.cell? ⟨P, 0, none⟩ = some (.int .i64 kd) ∧ wc.cell? ⟨P, 1, none⟩ = some (.int .i64 at_) ∧ wc.cell? ⟨P, 2, none⟩ = some (.int .i64 len) ∧ wc.cell? ⟨P, 3, none⟩ = some (.int .u8 (v : Nat)) ∧ wc.cell? ⟨P, 4, none⟩ = some (.slice oa kl cap)) := fun wc ht => by
    have hr : Row wc P _ _ := (ht.2 P hr1.lt fun h => by have := h.2; omega).trans hr1
    exact ⟨hr.cell 0, hr.cell 1, hr.cell 2, hr.cell 3, hr.cell 4⟩
  have HEND : Hid (∀ w' S', Far (fun k => F k ∧ k < w.heap.size) w1 w' B1 B2 S' S' → PairF w' (grow F w w') B1 B2 S' S' ∧ Touch F w w') := fun w' S' h => by
    have hs := h.touch.size
    have hs0 := hb0.size
    refine ⟨h.pair.mono fun k _ hk => ?_, ⟨(hb0.mono (Nat.zero_le _)).trans h.touch.1, fun k hk hn => (h.touch.2 k (by omega) fun x => hn x.1).trans (hb0.block k hk)⟩⟩
    rcases hk with x | x
    · exact .inl x.1
    · exact .inr ⟨by omega, x.2⟩
  have HK : Hid (∀ (wc : World) (F1 : Nat → Prop), Touch (fun k => F k ∧ k < w.heap.size) w1 wc → (∀ k, F1 k → grow (fun k => F k ∧ k < w.heap.size) w1 wc k) → Bools wc F1 (.slice oa kl cap) l) := fun wc F1 ht hF => by
    have hs0 := hb0.size
    exact bools_far hk (fun k hk' hn => (ht.2 k (by omega) fun x => hn x.1).trans (hb0.block k hk')) (by have := ht.size; omega) fun k hk' hf => (hF k hf).elim (fun x => x.1) fun x => by omega
  have hbt := fun W => bytes_any v (someN len) (someN_le len) W
  obtain ⟨s, hs⟩ : ∃ s, s = fillS v (someN len) := ⟨_, rfl⟩
  have HS : Hid (s = fillS v (someN len)) := hs
  rw [← hs] at hbt
  clear hs hp hk hr0 hr1 hb0
  obtain ⟨x0, x1, x2, x3, x4⟩ := HX.out w1 hf1.touch
  have hso := some_any len
  obtain ⟨mm, hmm⟩ : ∃ mm, mm = someN len := ⟨_, rfl⟩
  rw [← hmm] at hso hbt
  clear hmm
  go_enter Try.func17, Try.ntmps17
  go_wp2_with fail
  go_region_held3 (fun w' => w'.cell? ⟨P, 3, none⟩ = some (.int .u8 (v : Nat)) ∧ w'.cell? ⟨P, 2, none⟩ = some (.int .i64 len)) (first | exact ⟨(HX.out _ hfA.touch).2.2.2.1, (HX.out _ hfA.touch).2.2.1⟩ | exact ⟨x3, x2⟩) (first | (go_at_call 35; refine (hso _).mono ?_; rintro e wS ⟨rfl, rfl⟩) | (go_at_call 14; refine (hbt _).mono ?_; rintro e wA ⟨rfl, hA⟩; have hfA : Far (fun k => F k ∧ k < w.heap.size) w1 wA B1 B2 S S := Far.below (wc := w1.drew) (hf1.below (Below.refl _ _).drew) hA))
  obtain ⟨y0, y1, _, _, y4⟩ := HX.out wA hfA.touch
  clear x0 x1 x2 x3 x4 hf1 hso hbt hA hw1
  have HF : Hid (_ ∧ _) := HEND.out _ _ hfA
  clear hfA
  go_wp2
  go_ret
  exact ⟨rfl, HF.out.1, HF.out.2⟩

theorem step_any (B1 B2 : Nat) (S : PS) (x : OpT) (hat : x.at_ < 9223372036854775808) (F : Nat → Prop) (w : World) (hp : PairF w F B1 B2 S S) (hw : S.wait.length ≤ 1000000) (hk : Bools w F x.kv x.keep) :
    Calls Try.prog 17 #[.pointer (some ⟨B1, 0, none⟩), .pointer (some ⟨B2, 0, none⟩), opV x] w fun e w' => e = .returned (.bool true) ∧ PairF w' (grow F w w') B1 B2 (stepP S x) (stepP S x) ∧ Touch F w w' := by
  obtain ⟨kd, at_, len, v, kv, keep⟩ := x
  obtain ⟨oa, cap, hkv⟩ := hk.form
  have hkv : kv = .slice oa keep.length cap := hkv
  subst hkv
  unfold opV stepP
  by_cases h1 : kd = 1
  · have h := step1 B1 B2 S kd at_ len v oa keep.length cap keep h1 F w hp hw hk
    simpa only [h1, if_true] using h
  by_cases h2 : kd = 2
  · have h := step2 B1 B2 S kd at_ len v oa keep.length cap keep h2 F w hp hw hk
    rw [if_neg h1, if_neg (by show ¬ kd = 3; omega), if_neg (by show ¬ kd = 4; omega), if_neg (by show ¬ kd = 5; omega), if_neg (by show ¬ kd = 6; omega), if_neg (by show ¬ kd = 7; omega), if_neg (by show ¬ kd = 8; omega)]
    exact h
  rw [if_neg h1]
  by_cases h3 : kd = 3
  · rw [if_pos h3]; exact step3 B1 B2 S kd at_ len v oa keep.length cap keep h3 F w hp hw hk
  rw [if_neg h3]
  by_cases h4 : kd = 4
  · rw [if_pos h4]; exact step4 B1 B2 S kd at_ len v oa keep.length cap keep h4 F w hp hw hk
  rw [if_neg h4]
  by_cases h5 : kd = 5
  · rw [if_pos h5]; exact step5 B1 B2 S kd at_ len v oa keep.length cap keep h5 hat F w hp hw hk
  rw [if_neg h5]
  by_cases h6 : kd = 6
  · rw [if_pos h6]; exact step6 B1 B2 S kd at_ len v oa keep.length cap keep h6 F w hp hw hk
  rw [if_neg h6]
  by_cases h7 : kd = 7
  · rw [if_pos h7]; exact step7 B1 B2 S kd at_ len v oa keep.length cap keep h7 F w hp hw hk
  rw [if_neg h7]
  by_cases h8 : kd = 8
  · rw [if_pos h8]; exact step8 B1 B2 S kd at_ len v oa keep.length cap keep h8 F w hp hw hk
  rw [if_neg h8]
  exact step0 B1 B2 S kd at_ len v oa keep.length cap keep ⟨h1, h2, h3, h4, h5, h6, h7, h8⟩ F w hp hw hk
theorem step_wait (S : PS) (x : OpT) : (stepP S x).wait.length ≤ S.wait.length + 1 := by
  unfold stepP readP flushP armP layP spoilP writeP startP settleP
  repeat' split
  all_goals simp
end Go.Proofs.Ytmnojmcbghdciaa
