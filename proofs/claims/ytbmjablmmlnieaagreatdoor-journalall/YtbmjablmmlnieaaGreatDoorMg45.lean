/- The law JournalAll: the first commit, and what the second one is of; arithmetic, nothing of the program's calls. · The laws' awake: what is committed is found. · journal's Commit refused: too many blocks; blocks that may not be written together. -/
import Derived.Test.YtbmjablmmlnieaaGreatDoorMg35
import Derived.Test.YtbmjablmmlnieaaGreatDoorMg37
import Derived.Test.YtbmjablmmlnieaaGreatDoorMg36
import Derived.Test.YtbmjablmmlnieaaGreatDoorMg40
import Derived.Test.YtbmjablmmlnieaaGreatDoorMg15
import Derived.Test.YtbmjablmmlnieaaGreatDoorMg19
import Derived.Test.YtbmjablmmlnieaaGreatDoorMg38
namespace Go.Proofs.YtbmjablmmlnieaaGreatDoor
set_option maxRecDepth 20000
open Go.RowKit

def oldW (x : Wt) : Wt := ⟨x.at_, x.raw.extract 0 48 ++ fillS 9 464⟩
theorem oldW_size {x : Wt} (h : x.raw.size = 512) : (oldW x).raw.size = 512 := by
  show (x.raw.extract 0 48 ++ fillS 9 464).size = 512
  rw [ByteArray.size_append, ByteArray.size_extract, fillS_size, h]
  rfl
theorem oldW_head {x : Wt} (h : x.raw.size = 512) : (oldW x).raw.extract 0 48 = x.raw.extract 0 48 := by
  have h2 : (x.raw.extract 0 48).size = 48 := by rw [ByteArray.size_extract, h]; rfl
  exact (ba_cut (b := fillS 9 464) h2).1
theorem oldW_hdB {x : Wt} (h : x.raw.size = 512) : hdB (oldW x) = hdB x := by
  unfold hdB
  rw [oldW_head h, oldW_size h, h]
  rfl
theorem oldW_tog : ∀ (l : List Wt) (a b : Int), (∀ x, x ∈ l → x.raw.size = 512) → togB a b (l.map oldW) = togB a b l
  | [], _, _, _ => rfl
  | x :: l, a, b, h => by
    rw [List.map_cons, togB, togB, oldW_hdB (h x (List.mem_cons_self ..))]
    show (decide (a ≤ x.at_ ∧ x.at_ < b) && hdB x && togB (x.at_ + 1) b (l.map oldW)) = _
    rw [oldW_tog l _ _ fun y hy => h y (List.mem_cons_of_mem _ hy)]
theorem wrs_size {l : List Blk} : ∀ x, x ∈ wrsL l → x.raw.size = 512 := by
  intro x hx
  unfold wrsL at hx
  obtain ⟨y, _, rfl⟩ := List.mem_map.1 hx
  exact y.raw_size

/-- A commit of blocks that may be written together. -/
structure OkL (O : List Wt) : Prop where
  tog : togB 27 48 O = true
  len : O.length ≤ 24
theorem OkL.far {O : List Wt} (h : OkL O) {x : Wt} (hx : x ∈ O) : 27 ≤ x.at_ ∧ x.at_ < 48 ∧ x.raw.size = 512 := by
  obtain ⟨h1, h2, h3⟩ := togB_all O 27 48 h.tog x hx
  exact ⟨h1, h2, (of_decide_eq_true h3).1⟩
theorem OkL.nat {O : List Wt} (h : OkL O) {x : Wt} (hx : x ∈ O) : ((x.at_.toNat : Nat) : Int) = x.at_ := Int.toNat_of_nonneg (by have := h.far hx; omega)
theorem OkL.fit {O : List Wt} (h : OkL O) {x : Wt} (hx : x ∈ O) : FitW 784 x := ⟨⟨x.at_.toNat, (h.nat hx).symm, by have := h.far hx; omega⟩, (h.far hx).2.2⟩
theorem recs_fit {O : List Wt} (h : OkL O) {x : Wt} (hx : x ∈ recsL 3 0 O) : FitW 784 x := by
  obtain ⟨j, y, h1, rfl⟩ := recsL_mem _ _ _ _ hx
  have h2 := (List.getElem?_eq_some_iff.1 h1).1
  have h3 := h.len
  exact ⟨⟨3 + j, by show (3 : Int) + ((0 + j : Nat) : Int) = _; omega, by omega⟩, (h.far (List.mem_of_getElem? h1)).2.2⟩

def cS2 (B : Nat) (O : List Wt) : VS := proP (idealK B) (aS1 B) O (lawSp 48 1)
def cRp (B : Nat) (O : List Wt) : ByteArray := proR (idealK B) (aS1 B) O (lawSp 48 1)
def cT1 (B : Nat) (O : List Wt) : ByteArray := proT (idealK B) (aS1 B) O (lawSp 48 1)
def cS3 (B : Nat) (O : List Wt) : VS := supP (idealK B) (cS2 B O) (lawSp 48 1)
def cR1 (B : Nat) (O : List Wt) : ByteArray := supR (idealK B) (cS2 B O) (lawSp 48 1)
def cP2 (B : Nat) (O : List Wt) : PS := folP [recsL 3 0 O, [⟨2, cRp B O⟩], O, [⟨1, cR1 B O⟩]] (aP1 B)
def cS4 (B : Nat) (O N : List Wt) : VS := proP (idealK B) (cS3 B O) N (lawSp 48 2)
def cRq (B : Nat) (O N : List Wt) : ByteArray := proR (idealK B) (cS3 B O) N (lawSp 48 2)
def cT2 (B : Nat) (O N : List Wt) : ByteArray := proT (idealK B) (cS3 B O) N (lawSp 48 2)
def cS5 (B : Nat) (O N : List Wt) : VS := supP (idealK B) (cS4 B O N) (lawSp 48 2)
def cR2 (B : Nat) (O N : List Wt) : ByteArray := supR (idealK B) (cS4 B O N) (lawSp 48 2)
def cX (B : Nat) (O N : List Wt) : Cx := ⟨O, N, aR0 B, cR1 B O, cR2 B O N, cRp B O, cRq B O N, cT1 B O, cT2 B O N⟩
theorem room_of (B : Nat) {T : VS} {k : Nat} (h : T.texts.length + k ≤ 1000000 ∧ T.seals.length + k ≤ 1000000) : (idealK B).room T k := h
/-- A promise and a superblock of the ideal vault: what the vault has behind them. -/
theorem step_pro (B : Nat) (T : VS) (O : List Wt) (s : Sp) (hO : O.length ≤ 24) (he : s.err = 0) (hh : s.hdC.err = 0) (hr : T.texts.length ≤ 1000 ∧ T.seals.length ≤ 1000) : proE (idealK B) T O s = 0 ∧ Sealed (proP (idealK B) T O s) s.hdC (proT (idealK B) T O s) (proR (idealK B) T O s) ∧ (proP (idealK B) T O s).texts = addN T.texts (joinB O) ∧ (proP (idealK B) T O s).texts.length ≤ T.texts.length + 1 ∧ (proP (idealK B) T O s).seals.length ≤ T.seals.length + 1 ∧ ∀ h t r, Sealed T h t r → Sealed (proP (idealK B) T O s) h t r := by
  obtain ⟨x0, x1, x2⟩ := pro_sealed B T (l := O) (s := s) (room_of B (by omega)) hO he hh
  have l2 := ideal_len (hashP T (joinB O)) s.hdC (proT (idealK B) T O s)
  have e0 : (bsealP (hashP T (joinB O)) s.hdC (proT (idealK B) T O s)).texts = (hashP T (joinB O)).texts := by unfold bsealP; split <;> rfl
  have e1 : (hashP T (joinB O)).texts = addN T.texts (joinB O) := rfl
  have e2 : (hashP T (joinB O)).seals.length = T.seals.length := rfl
  have e3 := addN_length T.texts (joinB O)
  refine ⟨x0, x1, by rw [x2, e0, e1], ?_, ?_, ?_⟩
  · rw [x2, e0, e1]; exact e3
  · rw [x2]; omega
  · intro h t r hs
    rw [x2]
    exact (hs.hash _).add _ _
theorem step_sup (B : Nat) (T : VS) (s : Sp) (he : s.err = 0) (hh : s.hd.err = 0) : supE s = 0 ∧ Sealed (supP (idealK B) T s) s.hd s.txt (supR (idealK B) T s) ∧ (supP (idealK B) T s).texts = T.texts ∧ (supP (idealK B) T s).seals.length ≤ T.seals.length + 1 ∧ ∀ h t r, Sealed T h t r → Sealed (supP (idealK B) T s) h t r := by
  obtain ⟨x0, x1, x2⟩ := sup_sealed B T he hh
  have l2 := ideal_len T s.hd s.txt
  have e0 : (bsealP T s.hd s.txt).texts = T.texts := by unfold bsealP; split <;> rfl
  refine ⟨x0, x1, by rw [x2, e0], ?_, ?_⟩
  · rw [x2]; exact l2.2
  · intro h t r hs
    rw [x2]
    exact hs.add _ _
structure CRoom (B : Nat) (O N : List Wt) : Prop where
  t1 : (aS1 B).texts.length ≤ 100 ∧ (aS1 B).seals.length ≤ 100
  t2 : (cS2 B O).texts.length ≤ 101 ∧ (cS2 B O).seals.length ≤ 101
  t3 : (cS3 B O).texts.length ≤ 101 ∧ (cS3 B O).seals.length ≤ 102
  t4 : (cS4 B O N).texts.length ≤ 102 ∧ (cS4 B O N).seals.length ≤ 103
  t5 : (cS5 B O N).texts.length ≤ 102 ∧ (cS5 B O N).seals.length ≤ 104
theorem c_room (B : Nat) {O N : List Wt} (hO : O.length ≤ 24) (hN : N.length ≤ 24) : CRoom B O N := by
  obtain ⟨e1, h1, c1⟩ := law_err2 1 (.inr (.inl rfl))
  obtain ⟨e2, h2, c2⟩ := law_err2 2 (.inr (.inr rfl))
  have ha := aS_room B
  have t1 : (aS1 B).texts.length ≤ 100 ∧ (aS1 B).seals.length ≤ 100 := by omega
  obtain ⟨_, _, _, p1, p2, _⟩ := step_pro B (aS1 B) O (lawSp 48 1) hO e1 c1 (by omega)
  have t2 : (cS2 B O).texts.length ≤ 101 ∧ (cS2 B O).seals.length ≤ 101 := by unfold cS2; omega
  obtain ⟨_, _, q1, q2, _⟩ := step_sup B (cS2 B O) (lawSp 48 1) e1 h1
  have t3 : (cS3 B O).texts.length ≤ 101 ∧ (cS3 B O).seals.length ≤ 102 := by unfold cS3; rw [q1]; omega
  obtain ⟨_, _, _, u1, u2, _⟩ := step_pro B (cS3 B O) N (lawSp 48 2) hN e2 c2 (by omega)
  have t4 : (cS4 B O N).texts.length ≤ 102 ∧ (cS4 B O N).seals.length ≤ 103 := by unfold cS4; omega
  obtain ⟨_, _, v1, v2, _⟩ := step_sup B (cS4 B O N) (lawSp 48 2) e2 h2
  exact ⟨t1, t2, t3, t4, by unfold cS5; rw [v1]; omega⟩
theorem c_vst (B : Nat) {O N : List Wt} (hO : O.length ≤ 24) (hN : N.length ≤ 24) : VSt (cX B O N) (cS5 B O N) 800 := by
  obtain ⟨e1, h1, c1⟩ := law_err2 1 (.inr (.inl rfl))
  obtain ⟨e2, h2, c2⟩ := law_err2 2 (.inr (.inr rfl))
  have R := c_room B hO hN
  obtain ⟨s0, _, _⟩ := aS_sealed B
  have z0 : Sealed (aS1 B) (lawSp 48 0).hd (lawSp 48 0).txt (aR0 B) := by
    obtain ⟨e0, h0, _⟩ := law_err 0 (.inl rfl)
    obtain ⟨_, s1, _⟩ := sup_sealed B newV e0 h0
    exact s1
  obtain ⟨_, p1, _, _, _, p2⟩ := step_pro B (aS1 B) O (lawSp 48 1) hO e1 c1 (by have := R.t1; omega)
  obtain ⟨_, q1, _, _, q2⟩ := step_sup B (cS2 B O) (lawSp 48 1) e1 h1
  obtain ⟨_, u1, u3, _, _, u2⟩ := step_pro B (cS3 B O) N (lawSp 48 2) hN e2 c2 (by have := R.t3; omega)
  obtain ⟨_, v1, v3, _, v2⟩ := step_sup B (cS4 B O N) (lawSp 48 2) e2 h2
  have tx : (cS5 B O N).texts = addN (cS3 B O).texts (joinB N) := by unfold cS5; rw [v3]; exact u3
  have hn : numOf (cS5 B O N).texts (joinB N) ≠ 0 := by rw [tx]; exact numOf_add_pos _ _
  have y0 : Sealed (cS5 B O N) (lawSp 48 0).hd (lawSp 48 0).txt (aR0 B) := v2 _ _ _ (u2 _ _ _ (q2 _ _ _ (p2 _ _ _ z0)))
  have y1 : Sealed (cS5 B O N) (lawSp 48 1).hd (lawSp 48 1).txt (cR1 B O) := v2 _ _ _ (u2 _ _ _ q1)
  have y2 : Sealed (cS5 B O N) (lawSp 48 2).hd (lawSp 48 2).txt (cR2 B O N) := v1
  have y3 : Sealed (cS5 B O N) (lawSp 48 1).hdC (cT1 B O) (cRp B O) := v2 _ _ _ (u2 _ _ _ (q2 _ _ _ p1))
  have y4 : Sealed (cS5 B O N) (lawSp 48 2).hdC (cT2 B O N) (cRq B O N) := v2 _ _ _ u1
  have hh : hashS (cS5 B O N) (joinB N) = (cT2 B O N).extract 2 34 := by
    have ph : (cT2 B O N).extract 2 34 = (idealK B).hS (cS3 B O) (joinB N) := pro_hash (idealOk B) (room_of B (by have := R.t3; omega)) hN e2
    have ph2 : (idealK B).hS (cS3 B O) (joinB N) = hashS (cS3 B O) (joinB N) := rfl
    rw [ph, ph2, hashS_had hn, tx]
    rfl
  have hro : (cS5 B O N).texts.length + 800 ≤ 1000 ∧ (cS5 B O N).seals.length + 800 ≤ 1000 := by have := R.t5; omega
  show VSt ⟨O, N, aR0 B, cR1 B O, cR2 B O N, cRp B O, cRq B O N, cT1 B O, cT2 B O N⟩ _ _
  generalize cS5 B O N = T5 at *
  generalize cT2 B O N = t2 at *
  generalize cT1 B O = t1 at *
  refine ⟨y0, y1, y2, ?_, ?_, hn, hh, hro⟩
  · dsimp only
    exact y3
  · dsimp only
    exact y4
theorem c_ok (B : Nat) {O N : List Wt} (hO : OkL O) (hN : OkL N) : CxOk (cX B O N) := by
  obtain ⟨e1, h1, c1⟩ := law_err2 1 (.inr (.inl rfl))
  obtain ⟨e2, h2, c2⟩ := law_err2 2 (.inr (.inr rfl))
  have R := c_room B hO.len hN.len
  obtain ⟨_, _, a3⟩ := pro_pi (idealOk B) (S := aS1 B) (l := O) (s := lawSp 48 1) (room_of B (by have := R.t1; omega)) hO.len e1
  have b := pro_pi (idealOk B) (S := cS3 B O) (l := N) (s := lawSp 48 2) (room_of B (by have := R.t3; omega)) hN.len e2
  have a4 : piS ⟨true, (lawSp 48 1).hdC, cT1 B O⟩ 48 = lawSp 48 1 := a3
  have b4 : piB ⟨true, (lawSp 48 2).hdC, cT2 B O N⟩ 48 = true ∧ piN ⟨true, (lawSp 48 2).hdC, cT2 B O N⟩ 48 = (N.length : Int) ∧ piS ⟨true, (lawSp 48 2).hdC, cT2 B O N⟩ 48 = lawSp 48 2 := b
  show CxOk ⟨O, N, aR0 B, cR1 B O, cR2 B O N, cRp B O, cRq B O N, cT1 B O, cT2 B O N⟩
  generalize cT2 B O N = t2 at *
  generalize cT1 B O = t1 at *
  exact ⟨hN.tog, hN.len, fun x hx => (hO.far hx).1, fun x hx => (hO.far hx).2.2, a4, b4⟩
theorem lastW_12 (x : ByteArray) : lastW [⟨1, x⟩] ((2 : Nat) : Int) = none := rfl
theorem lastW_22 (x : ByteArray) : lastW [⟨2, x⟩] ((2 : Nat) : Int) = some x := rfl
/-- The device behind the first commit. -/
structure CDev (B : Nat) (O : List Wt) : Prop where
  ans : folE [recsL 3 0 O, [⟨2, cRp B O⟩], O, [⟨1, cR1 B O⟩]] (aP1 B) = 0
  fine : Fine (cP2 B O) 784
  wait : (cP2 B O).wait = []
  m0 : Mix (cP2 B O) 0 [aR0 B]
  m1 : Mix (cP2 B O) 1 [cR1 B O]
  m2 : Mix (cP2 B O) 2 [cRp B O]
  blk : BlkIn (cP2 B O) O
theorem lastW_recs {O : List Wt} (h : OkL O) {b : Int} (hb : b < 3 ∨ 27 ≤ b) : lastW (recsL 3 0 O) b = none := lastW_none _ _ fun x hx => by
  obtain ⟨j, y, h1, rfl⟩ := recsL_mem _ _ _ _ hx
  have h2 := (List.getElem?_eq_some_iff.1 h1).1
  have h3 := h.len
  show ¬ (3 : Int) + ((0 + j : Nat) : Int) = b
  omega
theorem lastW_far {O : List Wt} (h : OkL O) {b : Int} (hb : b < 27) : lastW O b = none := lastW_none _ _ fun x hx => by
  have := h.far hx
  omega
theorem c_dev (B : Nat) {O : List Wt} (hO : OkL O) : CDev B O := by
  have hV : VSt ⟨O, [], aR0 B, cR1 B O, cR2 B O [], cRp B O, cRq B O [], cT1 B O, cT2 B O []⟩ (cS5 B O []) 800 := c_vst B (O := O) (N := []) hO.len (by decide)
  have hR := hV.room
  have z0 := hV.s0.size (by omega)
  have z1 : (cR1 B O).size = 512 := hV.s1.size (by omega)
  have hp1 := hV.p1
  dsimp only at hp1
  have y1 : (cRp B O).size = 512 := hp1.size (by omega)
  obtain ⟨_, hf, hw, hs0⟩ := aP1_fine B
  obtain ⟨h1, h2, h3, h4⟩ := fol_fine [recsL 3 0 O, [⟨2, cRp B O⟩], O, [⟨1, cR1 B O⟩]] hf hw (by
    intro l hl x hx
    simp only [List.mem_cons, List.not_mem_nil, or_false] at hl
    rcases hl with rfl | rfl | rfl | rfl
    · exact recs_fit hO hx
    · rw [List.mem_singleton] at hx
      subst hx
      exact fit_of (a := 2) (by decide) y1
    · exact hO.fit hx
    · rw [List.mem_singleton] at hx
      subst hx
      exact fit_of (a := 1) (by decide) z1)
  have ef : ([recsL 3 0 O, [⟨2, cRp B O⟩], O, [⟨1, cR1 B O⟩]] : List (List Wt)).flatten = recsL 3 0 O ++ ([⟨2, cRp B O⟩] ++ (O ++ [⟨1, cR1 B O⟩])) := by simp
  have key : ∀ (b : Nat) (x : ByteArray), ((lastW [⟨1, cR1 B O⟩] (b : Int)).or (lastW O (b : Int))).or (lastW [⟨2, cRp B O⟩] (b : Int)) = some x → Mix (cP2 B O) b [x] := fun b x hx => seen_mix h3 (h4 b x (by
    rw [ef]
    unfold SeenL
    rw [lastW_append, lastW_append, lastW_append, hx]
    rfl))
  refine ⟨h1, h2, h3, seen_mix h3 (h4 0 _ ?_), key 1 _ rfl, key 2 _ ?_, fun x hx => key _ _ ?_⟩
  · rw [ef]
    unfold SeenL
    have l0 : lastW (recsL 3 0 O) ((0 : Nat) : Int) = none := lastW_recs hO (.inl (by decide))
    have l1 : lastW O ((0 : Nat) : Int) = none := lastW_far hO (by decide)
    rw [lastW_append, lastW_append, lastW_append, l0, l1]
    exact hs0
  · have l1 : lastW O ((2 : Nat) : Int) = none := lastW_far hO (by decide)
    rw [l1, lastW_12, lastW_22]
    generalize cRp B O = z
    rfl
  · have hf := hO.far hx
    rw [hO.nat hx, togB_last O _ _ hO.tog x hx]
    have l1 : lastW [⟨1, cR1 B O⟩] x.at_ = none := lastW_none _ _ fun y hy => by
      rw [List.mem_singleton] at hy
      subst hy
      show ¬ (1 : Int) = x.at_
      omega
    rw [l1]
    rfl
end Go.Proofs.YtbmjablmmlnieaaGreatDoor

namespace Go.Proofs.YtbmjablmmlnieaaGreatDoor
set_option maxRecDepth 20000
open Go.RowKit

theorem sonS_up (K : VK) (P : PS) (S : K.σ) (s : Sp) (h : P.up = true) : sonS K P S s = supP K S s := if_pos h
theorem blks_one (w : World) (g : Nat) (t cap : Nat) (hg : g = w.heap.size) : Blks (w.alloc (.cells #[.int .i64 40, .int .u8 1, .bool false] t)) (.slice (some ⟨g, 0, none⟩) 1 cap) [aB] := by
  subst hg
  have g := heap_alloc_new w (.cells #[.int .i64 40, .int .u8 1, .bool false] t)
  refine .inr ⟨w.heap.size, 0, cap, rfl, by simp, fun i x hx => ?_⟩
  have hi : i = 0 := by have := (List.getElem?_eq_some_iff.1 hx).1; simp at this; omega
  subst hi
  cases hx
  exact ⟨cell_of_row _ _ 0 _ _ _ g, cell_of_row _ _ 1 _ _ _ g, cell_of_row _ _ 2 _ _ _ g⟩
theorem awk_fmt (F : Nat → Prop) (B V : Nat) (w : World) (h : Duo (idealK V) w F B (newP 784) newV) (hg : ErrT w) (hF : ¬ F 0) :
    Calls Tryz.prog 17 #[.pointer (some ⟨B, 0, none⟩), .pointer (some ⟨V, 0, none⟩), .agg (lawSp 48 0).arr] w fun e w' => e = .returned (.int .i64 0) ∧ Duo (idealK V) w' (grow F w w') B (aP1 V) (aS1 V) ∧ Touch F w w' := by
  obtain ⟨e0, h0, _⟩ := law_err 0 (.inl rfl)
  obtain ⟨x0, _, _⟩ := sup_sealed V newV e0 h0
  have hup : (newP 784).up = true := rfl
  have hl : (newP 784).kept.length = 784 := by show (List.replicate 784 (fillS 0 64)).length = 784; rw [List.length_replicate]
  have hE : sonE (newP 784) (lawSp 48 0) = 0 := by unfold sonE; rw [if_pos hup]; exact x0
  have hA : sonA (newP 784) (lawSp 48 0) = 0 := by unfold sonA; rw [if_pos hup]; unfold supA; rw [if_pos x0]; rfl
  have hR : sonR (idealK V) (newP 784) newV (lawSp 48 0) = aR0 V := by unfold sonR; rw [if_pos hup]; rfl
  have hS : sonS (idealK V) (newP 784) newV (lawSp 48 0) = aS1 V := sonS_up (idealK V) _ _ _ hup
  have hroom : (idealK V).room newV 1 := by show (0 : Nat) + 1 ≤ 1000000 ∧ (0 : Nat) + 1 ≤ 1000000; omega
  have q := format_in (idealK V) (idealOk V) F B (newP 784) newV (lawSp 48 0) w 0 (aR0 V) h hroom (by show (0 : Nat) ≤ 100000; omega) hg hF (by rw [hl]; exact ⟨a784.1, a784.2.1⟩) e0 hE hA ⟨by decide, by decide⟩ hR
  rw [hS, (aP1_fine V).1] at q
  exact q
theorem awk_com (F : Nat → Prop) (B V : Nat) (oa : Option Addr) (ca : Nat) (w : World) (h : Duo (idealK V) w F B (aP1 V) (aS1 V)) (hg : ErrT w) (hF : ¬ F 0) (hv : WtO F w (.slice oa aW.length ca) aW) :
    Calls Tryz.prog 19 #[.pointer (some ⟨B, 0, none⟩), .pointer (some ⟨V, 0, none⟩), .slice oa aW.length ca, .agg (lawSp 48 1).arr] w fun e w' => e = .returned (.int .i64 0) ∧ Duo (idealK V) w' (grow F w w') B (aP2 V) (aS3 V) ∧ Touch F w w' := by
  obtain ⟨e1, h1, c1⟩ := law_err 1 (.inr rfl)
  have hro := aS_room V
  have hr1 : (idealK V).room (aS1 V) 2 := by
    show (aS1 V).texts.length + 2 ≤ 1000000 ∧ (aS1 V).seals.length + 2 ≤ 1000000
    omega
  have hr2 : (idealK V).room (aS2 V) 1 := by
    show (aS2 V).texts.length + 1 ≤ 1000000 ∧ (aS2 V).seals.length + 1 ≤ 1000000
    omega
  have hwl : aW.length ≤ 24 := by rw [aW_eq]; decide
  have hsz : ∀ x ∈ aW, x.raw.size ≤ 512 := by
    intro x hx
    rw [aW_eq, List.mem_singleton] at hx
    subst hx
    exact Nat.le_of_eq aW_raw
  obtain ⟨p0, _, _⟩ := pro_sealed V (aS1 V) (l := aW) ((idealOk V).less hr1 (by decide)) hwl e1 c1
  obtain ⟨x0, _, _⟩ := sup_sealed V (aS2 V) e1 h1
  have hpA : proA (idealK V) (aS1 V) aW (lawSp 48 1) = 2 := by unfold proA; rw [if_pos p0]
  have hsA : supA (lawSp 48 1) = 1 := by unfold supA; rw [if_pos x0]; rfl
  obtain ⟨hf, hfi, hwt, _⟩ := aP1_fine V
  have hl : (aP1 V).kept.length = 784 := hfi.len
  have q := commit_in (idealK V) (idealOk V) F B (aP1 V) (aS1 V) 7 1 5 (fillS 3 32) 48 (layQ 48) (layS 48) (layT 48) oa ca aW w 2 1 (aRp V) (aR1 V) (aS2 V) (aS3 V) h (by rw [hwt]; decide) hg hF hv hwl (by decide) hfi.up aTogW (fun W hW => by
      have q := layoutOf_any (.pointer (some ⟨B, 0, none⟩)) ((aP1 V).kept.length : Nat) W fun W2 h2 => ((h.below (idealOk V) hW).below (idealOk V) h2).sectors
      rw [hl] at q
      have e784 : (((784 : Nat) : Int)) = 784 := rfl
      rw [e784, a784.1, a784.2.2] at q
      exact q) (fun W hW => by
      have q := unseal_duo (idealK V) (idealOk V) F B (aP1 V) (aS1 V) (lawSp 48 1) W (h.below (idealOk V) hW) ((idealOk V).less hr1 (by decide))
      rw [e1] at q
      exact q) (fun W hd hW => by
      have q := promise_duo (idealK V) (idealOk V) F B (aP1 V) (aS1 V) (lawSp 48 1) oa ca aW W hd hr1 hW hwl hsz
      rw [hpA, p0] at q
      exact q) (fun W hd => by
      have q := super_duo (idealK V) (idealOk V) F B (aP1 V) (aS2 V) (lawSp 48 1) W hd hr2
      rw [hsA, x0] at q
      exact q)
  rw [(aP2_fine V).1] at q
  exact q
theorem awk_rcv (F : Nat → Prop) (B V : Nat) (w : World) (h : Duo (idealK V) w F B (aP2 V) (aS3 V)) (hg : ErrT w) (hF : ¬ F 0) (hw : (aP2 V).wait.length ≤ 1000000) :
    Calls Tryz.prog 22 #[.pointer (some ⟨B, 0, none⟩), .pointer (some ⟨V, 0, none⟩)] w fun e w' => e = .returned (.tuple #[.agg (lawSp 48 1).arr, .int .i64 0, .int .i64 0]) ∧ Touch F w w' := by
  obtain ⟨P1, e1⟩ : ∃ P1, (bget (aP2 V) 0).2 = P1 := ⟨_, rfl⟩
  obtain ⟨P2, e2⟩ : ∃ P2, (bget P1 1).2 = P2 := ⟨_, rfl⟩
  obtain ⟨raws, er⟩ : ∃ l, rawsTo P2 (P2.kept.length / 8) = l := ⟨_, rfl⟩
  obtain ⟨masks, em⟩ : ∃ l, masksTo P2 (P2.kept.length / 8) = l := ⟨_, rfl⟩
  have H : AwR V P1 P2 raws masks := ⟨e1, e2, er, em⟩
  have hro := aS_room V
  have hr : (idealK V).room (aS3 V) 1 := by
    show (aS3 V).texts.length + 1 ≤ 1000000 ∧ (aS3 V).seals.length + 1 ≤ 1000000
    omega
  have hl := aP_len V
  have e784 : (((784 : Nat) : Int)) = 784 := rfl
  have q := recover_duo (idealK V) (idealOk V) F B (aP2 V) (aS3 V) aRg0 aRg1 (lawSp 48 1) P1 P2 48 raws masks w h hg hF hw hr (ideal_oSize V (aS3 V) (by omega)) (by decide) hl.2 (by rw [hl.1, e784]; exact ⟨a784.1, a784.2.2⟩) e1 e2 (aLoad0 V) (aLoad1 V H) aCho er em (fun _ _ => aTog V H) (fun hy => by
    have q := aFn V H hy
    have q2 : (fnS (idealK V) (aS3 V) raws masks ((48 : Nat) : Int)).ep = 1 := q
    rw [q2]
    show ¬ (1 : Int) = wrap64 (1 + 1)
    unfold wrap64
    omega)
  exact q.mono fun e w' ⟨a, _, c⟩ => ⟨a, c⟩
set_option maxHeartbeats 4000000 in
theorem jawake_any (w : World) (hg : ErrT w) : Calls Tryz.prog 9 #[] w fun e w' => e = .returned (.bool true) ∧ Below w.heap.size w w' := by
  have hn : ∀ W, Calls Tryz.prog 7 #[.int .i64 784] W fun e w' => ∃ B, e = .returned (.tuple #[.pointer (some ⟨B, 0, none⟩), .int .i64 0]) ∧ Plate w' (fun k => W.heap.size ≤ k ∧ k < w'.heap.size) B (newP 784) ∧ Below W.heap.size W w' := fun W => new_any 784 (by decide) W
  have hs0 := fun W => jlsup_any 48 0 W
  have hs1 := fun W => jlsup_any 48 1 W
  have HG : Hid (ErrT w) := hg
  clear hg
  go_enter Tryz.func9, Tryz.ntmps9
  go_wp2_with fail
  refine (jsectors_any _).mono ?_
  rintro e w1 ⟨rfl, hb1⟩
  have HB1 : Hid (Below w.heap.size w w1) := hb1
  clear hb1
  go_wp2_with fail
  refine (hn _).mono ?_
  rintro e w2 ⟨B, rfl, hp2, hb2⟩
  have HB2 : Hid (Plate w2 (fun k => w1.heap.size ≤ k ∧ k < w2.heap.size) B (newP 784) ∧ Below w1.heap.size w1 w2) := ⟨hp2, hb2⟩
  clear hn hp2 hb2
  go_wp2_with fail
  refine (ideal_any _).mono ?_
  rintro e w3 ⟨V, rfl, hv3, hb3⟩
  have hD : ∃ F : Nat → Prop, Duo (idealK V) w3 F B (newP 784) newV ∧ (∀ k, F k → w.heap.size ≤ k) := by
    refine ⟨fun k => w1.heap.size ≤ k ∧ k < w3.heap.size, ⟨_, _, HB2.out.1.below hb3, hv3, ?_, ?_, ?_, ?_⟩, ?_⟩
    · intro k h1 h2
      exact absurd h1.2 (by have := h2.1; omega)
    · exact fun k hk => ⟨hk.1, Nat.lt_of_lt_of_le hk.2 hb3.size⟩
    · exact fun k hk => ⟨Nat.le_trans HB2.out.2.size hk.1, hk.2⟩
    · exact fun k hk => hk.2
    · exact fun k hk => Nat.le_trans HB1.out.size hk.1
  obtain ⟨F, hD, hFl⟩ := hD
  have hbw3 : Below w.heap.size w w3 := (HB1.out.trans (HB2.out.2.mono HB1.out.size)).trans (hb3.mono (Nat.le_trans HB1.out.size HB2.out.2.size))
  have hFe : ¬ F 0 := fun h => by have q := hFl _ h; have q2 := lt_of_cell_ HG.out; omega
  have HD : Hid (Duo (idealK V) w3 F B (newP 784) newV ∧ (∀ k, F k → w.heap.size ≤ k) ∧ Below w.heap.size w w3 ∧ ErrT w3 ∧ ¬ F 0) := ⟨hD, hFl, hbw3, HG.out.below hbw3 (lt_of_cell_ HG.out), hFe⟩
  clear HB1 HB2 hv3 hb3 hD hFl hbw3 hFe
  go_wp2_with fail
  refine (hs0 _).mono ?_
  rintro e w4 ⟨rfl, hb4⟩
  have hd4 := HD.out.1.below (idealOk V) hb4
  have hg4 : ErrT w4 := HD.out.2.2.2.1.bel hb4
  have h5 := awk_fmt F B V w4 hd4 hg4 HD.out.2.2.2.2
  have HB4 : Hid (ErrT w4 ∧ Below w.heap.size w w4) := ⟨hg4, HD.out.2.2.1.trans (hb4.mono HD.out.2.2.1.size)⟩
  clear hs0 hb4 hd4 hg4
  go_wp2_with fail
  refine h5.mono ?_
  rintro e w5 ⟨rfl, hd5, ht5⟩
  have hF5 : ∀ k, grow F w4 w5 k → w.heap.size ≤ k := fun k hk => by
    rcases hk with hk | hk
    · exact HD.out.2.1 k hk
    · exact Nat.le_trans HB4.out.2.size hk.1
  have hb5 : Below w.heap.size w w5 := HB4.out.2.trans (ht5.below HB4.out.2.size HD.out.2.1)
  have hg5 : ErrT w5 := HB4.out.1.touch ht5 HD.out.2.2.2.2
  have hE5 : ¬ grow F w4 w5 0 := fun hk => by
    rcases hk with hk | hk
    · exact HD.out.2.2.2.2 hk
    · have q := lt_of_cell_ HB4.out.1; have q2 := hk.1; omega
  generalize grow F w4 w5 = F2 at *
  have HD5 : Hid (Duo (idealK V) w5 F2 B (aP1 V) (aS1 V) ∧ (∀ k, F2 k → w.heap.size ≤ k) ∧ Below w.heap.size w w5 ∧ ErrT w5 ∧ ¬ F2 0) := ⟨hd5, hF5, hb5, hg5, hE5⟩
  have hlt5 := hd5.lt
  have hw := fun g cap (hgg : g = w5.heap.size) => writes_l_any _ [aB] (w5.alloc (.cells #[.int .i64 40, .int .u8 1, .bool false] 75)) (blks_one w5 g _ cap hgg) (fun x hx => by rw [List.mem_singleton] at hx; subst hx; exact ⟨⟨1, rfl⟩, by decide⟩) (by decide)
  clear h5 hd5 ht5 hF5 hb5 hg5 hE5 HD HB4
  go_wp2_with fail
  refine (hw _ _ (by simp)).mono ?_
  rintro e w6 ⟨v', rfl, hwz, hb6⟩
  obtain ⟨oz, cz, rfl⟩ := hwz.form
  have hb56 : Below w5.heap.size w5 w6 := (bel_alloc w5 _).trans (hb6.mono (by simp))
  have HW6 : Hid (Wts w6 (.slice oz (wrsL [aB]).length cz) (wrsL [aB]) ∧ (∀ g o len cap, (.slice oz (wrsL [aB]).length cz : Value) = .slice (some ⟨g, o, none⟩) len cap → w5.heap.size ≤ g) ∧ Below w5.heap.size w5 w6) := ⟨hwz.wts.1, fun g o len cap e => by have q := (hwz.wts.2 g o len cap e).1; simp at q; omega, hb56⟩
  clear hw hwz hb6 hb56
  go_wp2_with fail
  refine (hs1 _).mono ?_
  rintro e w7 ⟨rfl, hb7⟩
  have hb57 : Below w5.heap.size w5 w7 := HW6.out.2.2.trans (hb7.mono HW6.out.2.2.size)
  have hd7 := HD5.out.1.below (idealOk V) hb57
  have hg7 : ErrT w7 := HD5.out.2.2.2.1.bel hb57
  have h8 := awk_com F2 B V oz cz w7 hd7 hg7 HD5.out.2.2.2.2 ⟨HW6.out.1.below hb7, fun _ g o len cap e hk => by have q := HW6.out.2.1 g o len cap e; have q2 := HD5.out.1.lt g hk; omega⟩
  have HB7 : Hid (ErrT w7 ∧ Below w.heap.size w w7) := ⟨hg7, HD5.out.2.2.1.trans (hb57.mono HD5.out.2.2.1.size)⟩
  clear hs1 hb7 hb57 hd7 hg7 hlt5
  go_wp2_with fail
  refine h8.mono ?_
  rintro e w8 ⟨rfl, hd8, ht8⟩
  have hF8 : ∀ k, grow F2 w7 w8 k → w.heap.size ≤ k := fun k hk => by
    rcases hk with hk | hk
    · exact HD5.out.2.1 k hk
    · exact Nat.le_trans HB7.out.2.size hk.1
  have hb8 : Below w.heap.size w w8 := HB7.out.2.trans (ht8.below HB7.out.2.size HD5.out.2.1)
  have hg8 : ErrT w8 := HB7.out.1.touch ht8 HD5.out.2.2.2.2
  have hE8 : ¬ grow F2 w7 w8 0 := fun hk => by
    rcases hk with hk | hk
    · exact HD5.out.2.2.2.2 hk
    · have q := lt_of_cell_ HB7.out.1; have q2 := hk.1; omega
  have h9 := awk_rcv _ B V w8 hd8 hg8 hE8 (by rw [aP2_wait]; decide)
  generalize grow F2 w7 w8 = F3 at *
  have HD8 : Hid ((∀ k, F3 k → w.heap.size ≤ k) ∧ Below w.heap.size w w8) := ⟨hF8, hb8⟩
  simp only [lawSp, Sp.arr] at h9
  clear h8 hd8 ht8 hF8 hb8 hg8 hE8 HB7 HW6 HD5
  go_wp2_with fail
  refine h9.mono ?_
  rintro e w9 ⟨rfl, ht9⟩
  have HF : Hid (Below w.heap.size w w9) := HD8.out.2.trans (ht9.below HD8.out.2.size HD8.out.1)
  clear h9 ht9 HD8
  generalize fillS 3 32 = rt at *
  go_wp2
  go_ret
  exact ⟨rfl, HF.out.alloc HF.out.size _⟩
end Go.Proofs.YtbmjablmmlnieaaGreatDoor

namespace Go.Proofs.YtbmjablmmlnieaaGreatDoor
set_option maxRecDepth 20000
open Go.RowKit

set_option maxHeartbeats 2000000 in
theorem commit_long (p v : Value) (oa : Option Addr) (ca k : Nat) (hk : 24 < k) (a0 a1 a2 a3 : Int) (r : ByteArray) (w : World) :
    Calls Tryz.prog 19 #[p, v, .slice oa k ca, .agg #[.int .i64 a0, .int .i64 a1, .int .i64 a2, .int .i64 a3, .string r]] w fun e w' => e = .returned (.int .i64 4) ∧ Below w.heap.size w w' := by
  have HB : Hid _ := bel_alloc w (.cells #[.int .i64 a0, .int .i64 a1, .int .i64 a2, .int .i64 a3, .string r] 33)
  have j24 : (24 : Int) < (k : Int) := by omega
  clear hk
  go_enter Tryz.func19, Tryz.ntmps19
  go_wp2
  go_ret
  exact ⟨rfl, HB.out⟩
set_option maxHeartbeats 4000000 in
theorem commit_apart (p v : Value) (oa : Option Addr) (ca : Nat) (l : List Wt) (hll : l.length ≤ 24) (n q s2 t : Nat) (hn : n ≤ 1024) (a0 a1 a2 : Int) (r : ByteArray) (w : World) (hv : Wts w (.slice oa l.length ca) l) (htg : togB 27 (n : Int) l = false)
    (hlay : ∀ W, Below w.heap.size w W → Calls Tryz.prog 27 #[p] W fun e W' => e = .returned (.tuple #[.agg (layA n q s2 t), .int .i64 0]) ∧ Below W.heap.size W W') :
    Calls Tryz.prog 19 #[p, v, .slice oa l.length ca, .agg #[.int .i64 a0, .int .i64 a1, .int .i64 a2, .int .i64 (n : Int), .string r]] w fun e w' => e = .returned (.int .i64 1) ∧ Below w.heap.size w w' := by
  have hb0 := bel_alloc w (.cells #[.int .i64 a0, .int .i64 a1, .int .i64 a2, .int .i64 (n : Int), .string r] 33)
  have g0 := heap_alloc_new w (.cells #[.int .i64 a0, .int .i64 a1, .int .i64 a2, .int .i64 (n : Int), .string r] 33)
  have h1 := hlay _ hb0
  have j24 : ¬ (24 : Int) < (l.length : Int) := by omega
  have htog := fun W (hW : Wts W (.slice oa l.length ca) l) => together_any n q s2 t _ l W hW (by omega) hn
  rw [htg] at htog
  have HH : Hid (Wts w (.slice oa l.length ca) l) := hv
  unfold layA at h1 htog
  clear hlay htg hv
  go_enter Tryz.func19, Tryz.ntmps19
  go_wp2_with fail
  refine h1.mono ?_
  rintro e w1 ⟨rfl, hb1⟩
  have hbw1 : Below w.heap.size w w1 := hb0.trans (hb1.mono hb0.size)
  have g1 := (hb1.block w.heap.size (by simp)).trans g0
  have hlt1 := lt_of_block g1
  have hbw2 : Below w.heap.size w (w1.alloc (.cells #[.int .i64 (n : Int), .int .i64 2, .int .i64 3, .int .i64 27, .int .i64 28, .int .i64 29, .int .i64 (q : Int), .int .i64 (29 + (q : Int)), .int .i64 (s2 : Int), .int .i64 (29 + (q : Int) + (s2 : Int)), .int .i64 (29 + (q : Int) + (s2 : Int) + 1), .int .i64 (n : Int), .int .i64 ((n : Int) + 1), .int .i64 (t : Int), .int .i64 ((n : Int) + 1 + (t : Int)), .int .i64 ((n : Int) + 1 + (t : Int) + (n : Int))] 71)) := hbw1.alloc hbw1.size _
  have c3 : (w1.alloc (.cells #[.int .i64 (n : Int), .int .i64 2, .int .i64 3, .int .i64 27, .int .i64 28, .int .i64 29, .int .i64 (q : Int), .int .i64 (29 + (q : Int)), .int .i64 (s2 : Int), .int .i64 (29 + (q : Int) + (s2 : Int)), .int .i64 (29 + (q : Int) + (s2 : Int) + 1), .int .i64 (n : Int), .int .i64 ((n : Int) + 1), .int .i64 (t : Int), .int .i64 ((n : Int) + 1 + (t : Int)), .int .i64 ((n : Int) + 1 + (t : Int) + (n : Int))] 71)).cell? ⟨w.heap.size, 3, none⟩ = some (.int .i64 (n : Int)) := cell_of_row _ _ 3 _ _ _ ((Below.heap_alloc _ _ _ hlt1).trans g1)
  have h2 := htog _ (HH.out.below hbw2)
  have HB2 : Hid _ := hbw2
  clear h1 hb0 g0 hb1 g1 hbw1 htog hbw2
  go_wp2_with fail
  refine h2.mono ?_
  rintro e w2 ⟨rfl, hb2⟩
  have HB3 : Hid (Below w.heap.size w w2) := HB2.out.trans (hb2.mono HB2.out.size)
  clear h2 hb2 HB2 c3 HH
  go_wp2
  go_ret
  exact ⟨rfl, HB3.out⟩
end Go.Proofs.YtbmjablmmlnieaaGreatDoor
