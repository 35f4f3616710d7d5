/- The law VaultHashes, called with any list of texts, returns true, and changes nothing that was there. -/
import Derived.Test.YtfmaajfohieneaaVtArgs
import Derived.Deep.AppendLies
namespace Go.Proofs.Ytfmaajfohieneaa
open Go.RowKit

/-- What was numbered behind so many texts. -/
def texN (l : List ByteArray) : Nat → List ByteArray
  | 0 => []
  | j + 1 => addN (texN l j) (l.getD j ⟨#[]⟩)
theorem texN_length (l : List ByteArray) : ∀ j, (texN l j).length ≤ j
  | 0 => Nat.le_refl _
  | j + 1 => Nat.le_trans (addN_length _ _) (Nat.succ_le_succ (texN_length l j))
theorem texN_keeps (l : List ByteArray) (i : Nat) : ∀ j, i < j → numOf (texN l j) (l.getD i ⟨#[]⟩) = numOf (texN l (i + 1)) (l.getD i ⟨#[]⟩)
  | 0, h => absurd h (Nat.not_lt_zero _)
  | j + 1, h => by
    by_cases e : i = j
    · subst e; rfl
    · have ih := texN_keeps l i j (by omega)
      show numOf (addN (texN l j) (l.getD j ⟨#[]⟩)) _ = _
      rw [numOf_add_keeps _ (by rw [ih]; exact numOf_add_pos _ _), ih]
/-- The hash of a text of the list. -/
def hashN (l : List ByteArray) (i : Nat) : ByteArray := wideS (numOf (texN l (i + 1)) (l.getD i ⟨#[]⟩)) 32
theorem hashN_iff (l : List ByteArray) (i j : Nat) (hi : i < 1000000) (hj : j < 1000000) : hashN l i = hashN l j ↔ l.getD i ⟨#[]⟩ = l.getD j ⟨#[]⟩ := by
  have bi := Nat.le_trans (numOf_le (l.getD i ⟨#[]⟩) _) (texN_length l (i + 1))
  have bj := Nat.le_trans (numOf_le (l.getD j ⟨#[]⟩) _) (texN_length l (j + 1))
  have ei := texN_keeps l i (max i j + 1) (by omega)
  have ej := texN_keeps l j (max i j + 1) (by omega)
  constructor
  · intro h
    have := wideS_inj (by omega) (by omega) h
    rw [← ei, ← ej] at this
    exact numOf_inj this (by rw [ei]; exact numOf_add_pos _ _)
  · intro h
    unfold hashN
    rw [← ei, ← ej, h]
theorem beq_str {a b c d : ByteArray} (h : a = b ↔ c = d) : (a.toList == b.toList) = (c.toList == d.toList) := by
  by_cases e : a = b
  · rw [e, h.1 e]; simp
  · rw [str_ne e, str_ne fun x => e (h.2 x)]
theorem info_string : (Try.prog.info? 9).map (fun i => (i.zero, i.size, i.bytes)) = some (some (.string ⟨#[]⟩), 1, 16) := by kernel_rfl

/-- The hashes and the texts stand, and nothing that was there is changed. -/
def SeenH (l : List ByteArray) (oa ou : Option Addr) (j : Nat) (w wr : World) : Prop :=
  (∀ i, i < j → ∃ g, ou = some ⟨g, 0, none⟩ ∧ wr.cell? ⟨g, i, none⟩ = some (.string (hashN l i))) ∧ (∀ i, i < j → ∃ g o, oa = some ⟨g, o, none⟩ ∧ wr.cell? ⟨g, o + i, none⟩ = some (.string (l.getD i ⟨#[]⟩))) ∧ Below w.heap.size w wr
theorem SeenH.drewN {l : List ByteArray} {oa ou : Option Addr} {j : Nat} {w wr : World} (h : SeenH l oa ou j w wr) (n : Nat) : SeenH l oa ou j w (wr.drewN n) := ⟨h.1, h.2.1, h.2.2.trans ⟨rfl, rfl, rfl, Nat.le_refl _, fun _ _ => rfl⟩⟩

set_option maxRecDepth 100000 in
set_option maxHeartbeats 4000000 in
theorem walk_vaultHashes (v0 : Value) (l : List ByteArray) (w : World) (hl : StrsV w v0 l) :
    Calls Try.prog 6 #[v0] w fun e w' => e = .returned (.bool true) ∧ Below w.heap.size w w' := by
  obtain ⟨oa, ca, rfl⟩ := hl.form
  have HSZ : Hid (∀ x ∈ l, x.size ≤ 140737488355328) := hl.1
  have HL : Hid (StrsV w (.slice oa l.length ca) l) := hl
  clear hl
  obtain ⟨i0, hi0, hz0, hz1, hz2⟩ := info_parts info_string
  obtain ⟨J, hJ, hcase⟩ : ∃ J, (J ≤ l.length ∧ J ≤ 40) ∧ ((¬ (J : Int) < (l.length : Nat)) ∨ ((J : Int) < (l.length : Nat) ∧ ¬ (J : Int) < 40)) := ⟨min l.length 40, by omega, by omega⟩
  have HOP : Hid (∀ j, j < J → ∃ g o, oa = some ⟨g, o, none⟩ ∧ g < w.heap.size ∧ w.cell? ⟨g, o + j, none⟩ = some (.string (l.getD j ⟨#[]⟩))) := fun j hj => by
    obtain ⟨g, o, e, hg, hx⟩ := HL.out.get (by omega)
    exact ⟨g, o, e, hg, hx j _ (by rw [List.getD_eq_getElem?_getD, List.getElem?_eq_getElem (by omega)]; rfl)⟩
  have HFT : Hid (∀ j, j < J → fitT (l.getD j ⟨#[]⟩)) := fun j hj => by
    rw [List.getD_eq_getElem?_getD, List.getElem?_eq_getElem (by omega)]
    exact HSZ.out _ (List.getElem_mem _)
  rcases hcase with hcs | ⟨hcs, hcs2⟩
  all_goals
    go_enter Try.func6, Try.ntmps6
    go_wp2_with fail
    refine (ideal_any w).mono ?_
    rintro e w1 ⟨B, rfl, hp, hb⟩
    have hw1 : w.heap.size ≤ w1.heap.size := hb.size
    have HB : Hid (Ideal w1 (fun k => w.heap.size ≤ k ∧ k < w1.heap.size) B newV ∧ Below w.heap.size w w1) := ⟨hp, hb⟩
    clear hp hb
    go_wp2_with fail
    go_loopw [4, 5] (fun u v wr => ∃ j : Nat, j ≤ J ∧ v = .int .i64 j ∧ wr.ownsRow 0 9 1 u j (rowF j fun i => .string (hashN l i)) ∧ (∀ g, u.ownBlock = some g → w1.heap.size ≤ g) ∧ Ideal wr (fun k => w.heap.size ≤ k ∧ k < w1.heap.size) B ⟨texN l j, [], []⟩ ∧ Below w.heap.size w wr ∧ w1.heap.size ≤ wr.heap.size) (fun _ v _ => J - (intOf v).toNat)
    case atStart => exact ⟨0, Nat.zero_le _, rfl, World.ownsRow_nil _ _ _ _, (fun g h => by cases h), HB.out.1, HB.out.2, Nat.le_refl _⟩
    case round =>
      clear HB
      obtain ⟨j, hj, rfl, hown, hfar, hp, hT, hz⟩ := hrel
      obtain ⟨ou, cu, rfl⟩ := owns_slice hown
      by_cases hlt : j < J
      · have j1 : (j : Int) < (l.length : Nat) := by omega
        have j2 : (j : Int) < 40 := by omega
        obtain ⟨g, o, rfl, hg, hc⟩ := HOP.out j hlt
        have c0 : wr.cell? ⟨g, o + j, none⟩ = some (.string (l.getD j ⟨#[]⟩)) := (World.cell?_of_block (a := ⟨g, o + j, none⟩) (hT.block g hg)).trans hc
        have hle := texN_length l j
        have hh := vhash_any B _ ⟨texN l j, [], []⟩ (l.getD j ⟨#[]⟩) (HFT.out j hlt) (by show (texN l j).length ≤ _; omega) wr hp
        rw [show hashP ⟨texN l j, [], []⟩ (l.getD j ⟨#[]⟩) = ⟨texN l (j + 1), [], []⟩ from rfl, show hashS ⟨texN l j, [], []⟩ (l.getD j ⟨#[]⟩) = hashN l j from rfl] at hh
        generalize hx : l.getD j ⟨#[]⟩ = x at *
        clear hx hc
        obtain ⟨H, hH⟩ : ∃ H, H = hashN l j := ⟨_, rfl⟩
        rw [← hH] at hh
        have HH : Hid (H = hashN l j) := hH
        clear hH
        go_wp2_with fail
        refine hh.mono ?_
        rintro e wA ⟨rfl, hpA, htA⟩
        have hownA := owns_keep (w' := wA) hown fun g hg' => htA.2 g (owns_lt hown g hg') (fun hf => by have := hfar g hg'; omega)
        have hTA := hT.trans (htA.below (B := w.heap.size) hT.size fun k hk => hk.1)
        have hzA : w1.heap.size ≤ wA.heap.size := Nat.le_trans hz htA.size
        clear hh hown hp hT hz htA c0
        have hnew : (wA.alloc (.cells #[.string H] 9)).heap[wA.heap.size]? = some (.cells #[.string H] 9 (0, 0)) := heap_alloc_new wA _
        have hownC : (wA.alloc (.cells #[.string H] 9)).ownsRow 0 9 1 (.slice ou j cu) j (rowF j fun i => .string (hashN l i)) := owns_keep hownA fun g hg => Below.heap_alloc wA _ g (owns_lt hownA g hg)
        have hone : ∀ u ∈ ([.string H] : List Value), u.oneCell' = true := by intro u hu; simp at hu; rw [hu]; rfl
        go_wp2_with (first | (at_builtin; (refine wpList_append_own_at _ rfl _ _ 26 rfl 0 9 i0 (.string ⟨#[]⟩) 1 16 Try.underlying26 hi0 hz0 hz1 hz2 rfl (by decide) (.slice ou j cu) j (rowF j fun i => .string (hashN l i)) rfl hownC ⟨wA.heap.size, 0, none⟩ 1 1 [.string H] rfl rfl (World.news_of_block hnew) hone (by unfold maxLen; omega) (by omega) (Nat.zero_le _) ?_)))
        intro v1 wB hown1 hgrow1 _ hat1
        have hs1 : (wA.alloc (.cells #[.string H] 9)).heap.size = wA.heap.size + 1 := by simp
        have hTB : Below w.heap.size w wB := (hTA.alloc hTA.size _).grown hgrow1 (by rw [hs1]; have := hTA.size; omega) fun k hk => by
          have := hfar k hk
          omega
        have hkeep : ∀ k, k < w1.heap.size → wB.heap[k]? = wA.heap[k]? := fun k hk => (hgrow1.block k (by rw [hs1]; omega) (fun e => by have := hfar k e.symm; omega)).trans (Below.heap_alloc wA _ k (by omega))
        have hpB : Ideal wB (fun k => w.heap.size ≤ k ∧ k < w1.heap.size) B ⟨texN l (j + 1), [], []⟩ := hpA.keep fun k _ hf => hkeep k hf.2
        have hownB : wB.ownsRow 0 9 1 v1 (j + 1) (rowF (j + 1) fun i => .string (hashN l i)) := by
          have e : (rowF (j + 1) fun i => Value.string (hashN l i)) = (rowF j fun i => .string (hashN l i)) ++ [.string H] := by rw [HH.out]; simp [rowF, List.range_succ]
          rw [e]; exact hown1
        have hfarB : ∀ g, v1.ownBlock = some g → w1.heap.size ≤ g := fun g hg => by
          rcases hat1 with e | e
          · exact hfar g (e ▸ hg)
          · rw [hg] at e; cases e; omega
        obtain ⟨g1, cap1, rfl, _, _⟩ := owns_form hown1 (by omega)
        have HF : Hid _ := (⟨hownB, hfarB, hpB, hTB, by have := hgrow1.size; omega⟩ : _ ∧ _ ∧ _ ∧ _ ∧ w1.heap.size ≤ wB.heap.size)
        clear hownB hfarB hpB hTB hkeep hown1 hgrow1 hat1 hownA hTA hpA hzA hfar hs1
        go_wp2
        go_roundw
        case rel => exact ⟨j + 1, by omega, by go_num, HF.out⟩
        case measure => simp [intOf]; omega
      · obtain rfl : j = J := by omega
        have HS : Hid (SeenH l oa ou j w wr) := ⟨fun i hi => by
          obtain ⟨g, cap, e, _, hc⟩ := owns_form hown (by omega)
          cases e
          exact ⟨g, rfl, hc i _ (rowF_get j (fun i => .string (hashN l i)) i hi)⟩, fun i hi => by
          obtain ⟨g, o, e, hg, hc⟩ := HOP.out i hi
          exact ⟨g, o, e, (World.cell?_of_block (a := ⟨g, o + i, none⟩) (hT.block g hg)).trans hc⟩, hT⟩
        clear hown hfar hp hT hz HOP HFT HSZ HL
        generalize wr = ws at *
        go_wp2_with fail
        go_loopw [6] (fun v wr => ∃ a : Nat, a ≤ j ∧ v = .int .i64 a ∧ SeenH l oa ou j w wr) (fun v _ => j - (intOf v).toNat)
        case atStart => exact ⟨0, Nat.zero_le _, rfl, HS.out⟩
        case round =>
          clear HS
          obtain ⟨a, ha, rfl, hS⟩ := hrel
          by_cases hlt2 : a < j
          · have a1 : (a : Int) < (j : Nat) := by omega
            generalize wr = wo at *
            have HS : Hid _ := hS
            clear hS
            go_wp2_with fail
            go_loopw [7] (fun v wr => ∃ b : Nat, b ≤ a ∧ v = .int .i64 b ∧ SeenH l oa ou j w wr) (fun v _ => a - (intOf v).toNat)
            case atStart => exact ⟨0, Nat.zero_le _, rfl, HS.out⟩
            case round =>
              clear HS
              obtain ⟨b, hb, rfl, hS⟩ := hrel
              have HS : Hid _ := hS
              by_cases hlt3 : b < a
              · have b1 : (b : Int) < (a : Nat) := by omega
                have b2 : (b : Int) < (j : Nat) := by omega
                have b3 : (b : Int) < (l.length : Nat) := by omega
                have b4 : (a : Int) < (l.length : Nat) := by omega
                have b5 : (0 : Int) ≤ (b : Nat) := by omega
                have b6 : (0 : Int) ≤ (a : Nat) := by omega
                obtain ⟨g1, rfl, e1⟩ := hS.1 a hlt2
                obtain ⟨g1', eg1, e2⟩ := hS.1 b (by omega)
                cases eg1
                obtain ⟨g2, o2, rfl, e3⟩ := hS.2.1 a hlt2
                obtain ⟨g2', o2', eg2, e4⟩ := hS.2.1 b (by omega)
                cases eg2
                have hq := beq_str (hashN_iff l a b (by omega) (by omega))
                generalize hashN l a = h1 at *
                generalize hashN l b = h2 at *
                generalize l.getD a ⟨#[]⟩ = t1 at *
                generalize l.getD b ⟨#[]⟩ = t2 at *
                clear hS
                go_wp2_with fail
                go_quiet (fail)
                have HT : Hid _ := SeenH.drewN HS.out nq
                clear HS e1 e2 e3 e4
                go_wp2
                go_roundw
                case rel => exact ⟨b + 1, by omega, by go_num, HT.out⟩
                case measure => simp [intOf]; omega
              · clear hS
                go_wp2
                go_roundw
                case rel => exact ⟨a + 1, by omega, by go_num, HS.out⟩
                case measure => simp [intOf]; omega
          · obtain rfl : a = j := by omega
            have HS : Hid _ := hS.2.2
            clear hS
            go_wp2_with fail
            refine (awake_any _).mono ?_
            rintro e wz ⟨rfl, hk⟩
            have HF : Hid (Below w.heap.size w wz) := HS.out.trans (hk.mono HS.out.size)
            clear hk HS
            go_wp2
            go_ret
            exact ⟨rfl, HF.out⟩
end Go.Proofs.Ytfmaajfohieneaa
