/- block's Get, at a device that lies in memory. · What plate's settle does, in plain words: the waiting writes whose places last are kept, in order; the notes of the last writes are struck. · plate's settle over the closures of Flush and of Start: the waiting writes whose places last are kept. -/
import Derived.Test.YtoopaigpjefonaaGreatDoorMg07
import Derived.Lib.AppendStr
import Derived.Test.YtoopaigpjefonaaGreatDoorMg06
namespace Go.Proofs.YtoopaigpjefonaaGreatDoor
set_option maxRecDepth 20000
open Go.RowKit

theorem textR_mem {i : Nat} {s : ByteArray} : ∀ {r : List (Nat × ByteArray)}, textR r i = some s → (i, s) ∈ r
  | [], h => by simp [textR] at h
  | (a, u) :: t, h => by
    simp only [textR] at h
    split at h
    · rename_i e
      cases h
      rw [e]
      exact List.mem_cons_self
    · exact List.mem_cons_of_mem _ (textR_mem h)
theorem readS_size {w : World} {F : Nat → Prop} {B : Nat} {S : PS} (hp : Plate w F B S) (x : Int) : (readS S x).size ≤ 64 := by
  obtain ⟨K, N, wv, h⟩ := hp
  have hk : (keptS S x).size ≤ 64 := by
    unfold keptS
    rw [List.getD_eq_getElem?_getD]
    by_cases hi : x.toNat < S.kept.length
    · rw [List.getElem?_eq_getElem hi]
      have := h.texts _ (List.getElem_mem hi)
      simp
      omega
    · rw [List.getElem?_eq_none (by omega)]
      decide
  have hh : (heldS S x).size ≤ 64 := by
    unfold heldS
    split
    · exact hk
    · decide
  unfold readS
  split
  · split
    · cases ht : textOf S.wait x.toNat with
      | none => exact hh
      | some u =>
        have h2 : u.size = 64 := (h.ats _ (List.mem_reverse.1 (textR_mem ht))).2
        simp only [Option.getD_some]
        omega
    · decide
  · decide
theorem owns_keepB {w w' : World} {b : Nat} {e : TypeId} {z n : Nat} {v : Value} {xs : List Value} (h : w.ownsRow b e z v n xs) (hb : ∀ g, b ≤ g → g < w.heap.size → w'.heap[g]? = w.heap[g]?) : w'.ownsRow b e z v n xs := by
  refine ⟨h.1, ?_⟩
  rcases h.2 with hn | ⟨g, cap, cur, rfl, h0, hg, hr⟩
  · exact .inl hn
  · exact .inr ⟨g, cap, cur, rfl, h0, (hb g h0 (lt_of_block hg)).trans hg, hr⟩
theorem strCells_add (t s : ByteArray) : Lib.strCells t ++ Lib.strCells s = Lib.strCells (t ++ s) := by
  rw [byteCells_str, byteCells_str, byteCells_str, byteCells_append]
  simp
theorem zeros64_any (w : World) : Calls Tryz.prog 106 #[.int .i64 64] w fun e w' => e = .returned (.string (fillS 0 64)) ∧ Below w.heap.size w w' := by
  have hr := fun w => repeat_blank w
  generalize fillS 0 64 = z at *
  go_enter Tryz.func106, Tryz.ntmps106
  go_wp2_with fail
  refine (hr _).mono ?_
  rintro e w1 ⟨rfl, hb⟩
  have HB : Hid _ := hb
  clear hb hr
  go_wp2
  go_ret
  exact ⟨rfl, HB.out⟩
/-- What reading the sectors of a block comes to, one by one. -/
def getGo (a : Nat) : Nat → Nat → PS → ByteArray → Nat → (ByteArray × Nat × Int) × PS
  | 0, _, S, t, m => ((t, m, 0), S)
  | n + 1, j, S, t, m =>
    if readE S ((8 * a + j : Nat) : Int) = 0 then getGo a n (j + 1) (readP S ((8 * a + j : Nat) : Int)) (t ++ readS S ((8 * a + j : Nat) : Int)) m
    else if readE S ((8 * a + j : Nat) : Int) = 21 then getGo a n (j + 1) (readP S ((8 * a + j : Nat) : Int)) (t ++ fillS 0 64) (m + 2 ^ j)
    else ((⟨#[]⟩, 0, readE S ((8 * a + j : Nat) : Int)), readP S ((8 * a + j : Nat) : Int))
def bget (S : PS) (at_ : Int) : (ByteArray × Nat × Int) × PS := if bhasB S at_ then getGo at_.toNat 8 0 S ⟨#[]⟩ 0 else ((⟨#[]⟩, 0, 2), S)
theorem readP_len (S : PS) (x : Int) : (readP S x).kept.length = S.kept.length ∧ (readP S x).wait = S.wait := by
  unfold readP
  split
  · split
    · exact ⟨rfl, rfl⟩
    · exact ⟨rfl, rfl⟩
  · exact ⟨rfl, rfl⟩
theorem or_bit (m j : Nat) (h : m < 2 ^ j) (hj : j < 8) : bits .or .i64 (m : Int) ((2 ^ j : Nat) : Int) = ((m + 2 ^ j : Nat) : Int) := by
  have h1 : (2 : Nat) ^ j ≤ 2 ^ 7 := Nat.pow_le_pow_right (by decide) (by omega)
  rw [i64_or_nat m (2 ^ j) (by omega) (by omega)]
  have h2 := Nat.two_pow_add_eq_or_of_lt h 1
  rw [Nat.mul_one] at h2
  rw [Nat.or_comm, ← h2, Nat.add_comm]
theorem wrap_two (j : Nat) (hj : j < 8) : wrap64 (2 ^ j) = ((2 ^ j : Nat) : Int) := by
  have h : j = 0 ∨ j = 1 ∨ j = 2 ∨ j = 3 ∨ j = 4 ∨ j = 5 ∨ j = 6 ∨ j = 7 := by omega
  rcases h with rfl | rfl | rfl | rfl | rfl | rfl | rfl | rfl <;> (unfold wrap64; decide)
theorem get_ret (tmps : Array Value) (w : World) (t : ByteArray) (m y : Int) (R : Ending → World → Prop) (h1 : tmps.getD 4 undef = .string t) (h2 : tmps.getD 5 undef = .int .i64 m) (h3 : tmps.getD 6 undef = .int .i64 y) (hR : R (.returned (.tuple #[.string t, .int .i64 m, .int .i64 y])) w) :
    bodyPost Tryz.prog Tryz.f100 R .ret { tmps := tmps, defers := [] } w := by
  simp at h1 h2 h3
  exact bodyPost_ret (v := .tuple #[.string t, .int .i64 m, .int .i64 y]) (by simp [results, Tryz.results100, h1, h2, h3]) rfl hR
set_option maxHeartbeats 4000000 in
theorem bget_any (B : Nat) (F : Nat → Prop) (S : PS) (at_ : Int) (w : World) (hp : Plate w F B S) (hw : S.wait.length ≤ 1000000) (hg : ErrT w) (hF : ¬ F 3) :
    Calls Tryz.prog 100 #[.pointer (some ⟨B, 0, none⟩), .int .i64 at_] w fun e w' => e = .returned (.tuple #[.string (bget S at_).1.1, .int .i64 ((bget S at_).1.2.1 : Nat), .int .i64 (bget S at_).1.2.2]) ∧ Plate w' F B (bget S at_).2 ∧ Touch F w w' := by
  have hha := bhas_any B F S at_ w hp
  cases hb : bhasB S at_
  · have HF : Hid (bget S at_ = ((⟨#[]⟩, 0, 2), S) ∧ Plate w F B S) := ⟨by simp [bget, hb], hp⟩
    rw [hb] at hha
    rw [HF.out.1]
    clear hp
    go_enter Tryz.func100, Tryz.ntmps100
    go_wp2_with fail
    refine hha.mono ?_
    rintro e w1 ⟨rfl, rfl⟩
    go_wp2_with fail
    exact get_ret _ _ ⟨#[]⟩ 0 2 _ rfl rfl rfl ⟨rfl, HF.out.2, Touch.refl _ _⟩
  rw [hb] at hha
  have hb2 : 0 ≤ at_ ∧ at_ < ((S.kept.length / 8 : Nat) : Int) := by simpa [bhasB] using hb
  have hm : S.kept.length ≤ 32768 := by obtain ⟨K, N, wv, h⟩ := hp; exact h.most
  obtain ⟨a, rfl⟩ : ∃ a : Nat, at_ = a := ⟨at_.toNat, by omega⟩
  have HR : Hid (bget S (a : Nat) = getGo a 8 0 S ⟨#[]⟩ 0) := by show _ = _; simp [bget, hb]
  rw [HR.out]
  have ha : a < 4096 := by omega
  have hlt := lt_of_cell_ hg
  obtain ⟨G, hG⟩ : ∃ G, getGo a 8 0 S ⟨#[]⟩ 0 = G := ⟨_, rfl⟩
  rw [hG]
  have HG : Hid (getGo a 8 0 S ⟨#[]⟩ 0 = G) := hG
  have HP : Hid (Plate w (fun k => F k ∧ k < w.heap.size) B S ∧ ErrT w) := ⟨hp.mono fun k hk h => ⟨h, hk⟩, hg⟩
  obtain ⟨i0, hi, hz0, hz1, hz2⟩ := info_parts info_u8
  clear hp hg hb HR hb2 hG
  go_enter Tryz.func100, Tryz.ntmps100
  go_wp2_with fail
  refine hha.mono ?_
  rintro e w1 ⟨rfl, rfl⟩
  clear hha
  go_wp2_with (first | (at_make; refine wpList_make_own _ rfl _ _ 143 rfl w1.heap.size 5 i0 (.int .u8 0) 1 Tryz.underlying143 hi hz0 hz1 .i64 .i64 512 512 rfl rfl rfl (by rw [hz2]; decide) (by decide) (Nat.le_refl _) ?_))
  intro w2 hown2 hgrow2
  have hb2 : Below w1.heap.size w1 w2 := (Below.refl _ _).grown hgrow2 (Nat.le_refl _) (fun k hk => by simp at hk)
  have HI : Hid (Plate w2 (fun k => F k ∧ k < w1.heap.size) B S ∧ Touch (fun k => F k ∧ k < w1.heap.size) w1 w2 ∧ ErrT w2 ∧ w2.ownsRow w1.heap.size 5 1 (.slice (some ⟨w1.heap.size, 0, none⟩) 0 512) 0 []) := ⟨HP.out.1.below hb2, Touch.of_below hb2, HP.out.2.below hb2 hlt, hown2⟩
  clear hown2 hgrow2 hb2 HP
  go_wp2_with fail
  go_loopw [7, 8, 20] (fun v mv i wr => ∃ (j : Nat) (Sj : PS) (t : ByteArray) (m : Nat), j ≤ 8 ∧ i = .int .i64 j ∧ mv = .int .i64 (m : Nat) ∧ m < 2 ^ j ∧ t.size ≤ 64 * j ∧ getGo a (8 - j) j Sj t m = G ∧ Plate wr (fun k => F k ∧ k < w1.heap.size) B Sj ∧ Touch (fun k => F k ∧ k < w1.heap.size) w1 wr ∧ ErrT wr ∧ wr.ownsRow w1.heap.size 5 1 v t.size (Lib.strCells t) ∧ Sj.wait.length ≤ 1000000) (fun _ _ i _ => 8 - (intOf i).toNat)
  case atStart => exact ⟨0, S, ⟨#[]⟩, 0, by omega, rfl, rfl, by decide, by decide, HG.out, HI.out.1, HI.out.2.1, HI.out.2.2.1, HI.out.2.2.2, hw⟩
  case round =>
    clear HI HG
    obtain ⟨j, Sj, t, m, hj, rfl, rfl, hmj, htz, hgo, hpj, htj, hgj, hown, hwj⟩ := hrel
    by_cases hlt8 : j < 8
    · have j1 : (j : Int) < 8 := by omega
      obtain ⟨x, hx⟩ : ∃ x : Int, x = ((8 * a + j : Nat) : Int) := ⟨_, rfl⟩
      have HGO : Hid (getGo a (8 - j) j Sj t m = if readE Sj x = 0 then getGo a (8 - (j + 1)) (j + 1) (readP Sj x) (t ++ readS Sj x) m else if readE Sj x = 21 then getGo a (8 - (j + 1)) (j + 1) (readP Sj x) (t ++ fillS 0 64) (m + 2 ^ j) else ((⟨#[]⟩, 0, readE Sj x), readP Sj x)) := by
        show _ = _
        rw [show 8 - j = (8 - (j + 1)) + 1 by omega, hx]
        rfl
      rw [HGO.out] at hgo
      have hrs := readSector_any B _ Sj x wr hpj hwj
      have hsz := readS_size hpj x
      have HL : Hid ((readP Sj x).wait.length ≤ 1000000) := by show _ ≤ _; rw [(readP_len Sj x).2]; exact hwj
      have m4 : IntKind.i64.wrap (8 * (a : Int)) = 8 * (a : Int) := by rw [IntKind.wrap_i64]; omega
      have m5 : IntKind.i64.wrap (8 * (a : Int) + (j : Int)) = x := by rw [IntKind.wrap_i64]; omega
      have HW : Hid (∀ w', Touch (fun k => F k ∧ k < w1.heap.size) wr w' → Touch (fun k => F k ∧ k < w1.heap.size) w1 w' ∧ ErrT w' ∧ w'.ownsRow w1.heap.size 5 1 u7 t.size (Lib.strCells t)) := fun w' h => ⟨htj.trans (h.mono fun k hk => .inl hk), (cell_kept_0 (h.2 3 (Nat.lt_of_lt_of_le hlt htj.size) (fun hh => hF hh.1))).trans hgj, owns_keepB hown fun g h0 hg => h.2 g hg fun hh => by omega⟩
      clear HGO hpj htj hgj hown hx
      generalize readE Sj x = y at *
      generalize readS Sj x = s at *
      generalize readP Sj x = Sk at *
      have hno := fun w h => numberOf_any x y w h
      generalize secErr x y = z at *
      have hp2 : (2 : Nat) ^ j ≤ 128 := Nat.le_trans (Nat.pow_le_pow_right (by decide) (show j ≤ 7 by omega)) (by decide)
      go_wp2_with fail
      refine hrs.mono ?_
      rintro e w3 ⟨rfl, hp3, ht3⟩
      obtain ⟨ht4, hg4, ho4⟩ := HW.out w3 ht3
      clear hrs ht3 HW
      go_wp2_with fail
      refine (hno _ hg4).mono ?_
      rintro e w4 ⟨rfl, hb4⟩
      have hp5 := hp3.below hb4
      have ht5 := ht4.trans (Touch.of_below (F := grow (fun k => F k ∧ k < w1.heap.size) w1 w3) hb4)
      have hg5 : ErrT w4 := hg4.below hb4 (lt_of_cell_ hg4)
      have ho5 : w4.ownsRow w1.heap.size 5 1 u7 t.size (Lib.strCells t) := owns_keepB ho4 fun g _ hg => hb4.block g hg
      have HP5 : Hid (Plate w4 (fun k => F k ∧ k < w1.heap.size) B Sk) := hp5
      have HT5 : Hid (Touch (fun k => F k ∧ k < w1.heap.size) w1 w4) := ht5
      have HG5 : Hid (ErrT w4) := hg5
      have hz5 := ht5.size
      clear hp3 ht4 hg4 ho4 hb4 hno hp5 ht5 hg5
      by_cases hy : y = 0
      · subst hy
        rw [if_pos rfl] at hgo
        have HGO : Hid _ := hgo
        clear hgo
        go_wp2_with (at_builtin; refine Lib.wpList_append_own_string _ rfl _ _ 143 9 rfl w1.heap.size 5 i0 Tryz.underlying143 Tryz.underlying9 hi hz0 hz1 hz2 _ _ _ rfl ho5 s rfl ?c1 ?c2 ?c3 ?_)
        case c1 => unfold maxLen; omega
        case c2 => omega
        case c3 => omega
        intro v6 w6 ho6 hgr6 _
        have hb6 : Below w1.heap.size w4 w6 := (Below.refl _ _).grown hgr6 hz5 (fun k hk => by
          rcases ho5.2 with ⟨rfl, _⟩ | ⟨g', cap, cur, rfl, hg', _⟩
          · simp [Value.ownBlock] at hk
          · simp [Value.ownBlock] at hk; omega)
        rw [strCells_add, ← ByteArray.size_append] at ho6
        have HF : Hid (Plate w6 (fun k => F k ∧ k < w1.heap.size) B Sk ∧ Touch (fun k => F k ∧ k < w1.heap.size) w1 w6 ∧ ErrT w6 ∧ w6.ownsRow w1.heap.size 5 1 v6 (t ++ s).size (Lib.strCells (t ++ s))) := ⟨HP5.out.keep fun k _ hk => hb6.block k hk.2, ⟨HT5.out.1.trans (hb6.mono (Nat.zero_le _)), fun k hk hn => (hb6.block k hk).trans (HT5.out.2 k hk hn)⟩, HG5.out.below hb6 hlt, ho6⟩
        clear hb6 ho6 hgr6 ho5 HP5 HT5 HG5
        go_wp2
        go_roundw
        case rel => exact ⟨j + 1, Sk, t ++ s, m, by omega, by go_num, rfl, by rw [Nat.pow_succ]; omega, by rw [ByteArray.size_append]; omega, HGO.out, HF.out.1, HF.out.2.1, HF.out.2.2.1, HF.out.2.2.2, HL.out⟩
        case measure => simp [intOf]; omega
      · have hy' : (y == 0) = false := beq_false_of_ne hy
        rw [if_neg hy] at hgo
        by_cases hy2 : y = 21
        · subst hy2
          rw [if_pos rfl] at hgo
          have HGO : Hid _ := hgo
          have hfz := fillS_size 0 64
          clear hgo
          go_wp2_with fail
          refine (zeros64_any _).mono ?_
          rintro e w5 ⟨rfl, hb5⟩
          replace HP5 : Hid (Plate w5 (fun k => F k ∧ k < w1.heap.size) B Sk) := HP5.out.below hb5
          replace HG5 : Hid (ErrT w5) := HG5.out.below hb5 (lt_of_cell_ HG5.out)
          replace HT5 : Hid (Touch (fun k => F k ∧ k < w1.heap.size) w1 w5) := HT5.out.trans (Touch.of_below hb5)
          replace ho5 : w5.ownsRow w1.heap.size 5 1 u7 t.size (Lib.strCells t) := owns_keepB ho5 fun g _ hg => hb5.block g hg
          replace hz5 := HT5.out.size
          clear hb5
          have hor := or_bit m j hmj hlt8
          go_wp2_with (at_builtin; refine Lib.wpList_append_own_string _ rfl _ _ 143 9 rfl w1.heap.size 5 i0 Tryz.underlying143 Tryz.underlying9 hi hz0 hz1 hz2 _ _ _ rfl ho5 (fillS 0 64) rfl ?c1 ?c2 ?c3 ?_)
          case c1 => unfold maxLen; omega
          case c2 => omega
          case c3 => omega
          intro v6 w6 ho6 hgr6 _
          have hb6 : Below w1.heap.size w5 w6 := (Below.refl _ _).grown hgr6 hz5 (fun k hk => by
            rcases ho5.2 with ⟨rfl, _⟩ | ⟨g', cap, cur, rfl, hg', _⟩
            · simp [Value.ownBlock] at hk
            · simp [Value.ownBlock] at hk; omega)
          have e64 : t.size + 64 = (t ++ fillS 0 64).size := by rw [ByteArray.size_append, fillS_size]
          rw [strCells_add, e64] at ho6
          clear e64
          have HF : Hid (Plate w6 (fun k => F k ∧ k < w1.heap.size) B Sk ∧ Touch (fun k => F k ∧ k < w1.heap.size) w1 w6 ∧ ErrT w6 ∧ w6.ownsRow w1.heap.size 5 1 v6 (t ++ fillS 0 64).size (Lib.strCells (t ++ fillS 0 64))) := ⟨HP5.out.keep fun k _ hk => hb6.block k hk.2, ⟨HT5.out.1.trans (hb6.mono (Nat.zero_le _)), fun k hk hn => (hb6.block k hk).trans (HT5.out.2 k hk hn)⟩, HG5.out.below hb6 hlt, ho6⟩
          clear hb6 ho6 hgr6 ho5 HP5 HT5 HG5
          have HM : Hid (bits BinOp.or IntKind.i64 (m : Nat) (wrap64 (2 ^ j)) = ((m + 2 ^ j : Nat) : Int)) := by
            show _ = _
            rw [wrap_two j hlt8]
            exact hor
          clear hor
          go_wp2
          go_roundw
          case rel => exact ⟨j + 1, Sk, t ++ fillS 0 64, m + 2 ^ j, by omega, by go_num, by rw [HM.out], by rw [Nat.pow_succ]; omega, by rw [ByteArray.size_append, fillS_size]; omega, HGO.out, HF.out.1, HF.out.2.1, HF.out.2.2.1, HF.out.2.2.2, HL.out⟩
          case measure => simp [intOf]; omega
        · have hy2' : (y == 21) = false := beq_false_of_ne hy2
          rw [if_neg hy2] at hgo
          subst hgo
          go_wp2_with fail
          exact get_ret _ _ ⟨#[]⟩ 0 y _ rfl rfl rfl ⟨rfl, HP5.out.mono fun k _ h => h.1, HT5.out.mono fun k h => h.1⟩
    · obtain rfl : j = 8 := by omega
      have HF : Hid (G = ((t, m, 0), Sj) ∧ Plate wr F B Sj ∧ Touch F w1 wr) := ⟨hgo.symm, hpj.mono fun k _ h => h.1, htj.mono fun k h => h.1⟩
      have hcv : (convert 143 9 u7).run Tryz.prog wr = .ok (.string t) wr := by
        have := run_convert_owned (w := wr) (base := w1.heap.size) (v := u7) (l := t.data.toList) (by rw [size_of_list, ← byteCells_str]; exact hown)
        rw [this]
      clear hgo hpj htj hgj hown
      go_wp2_with fail
      exact get_ret _ _ t m 0 _ rfl rfl rfl ⟨by rw [HF.out.1], by rw [HF.out.1]; exact HF.out.2.1, HF.out.2.2⟩
end Go.Proofs.YtoopaigpjefonaaGreatDoor

namespace Go.Proofs.YtoopaigpjefonaaGreatDoor
set_option maxRecDepth 20000
open Go.RowKit

def keptAt (f : Nat → Bool) (wait : List (Nat × ByteArray)) (kept : List ByteArray) : Nat → List ByteArray
  | 0 => kept
  | j + 1 => match wait[j]? with
    | some p => if f j = true then (keptAt f wait kept j).set p.1 p.2 else keptAt f wait kept j
    | none => keptAt f wait kept j
def newAt (wait : List (Nat × ByteArray)) : Nat → Nat → Nat
  | 0, i => lastOf wait i
  | j + 1, i => match wait[j]? with
    | some p => if i = p.1 then 0 else newAt wait j i
    | none => newAt wait j i
def settleP (f : Nat → Bool) (S : PS) : PS := { S with kept := keptAt f S.wait S.kept S.wait.length, wait := [] }

theorem keptAt_length (f : Nat → Bool) (wait : List (Nat × ByteArray)) (kept : List ByteArray) : ∀ j, (keptAt f wait kept j).length = kept.length
  | 0 => rfl
  | j + 1 => by
    have ih := keptAt_length f wait kept j
    simp only [keptAt]
    split
    · split
      · rw [List.length_set]; exact ih
      · exact ih
    · exact ih
theorem keptAt_step {f : Nat → Bool} {wait : List (Nat × ByteArray)} {kept : List ByteArray} {j a : Nat} {s : ByteArray} (h : wait[j]? = some (a, s)) : keptAt f wait kept (j + 1) = if f j = true then (keptAt f wait kept j).set a s else keptAt f wait kept j := by
  simp only [keptAt, h]
theorem newAt_step {wait : List (Nat × ByteArray)} {j a : Nat} {s : ByteArray} (h : wait[j]? = some (a, s)) (i : Nat) : newAt wait (j + 1) i = if i = a then 0 else newAt wait j i := by
  simp only [newAt, h]
theorem newAt_zero (wait : List (Nat × ByteArray)) (i : Nat) : ∀ j, newAt wait j i = 0 ∨ (newAt wait j i = lastOf wait i ∧ ∀ k, k < j → ∀ p, wait[k]? = some p → p.1 ≠ i)
  | 0 => .inr ⟨rfl, fun k hk => absurd hk (Nat.not_lt_zero k)⟩
  | j + 1 => by
    simp only [newAt]
    rcases newAt_zero wait i j with h | ⟨h, h2⟩
    · left
      split
      · split
        · rfl
        · exact h
      · exact h
    · cases hj : wait[j]? with
      | none =>
        right
        refine ⟨h, fun k hk p hp => ?_⟩
        by_cases e : k = j
        · subst e; rw [hj] at hp; cases hp
        · exact h2 k (by omega) p hp
      | some q =>
        dsimp only
        by_cases e : i = q.1
        · left; rw [if_pos e]
        · right
          rw [if_neg e]
          refine ⟨h, fun k hk p hp => ?_⟩
          by_cases e2 : k = j
          · subst e2; rw [hj] at hp; cases hp; exact fun e3 => e e3.symm
          · exact h2 k (by omega) p hp
theorem newAt_all (wait : List (Nat × ByteArray)) (i : Nat) : newAt wait wait.length i = 0 := by
  rcases newAt_zero wait i wait.length with h | ⟨h, h2⟩
  · exact h
  · rw [h]
    cases hl : lastOf wait i with
    | zero => rfl
    | succ k =>
      obtain ⟨s, hs, _⟩ := lastOf_text hl
      exact absurd rfl (h2 k (List.getElem?_eq_some_iff.1 hs).1 (i, s) hs)
theorem keptAt_texts {f : Nat → Bool} {wait : List (Nat × ByteArray)} {kept : List ByteArray} (hw : ∀ p ∈ wait, p.2.size = 64) (hk : ∀ s ∈ kept, s.size = 0 ∨ s.size = 64) : ∀ j, ∀ s ∈ keptAt f wait kept j, s.size = 0 ∨ s.size = 64
  | 0 => hk
  | j + 1 => by
    have ih := keptAt_texts hw hk (f := f) j
    intro s hs
    cases hj : wait[j]? with
    | none => simp only [keptAt, hj] at hs; exact ih s hs
    | some p =>
      simp only [keptAt, hj] at hs
      split at hs
      · rcases List.mem_or_eq_of_mem_set hs with h | rfl
        · exact ih s h
        · exact .inr (hw p (List.mem_of_getElem? hj))
      · exact ih s hs

/-- In the middle of settle: the first j writes are dealt with. -/
structure SetAt (w0 w : World) (F : Nat → Prop) (B K N : Nat) (wv : Value) (S : PS) (f : Nat → Bool) (j : Nat) : Prop where
  row : Row w B 95 (plateC K N S.kept.length wv S)
  kept : Row w K 9 ((keptAt f S.wait S.kept j).map Value.string)
  new : Row w N 3 (rowF S.kept.length fun i => .int .i64 (newAt S.wait j i : Nat))
  wait : w.ownsRow 0 214 2 wv S.wait.length (waitC S.wait)
  touch : Touch F w0 w
theorem SetAt.of {w : World} {F : Nat → Prop} {B K N : Nat} {wv : Value} {S : PS} {f : Nat → Bool} (h : PlateAt w F B K N wv S) : SetAt w w F B K N wv S f 0 := ⟨h.row, h.kept, h.new, h.wait, Touch.refl _ _⟩
theorem SetAt.below {w0 w w' : World} {F : Nat → Prop} {B K N j : Nat} {wv : Value} {S : PS} {f : Nat → Bool} (h : SetAt w0 w F B K N wv S f j) (hb : Below w.heap.size w w') : SetAt w0 w' F B K N wv S f j :=
  ⟨h.row.below hb h.row.lt, h.kept.below hb h.kept.lt, h.new.below hb h.new.lt, owns_keep h.wait fun g hg => hb.block g (owns_lt h.wait g hg), ⟨h.touch.1.trans (hb.mono (Nat.zero_le _)), fun k hk hn => (hb.block k (Nat.lt_of_lt_of_le hk h.touch.size)).trans (h.touch.2 k hk hn)⟩⟩
theorem SetAt.drew {w0 w : World} {F : Nat → Prop} {B K N j : Nat} {wv : Value} {S : PS} {f : Nat → Bool} (h : SetAt w0 w F B K N wv S f j) : SetAt w0 w.drew F B K N wv S f j := h.below (Below.refl _ _).drew
/-- The round's two stores. -/
structure SetMid (w0 w : World) (F : Nat → Prop) (B K N : Nat) (wv : Value) (S : PS) (f : Nat → Bool) (j : Nat) : Prop where
  row : Row w B 95 (plateC K N S.kept.length wv S)
  kept : Row w K 9 ((keptAt f S.wait S.kept (j + 1)).map Value.string)
  new : Row w N 3 (rowF S.kept.length fun i => .int .i64 (newAt S.wait j i : Nat))
  wait : w.ownsRow 0 214 2 wv S.wait.length (waitC S.wait)
  touch : Touch F w0 w
theorem SetAt.mid {w0 w wp : World} {F : Nat → Prop} {B K N j a : Nat} {wv : Value} {S : PS} {f : Nat → Bool} {s : ByteArray} (h : SetAt w0 w F B K N wv S f j) (hp : PlateAt wp F B K N wv S) (hj : S.wait[j]? = some (a, s)) (hf : f j = true) : SetMid w0 (w.setCell ⟨K, a, none⟩ (.string s)) F B K N wv S f j := by
  refine ⟨h.row.off hp.bk _ _, ?_, h.new.off hp.kn.symm _ _, owns_off h.wait hp.wK _ _, h.touch.setCell _ _ _ (.inl hp.fK)⟩
  have := h.kept.setL a (.string s)
  rw [keptAt_step hj, if_pos hf]
  rw [← List.map_set] at this
  exact this
theorem SetAt.skip {w0 w : World} {F : Nat → Prop} {B K N j a : Nat} {wv : Value} {S : PS} {f : Nat → Bool} {s : ByteArray} (h : SetAt w0 w F B K N wv S f j) (hj : S.wait[j]? = some (a, s)) (hf : f j = false) : SetMid w0 w F B K N wv S f j := by
  refine ⟨h.row, ?_, h.new, h.wait, h.touch⟩
  rw [keptAt_step hj, hf]
  exact h.kept
theorem SetMid.drew {w0 w : World} {F : Nat → Prop} {B K N j : Nat} {wv : Value} {S : PS} {f : Nat → Bool} (h : SetMid w0 w F B K N wv S f j) : SetMid w0 w.drew F B K N wv S f j :=
  ⟨h.row, h.kept, h.new, owns_keep h.wait fun _ _ => rfl, h.touch.drew⟩
theorem SetMid.next {w0 w wp : World} {F : Nat → Prop} {B K N j a : Nat} {wv : Value} {S : PS} {f : Nat → Bool} {s : ByteArray} (h : SetMid w0 w F B K N wv S f j) (hp : PlateAt wp F B K N wv S) (hj : S.wait[j]? = some (a, s)) : SetAt w0 (w.setCell ⟨N, a, none⟩ (.int .i64 0)) F B K N wv S f (j + 1) := by
  refine ⟨h.row.off hp.bn _ _, h.kept.off hp.kn _ _, ?_, owns_off h.wait hp.wN _ _, h.touch.setCell _ _ _ (.inl hp.fN)⟩
  refine (h.new.setF a (.int .i64 0)).congr (rowF_congr fun k _ => ?_)
  rw [newAt_step hj]
  by_cases e : k = a
  · rw [if_pos e, if_pos e]; rfl
  · rw [if_neg e, if_neg e]
theorem SetAt.done {w0 w wp : World} {F : Nat → Prop} {B K N : Nat} {wv : Value} {S : PS} {f : Nat → Bool} (h : SetAt w0 w F B K N wv S f S.wait.length) (hp : PlateAt wp F B K N wv S) : PlateAt (w.setCell ⟨B, 1, none⟩ (.slice none 0 0)) F B K N (.slice none 0 0) (settleP f S) ∧ Touch F w0 (w.setCell ⟨B, 1, none⟩ (.slice none 0 0)) := by
  have hl : (settleP f S).kept.length = S.kept.length := keptAt_length _ _ _ _
  refine ⟨⟨?_, h.kept.off hp.bk.symm _ _, ?_, World.ownsRow_nil _ _ _ _, hp.fB, hp.fK, hp.fN, fun g hg => (by cases hg), hp.bk, hp.bn, hp.kn, by simp [Value.ownBlock], by simp [Value.ownBlock], by simp [Value.ownBlock], by rw [hl]; exact hp.most, by simp [settleP], keptAt_texts (fun p hp' => (hp.ats p hp').2) hp.texts _, hp.fuse⟩, h.touch.setCell _ _ _ (.inl hp.fB)⟩
  · rw [hl]; exact h.row.setL 1 (.slice none 0 0)
  · rw [hl]
    refine (h.new.off hp.bn.symm 1 (.slice none 0 0)).congr (rowF_congr fun k _ => ?_)
    rw [newAt_all]
    rfl
theorem SetAt.cW {w0 w : World} {F : Nat → Prop} {B K N j a : Nat} {wv : Value} {S : PS} {f : Nat → Bool} {i : Nat} {s : ByteArray} (h : SetAt w0 w F B K N wv S f j) {g cap : Nat} (hg : wv = .slice (some ⟨g, 0, none⟩) S.wait.length cap) (hi : S.wait[i]? = some (a, s)) : w.cell? ⟨g, i * 2, none⟩ = some (.int .i64 (a : Nat)) ∧ w.cell? ⟨g, i * 2 + 1, none⟩ = some (.string s) := by
  obtain ⟨g', cap', e, _, hc⟩ := owns_form h.wait (by have := (List.getElem?_eq_some_iff.1 hi).1; omega)
  rw [hg] at e
  cases e
  exact ⟨hc _ _ (waitC_get _ _ _ _ hi).1, hc _ _ (waitC_get _ _ _ _ hi).2⟩
end Go.Proofs.YtoopaigpjefonaaGreatDoor

namespace Go.Proofs.YtoopaigpjefonaaGreatDoor
set_option maxRecDepth 20000
open Go.RowKit

set_option maxRecDepth 10000 in
set_option maxHeartbeats 2000000 in
theorem settleF (B : Nat) (F : Nat → Prop) (S : PS) (f : Nat → Bool) (w : World) (hp : Plate w F B S) (hw : S.wait.length ≤ 1000000)
    (hcall : ∀ (j : Nat) w1, j < S.wait.length → Touch F w w1 → Calls Tryz.prog 147 #[.int .i64 (j : Int)] w1 fun e w2 => e = .returned (.bool (f j)) ∧ w2 = w1) :
    Calls Tryz.prog 75 #[.pointer (some ⟨B, 0, none⟩), .func (.func 147) #[] #[]] w fun e w' => e = .returned (.tuple #[]) ∧ Plate w' F B (settleP f S) ∧ Touch F w w' := by
  obtain ⟨K, N, wv, hp⟩ := hp
  have c1 := hp.c1
  have HP : Hid (PlateAt w F B K N wv S) := hp
  have HC : Hid (∀ (j : Nat) w1, j < S.wait.length → Touch F w w1 → Calls Tryz.prog 147 #[.int .i64 (j : Int)] w1 fun e w2 => e = .returned (.bool (f j)) ∧ w2 = w1) := hcall
  clear hcall
  have hform : ∃ oa cap, wv = .slice oa S.wait.length cap := by
    rcases owns_len hp.wait with ⟨cap, e⟩ | ⟨g, cap, e⟩
    · exact ⟨_, cap, e⟩
    · exact ⟨_, cap, e⟩
  obtain ⟨oa, cap, rfl⟩ := hform
  clear hp
  go_enter Tryz.func75, Tryz.ntmps75
  go_wp2_with fail
  go_loopw [11] (fun v wr => ∃ j : Nat, j ≤ S.wait.length ∧ v = .int .i64 j ∧ SetAt w wr F B K N (.slice oa S.wait.length cap) S f j) (fun v _ => S.wait.length - (intOf v).toNat)
  case atStart => exact ⟨0, Nat.zero_le _, rfl, SetAt.of HP.out⟩
  case round =>
    clear c1
    obtain ⟨j, hj, rfl, hS⟩ := hrel
    by_cases hlt : j < S.wait.length
    · have j1 : (j : Int) < S.wait.length := by omega
      obtain ⟨a, s, hjs⟩ : ∃ a s, S.wait[j]? = some (a, s) := ⟨S.wait[j].1, S.wait[j].2, List.getElem?_eq_getElem hlt⟩
      obtain ⟨g, cap', hwv, hgc, _⟩ := owns_form hS.wait (by omega)
      obtain ⟨rfl, rfl⟩ : oa = some ⟨g, 0, none⟩ ∧ cap = cap' := by cases hwv; exact ⟨rfl, rfl⟩
      obtain ⟨d0, d1⟩ := hS.cW rfl hjs
      have ha : a < S.kept.length := (HP.out.ats (a, s) (List.mem_of_getElem? hjs)).1
      have hb3 : Below wr.heap.size wr (wr.alloc (.cells #[.int .i64 (a : Nat), .string s] 214)) := (Below.refl _ _).alloc (Nat.le_refl _) _
      have n0 : (wr.alloc (.cells #[.int .i64 (a : Nat), .string s] 214)).heap[wr.heap.size]? = some (.cells #[.int .i64 (a : Nat), .string s] 214 (0, 0)) := heap_alloc_new wr _
      have HS : Hid (SetAt w (wr.alloc (.cells #[.int .i64 (a : Nat), .string s] 214)) F B K N (.slice (some ⟨g, 0, none⟩) S.wait.length cap) S f j) := hS.below hb3
      have HJ : Hid (S.wait[j]? = some (a, s)) := hjs
      have HS2 : Hid (Row wr K _ _ ∧ Row wr N _ _ ∧ Row wr B _ _) := ⟨hS.kept, hS.new, hS.row⟩
      clear hS hjs
      have hW : wr.heap.size ≠ K ∧ wr.heap.size ≠ N ∧ wr.heap.size ≠ B := ⟨by have := HS2.out.1.lt; omega, by have := HS2.out.2.1.lt; omega, by have := HS2.out.2.2.lt; omega⟩
      obtain ⟨w3, hw3⟩ : ∃ w3, wr.alloc (.cells #[.int .i64 (a : Nat), .string s] 214) = w3 := ⟨_, rfl⟩
      rw [hw3] at HS n0
      have n1 : Row w3 wr.heap.size 214 [.int .i64 (a : Nat), .string s] := n0
      have hcl := HC.out j w3 hlt HS.out.touch
      clear n0 hb3 HS2
      generalize hwz : wr.heap.size = wz at *
      cases hf : f j <;> rw [hf] at hcl
      case' true =>
        have m0 : w3.cell? ⟨wz, 0, none⟩ = some (.int .i64 (a : Nat)) := n1.cell 0
        have m1 : w3.cell? ⟨wz, 1, none⟩ = some (.string s) := n1.cell 1
        have b0 : w3.cell? ⟨B, 0, none⟩ = some (.slice (some ⟨K, 0, none⟩) S.kept.length S.kept.length) := HS.out.row.cell 0
        have hcK : ∃ old, w3.cell? ⟨K, a, none⟩ = some (.string old) := ⟨(keptAt f S.wait S.kept j)[a]'(by rw [keptAt_length]; exact ha), by rw [HS.out.kept.cell, List.getElem?_map, List.getElem?_eq_getElem (by rw [keptAt_length]; exact ha)]; rfl⟩
        obtain ⟨old, hcK⟩ := hcK
        have hfK : w3.frozen? ⟨K, a, none⟩ = false := HS.out.kept.frozen a
        have hoff : ∀ v, (w3.setCell ⟨K, a, none⟩ v).cell? ⟨B, 0, none⟩ = some (.slice (some ⟨K, 0, none⟩) S.kept.length S.kept.length) ∧ (w3.setCell ⟨K, a, none⟩ v).cell? ⟨wz, 0, none⟩ = some (.int .i64 (a : Nat)) ∧ (w3.setCell ⟨K, a, none⟩ v).cell? ⟨wz, 1, none⟩ = some (.string s) := fun v => ⟨(HS.out.row.off HP.out.bk _ _).cell 0, (n1.off hW.1 _ _).cell 0, (n1.off hW.1 _ _).cell 1⟩
        have ha1 : (a : Int) < S.kept.length := by omega
        go_wp2_with fail
        refine hcl.mono ?_
        rintro e w9 ⟨rfl, rfl⟩
        go_wp2_with fail
        go_region_held3 (fun w' => w'.cell? ⟨B, 0, none⟩ = some (.slice (some ⟨K, 0, none⟩) S.kept.length S.kept.length) ∧ w'.cell? ⟨wz, 0, none⟩ = some (.int .i64 (a : Nat)) ∧ w'.cell? ⟨wz, 1, none⟩ = some (.string s)) (first | exact hoff _ | exact ⟨b0, m0, m1⟩ | simp [go_sem, *]) (fail)
        have HM : Hid (SetMid w (w9.setCell ⟨K, a, none⟩ (.string s)).drew F B K N (.slice (some ⟨g, 0, none⟩) S.wait.length cap) S f j) := (HS.out.mid HP.out HJ.out hf).drew
        have n4 : Row (w9.setCell ⟨K, a, none⟩ (.string s)).drew wz 214 [.int .i64 (a : Nat), .string s] := n1.off hW.1 _ _
        obtain ⟨w4, hw4⟩ : ∃ w4, (w9.setCell ⟨K, a, none⟩ (.string s)).drew = w4 := ⟨_, rfl⟩
        rw [hw4] at HM n4
        try rw [hw4]
        clear m0 m1 b0 hcK hfK hoff hcl n1 HS
      case' false =>
        have HM : Hid (SetMid w w3 F B K N (.slice (some ⟨g, 0, none⟩) S.wait.length cap) S f j) := HS.out.skip HJ.out hf
        go_wp2_with fail
        refine hcl.mono ?_
        rintro e w4 ⟨rfl, rfl⟩
        have n4 := n1
        clear hcl n1 HS
      all_goals
        have m0 : w4.cell? ⟨wz, 0, none⟩ = some (.int .i64 (a : Nat)) := n4.cell 0
        have b2 : w4.cell? ⟨B, 2, none⟩ = some (.slice (some ⟨N, 0, none⟩) S.kept.length S.kept.length) := HM.out.row.cell 2
        have hcN : w4.cell? ⟨N, a, none⟩ = some (.int .i64 (newAt S.wait j a : Nat)) := HM.out.new.cellF a ha
        have hfN : w4.frozen? ⟨N, a, none⟩ = false := HM.out.new.frozen a
        have hoff : ∀ v, (w4.setCell ⟨N, a, none⟩ v).cell? ⟨B, 2, none⟩ = some (.slice (some ⟨N, 0, none⟩) S.kept.length S.kept.length) ∧ (w4.setCell ⟨N, a, none⟩ v).cell? ⟨wz, 0, none⟩ = some (.int .i64 (a : Nat)) := fun v => ⟨(HM.out.row.off HP.out.bn _ _).cell 2, (n4.off hW.2.1 _ _).cell 0⟩
        have ha1 : (a : Int) < S.kept.length := by omega
        go_wp2_with fail
        go_region_held3 (fun w' => w'.cell? ⟨B, 2, none⟩ = some (.slice (some ⟨N, 0, none⟩) S.kept.length S.kept.length) ∧ w'.cell? ⟨wz, 0, none⟩ = some (.int .i64 (a : Nat))) (first | exact hoff _ | exact ⟨b2, m0⟩ | simp [go_sem, *]) (fail)
        have HF : Hid (SetAt w (w4.setCell ⟨N, a, none⟩ (.int .i64 0)).drew F B K N (.slice (some ⟨g, 0, none⟩) S.wait.length cap) S f (j + 1)) := (HM.out.next HP.out HJ.out).drew
        clear m0 b2 hcN hfN hoff HM n4
        go_wp2
        go_roundw
        case rel => exact ⟨j + 1, by omega, by go_num, HF.out⟩
        case measure => simp [intOf]; omega
    · obtain rfl : j = S.wait.length := by omega
      have hX := hS.done HP.out
      have b1 : wr.cell? ⟨B, 1, none⟩ = some (.slice oa S.wait.length cap) := hS.row.cell 1
      have f1 : wr.frozen? ⟨B, 1, none⟩ = false := hS.row.frozen 1
      obtain ⟨w5, hw5⟩ : ∃ w5, wr.setCell ⟨B, 1, none⟩ (.slice none 0 0) = w5 := ⟨_, rfl⟩
      rw [hw5] at hX
      have HX : Hid (Plate w5 F B (settleP f S) ∧ Touch F w w5) := ⟨⟨K, N, _, hX.1⟩, hX.2⟩
      clear hX hS
      go_wp2
      go_end0
      exact ⟨rfl, HX.out.1, HX.out.2⟩

set_option maxRecDepth 10000 in
set_option maxHeartbeats 2000000 in
theorem settleS (B : Nat) (F : Nat → Prop) (S : PS) (f : Nat → Bool) (cP : Value) (w : World) (hp : Plate w F B S) (hw : S.wait.length ≤ 1000000)
    (hcall : ∀ (j : Nat) w1, j < S.wait.length → Touch F w w1 → Calls Tryz.prog 76 #[.int .i64 (j : Int), cP] w1 fun e w2 => e = .returned (.bool (f j)) ∧ w2 = w1) :
    Calls Tryz.prog 75 #[.pointer (some ⟨B, 0, none⟩), .func (.func 76) #[] #[cP]] w fun e w' => e = .returned (.tuple #[]) ∧ Plate w' F B (settleP f S) ∧ Touch F w w' := by
  obtain ⟨K, N, wv, hp⟩ := hp
  have c1 := hp.c1
  have HP : Hid (PlateAt w F B K N wv S) := hp
  have HC : Hid (∀ (j : Nat) w1, j < S.wait.length → Touch F w w1 → Calls Tryz.prog 76 #[.int .i64 (j : Int), cP] w1 fun e w2 => e = .returned (.bool (f j)) ∧ w2 = w1) := hcall
  clear hcall
  have hform : ∃ oa cap, wv = .slice oa S.wait.length cap := by
    rcases owns_len hp.wait with ⟨cap, e⟩ | ⟨g, cap, e⟩
    · exact ⟨_, cap, e⟩
    · exact ⟨_, cap, e⟩
  obtain ⟨oa, cap, rfl⟩ := hform
  clear hp
  go_enter Tryz.func75, Tryz.ntmps75
  go_wp2_with fail
  go_loopw [11] (fun v wr => ∃ j : Nat, j ≤ S.wait.length ∧ v = .int .i64 j ∧ SetAt w wr F B K N (.slice oa S.wait.length cap) S f j) (fun v _ => S.wait.length - (intOf v).toNat)
  case atStart => exact ⟨0, Nat.zero_le _, rfl, SetAt.of HP.out⟩
  case round =>
    clear c1
    obtain ⟨j, hj, rfl, hS⟩ := hrel
    by_cases hlt : j < S.wait.length
    · have j1 : (j : Int) < S.wait.length := by omega
      obtain ⟨a, s, hjs⟩ : ∃ a s, S.wait[j]? = some (a, s) := ⟨S.wait[j].1, S.wait[j].2, List.getElem?_eq_getElem hlt⟩
      obtain ⟨g, cap', hwv, hgc, _⟩ := owns_form hS.wait (by omega)
      obtain ⟨rfl, rfl⟩ : oa = some ⟨g, 0, none⟩ ∧ cap = cap' := by cases hwv; exact ⟨rfl, rfl⟩
      obtain ⟨d0, d1⟩ := hS.cW rfl hjs
      have ha : a < S.kept.length := (HP.out.ats (a, s) (List.mem_of_getElem? hjs)).1
      have hb3 : Below wr.heap.size wr (wr.alloc (.cells #[.int .i64 (a : Nat), .string s] 214)) := (Below.refl _ _).alloc (Nat.le_refl _) _
      have n0 : (wr.alloc (.cells #[.int .i64 (a : Nat), .string s] 214)).heap[wr.heap.size]? = some (.cells #[.int .i64 (a : Nat), .string s] 214 (0, 0)) := heap_alloc_new wr _
      have HS : Hid (SetAt w (wr.alloc (.cells #[.int .i64 (a : Nat), .string s] 214)) F B K N (.slice (some ⟨g, 0, none⟩) S.wait.length cap) S f j) := hS.below hb3
      have HJ : Hid (S.wait[j]? = some (a, s)) := hjs
      have HS2 : Hid (Row wr K _ _ ∧ Row wr N _ _ ∧ Row wr B _ _) := ⟨hS.kept, hS.new, hS.row⟩
      clear hS hjs
      have hW : wr.heap.size ≠ K ∧ wr.heap.size ≠ N ∧ wr.heap.size ≠ B := ⟨by have := HS2.out.1.lt; omega, by have := HS2.out.2.1.lt; omega, by have := HS2.out.2.2.lt; omega⟩
      obtain ⟨w3, hw3⟩ : ∃ w3, wr.alloc (.cells #[.int .i64 (a : Nat), .string s] 214) = w3 := ⟨_, rfl⟩
      rw [hw3] at HS n0
      have n1 : Row w3 wr.heap.size 214 [.int .i64 (a : Nat), .string s] := n0
      have hcl := HC.out j w3 hlt HS.out.touch
      clear n0 hb3 HS2
      generalize hwz : wr.heap.size = wz at *
      cases hf : f j <;> rw [hf] at hcl
      case' true =>
        have m0 : w3.cell? ⟨wz, 0, none⟩ = some (.int .i64 (a : Nat)) := n1.cell 0
        have m1 : w3.cell? ⟨wz, 1, none⟩ = some (.string s) := n1.cell 1
        have b0 : w3.cell? ⟨B, 0, none⟩ = some (.slice (some ⟨K, 0, none⟩) S.kept.length S.kept.length) := HS.out.row.cell 0
        have hcK : ∃ old, w3.cell? ⟨K, a, none⟩ = some (.string old) := ⟨(keptAt f S.wait S.kept j)[a]'(by rw [keptAt_length]; exact ha), by rw [HS.out.kept.cell, List.getElem?_map, List.getElem?_eq_getElem (by rw [keptAt_length]; exact ha)]; rfl⟩
        obtain ⟨old, hcK⟩ := hcK
        have hfK : w3.frozen? ⟨K, a, none⟩ = false := HS.out.kept.frozen a
        have hoff : ∀ v, (w3.setCell ⟨K, a, none⟩ v).cell? ⟨B, 0, none⟩ = some (.slice (some ⟨K, 0, none⟩) S.kept.length S.kept.length) ∧ (w3.setCell ⟨K, a, none⟩ v).cell? ⟨wz, 0, none⟩ = some (.int .i64 (a : Nat)) ∧ (w3.setCell ⟨K, a, none⟩ v).cell? ⟨wz, 1, none⟩ = some (.string s) := fun v => ⟨(HS.out.row.off HP.out.bk _ _).cell 0, (n1.off hW.1 _ _).cell 0, (n1.off hW.1 _ _).cell 1⟩
        have ha1 : (a : Int) < S.kept.length := by omega
        go_wp2_with fail
        refine hcl.mono ?_
        rintro e w9 ⟨rfl, rfl⟩
        go_wp2_with fail
        go_region_held3 (fun w' => w'.cell? ⟨B, 0, none⟩ = some (.slice (some ⟨K, 0, none⟩) S.kept.length S.kept.length) ∧ w'.cell? ⟨wz, 0, none⟩ = some (.int .i64 (a : Nat)) ∧ w'.cell? ⟨wz, 1, none⟩ = some (.string s)) (first | exact hoff _ | exact ⟨b0, m0, m1⟩ | simp [go_sem, *]) (fail)
        have HM : Hid (SetMid w (w9.setCell ⟨K, a, none⟩ (.string s)).drew F B K N (.slice (some ⟨g, 0, none⟩) S.wait.length cap) S f j) := (HS.out.mid HP.out HJ.out hf).drew
        have n4 : Row (w9.setCell ⟨K, a, none⟩ (.string s)).drew wz 214 [.int .i64 (a : Nat), .string s] := n1.off hW.1 _ _
        obtain ⟨w4, hw4⟩ : ∃ w4, (w9.setCell ⟨K, a, none⟩ (.string s)).drew = w4 := ⟨_, rfl⟩
        rw [hw4] at HM n4
        try rw [hw4]
        clear m0 m1 b0 hcK hfK hoff hcl n1 HS
      case' false =>
        have HM : Hid (SetMid w w3 F B K N (.slice (some ⟨g, 0, none⟩) S.wait.length cap) S f j) := HS.out.skip HJ.out hf
        go_wp2_with fail
        refine hcl.mono ?_
        rintro e w4 ⟨rfl, rfl⟩
        have n4 := n1
        clear hcl n1 HS
      all_goals
        have m0 : w4.cell? ⟨wz, 0, none⟩ = some (.int .i64 (a : Nat)) := n4.cell 0
        have b2 : w4.cell? ⟨B, 2, none⟩ = some (.slice (some ⟨N, 0, none⟩) S.kept.length S.kept.length) := HM.out.row.cell 2
        have hcN : w4.cell? ⟨N, a, none⟩ = some (.int .i64 (newAt S.wait j a : Nat)) := HM.out.new.cellF a ha
        have hfN : w4.frozen? ⟨N, a, none⟩ = false := HM.out.new.frozen a
        have hoff : ∀ v, (w4.setCell ⟨N, a, none⟩ v).cell? ⟨B, 2, none⟩ = some (.slice (some ⟨N, 0, none⟩) S.kept.length S.kept.length) ∧ (w4.setCell ⟨N, a, none⟩ v).cell? ⟨wz, 0, none⟩ = some (.int .i64 (a : Nat)) := fun v => ⟨(HM.out.row.off HP.out.bn _ _).cell 2, (n4.off hW.2.1 _ _).cell 0⟩
        have ha1 : (a : Int) < S.kept.length := by omega
        go_wp2_with fail
        go_region_held3 (fun w' => w'.cell? ⟨B, 2, none⟩ = some (.slice (some ⟨N, 0, none⟩) S.kept.length S.kept.length) ∧ w'.cell? ⟨wz, 0, none⟩ = some (.int .i64 (a : Nat))) (first | exact hoff _ | exact ⟨b2, m0⟩ | simp [go_sem, *]) (fail)
        have HF : Hid (SetAt w (w4.setCell ⟨N, a, none⟩ (.int .i64 0)).drew F B K N (.slice (some ⟨g, 0, none⟩) S.wait.length cap) S f (j + 1)) := (HM.out.next HP.out HJ.out).drew
        clear m0 b2 hcN hfN hoff HM n4
        go_wp2
        go_roundw
        case rel => exact ⟨j + 1, by omega, by go_num, HF.out⟩
        case measure => simp [intOf]; omega
    · obtain rfl : j = S.wait.length := by omega
      have hX := hS.done HP.out
      have b1 : wr.cell? ⟨B, 1, none⟩ = some (.slice oa S.wait.length cap) := hS.row.cell 1
      have f1 : wr.frozen? ⟨B, 1, none⟩ = false := hS.row.frozen 1
      obtain ⟨w5, hw5⟩ : ∃ w5, wr.setCell ⟨B, 1, none⟩ (.slice none 0 0) = w5 := ⟨_, rfl⟩
      rw [hw5] at hX
      have HX : Hid (Plate w5 F B (settleP f S) ∧ Touch F w w5) := ⟨⟨K, N, _, hX.1⟩, hX.2⟩
      clear hX hS
      go_wp2
      go_end0
      exact ⟨rfl, HX.out.1, HX.out.2⟩
end Go.Proofs.YtoopaigpjefonaaGreatDoor
