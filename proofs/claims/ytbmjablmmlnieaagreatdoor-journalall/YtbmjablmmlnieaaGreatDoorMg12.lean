/- block's blocks, has, readSector, writeSector and Put, at a device that lies in memory. · block's Get, at a device that lies in memory. -/
import Derived.Test.YtbmjablmmlnieaaGreatDoorMg09
import Derived.Test.YtbmjablmmlnieaaGreatDoorMg11
import Derived.Lib.AppendStr
namespace Go.Proofs.YtbmjablmmlnieaaGreatDoor
set_option maxRecDepth 20000
open Go.RowKit

def bhasB (S : PS) (at_ : Int) : Bool := decide (0 ≤ at_ ∧ at_ < ((S.kept.length / 8 : Nat) : Int))
theorem blocks_any (B : Nat) (F : Nat → Prop) (S : PS) (w : World) (hp : Plate w F B S) : Calls Tryz.prog 48 #[.pointer (some ⟨B, 0, none⟩)] w fun e w' => e = .returned (.int .i64 ((S.kept.length / 8 : Nat) : Int)) ∧ w' = w := by
  have hs := sectors_any B F S w hp
  have hm : S.kept.length ≤ 32768 := by obtain ⟨K, N, wv, h⟩ := hp; exact h.most
  have HQ : Hid (((S.kept.length : Nat) : Int).tdiv 8 = ((S.kept.length / 8 : Nat) : Int)) := by
    show _ = _
    rw [Int.tdiv_eq_ediv_of_nonneg (by omega)]
    omega
  generalize S.kept.length = n at *
  obtain ⟨q, hq⟩ : ∃ q : Int, q = ((n / 8 : Nat) : Int) := ⟨_, rfl⟩
  have hq2 : IntKind.i64.wrap (((n : Nat) : Int).tdiv 8) = q := by rw [HQ.out, IntKind.wrap_i64, hq]; omega
  have hq3 : ((n : Nat) : Int).tdiv 8 = q := by rw [HQ.out, hq]
  have hq4 : ((n : Nat) : Int) / 8 = q := by omega
  rw [← hq]
  clear hq HQ hp
  go_enter Tryz.func48, Tryz.ntmps48
  go_wp2_with fail
  refine hs.mono ?_
  rintro e w1 ⟨rfl, rfl⟩
  go_wp2
  go_ret
  exact ⟨rfl, rfl⟩
theorem bhas_any (B : Nat) (F : Nat → Prop) (S : PS) (at_ : Int) (w : World) (hp : Plate w F B S) : Calls Tryz.prog 83 #[.pointer (some ⟨B, 0, none⟩), .int .i64 at_] w fun e w' => e = .returned (.bool (bhasB S at_)) ∧ w' = w := by
  have hb := blocks_any B F S w hp
  have HB : Hid (bhasB S at_ = decide (0 ≤ at_ ∧ at_ < ((S.kept.length / 8 : Nat) : Int))) := rfl
  generalize bhasB S at_ = r at *
  generalize ((S.kept.length / 8 : Nat) : Int) = q at *
  clear hp
  by_cases h0 : 0 ≤ at_
  · by_cases h1 : at_ < q
    · obtain rfl : r = true := by rw [HB.out]; exact decide_eq_true ⟨h0, h1⟩
      clear HB
      go_enter Tryz.func83, Tryz.ntmps83
      go_wp2_with fail
      refine hb.mono ?_
      rintro e w1 ⟨rfl, rfl⟩
      go_wp2
      go_ret
      exact ⟨rfl, rfl⟩
    · obtain rfl : r = false := by rw [HB.out]; exact decide_eq_false fun h => h1 h.2
      clear HB
      have h2 : decide (at_ < q) = false := decide_eq_false h1
      clear h1
      go_enter Tryz.func83, Tryz.ntmps83
      go_wp2_with fail
      refine hb.mono ?_
      rintro e w1 ⟨rfl, rfl⟩
      go_wp2
      go_ret
      exact ⟨rfl, rfl⟩
  · obtain rfl : r = false := by rw [HB.out]; exact decide_eq_false fun h => h0 h.1
    clear HB hb
    go_enter Tryz.func83, Tryz.ntmps83
    go_wp2
    go_ret
    exact ⟨rfl, rfl⟩
theorem writeSector_any (B : Nat) (F : Nat → Prop) (S : PS) (x : Int) (s : ByteArray) (w : World) (hp : Plate w F B S) (hw : S.wait.length ≤ 1000000) :
    Calls Tryz.prog 124 #[.pointer (some ⟨B, 0, none⟩), .int .i64 x, .string s] w fun e w' => e = .returned (secErr x (writeE S x s)) ∧ Plate w' (grow F w w') B (writeP S x s) ∧ Touch F w w' := by
  have h1 := write_any B F S x s w hp hw
  generalize writeE S x s = y at *
  generalize writeP S x s = S' at *
  clear hp
  go_enter Tryz.func124, Tryz.ntmps124
  go_wp2_with fail
  refine h1.mono ?_
  rintro e w1 ⟨rfl, h2, h3⟩
  have HF : Hid _ := And.intro h2 h3
  clear h2 h3 h1
  go_wp2_with fail
  refine (wrapped_any x y _).mono ?_
  rintro e w2 ⟨rfl, rfl⟩
  obtain ⟨z, hz⟩ : ∃ z, z = secErr x y := ⟨_, rfl⟩
  rw [← hz]
  have HZ : Hid (z = secErr x y) := hz
  clear hz
  go_wp2
  go_ret
  exact ⟨by rw [← HZ.out]; rfl, HF.out⟩
theorem readSector_any (B : Nat) (F : Nat → Prop) (S : PS) (x : Int) (w : World) (hp : Plate w F B S) (hw : S.wait.length ≤ 1000000) :
    Calls Tryz.prog 84 #[.pointer (some ⟨B, 0, none⟩), .int .i64 x] w fun e w' => e = .returned (.tuple #[.string (readS S x), secErr x (readE S x)]) ∧ Plate w' F B (readP S x) ∧ Touch F w w' := by
  have h1 := read_any B F S x w hp hw
  generalize readE S x = y at *
  generalize readS S x = s at *
  generalize readP S x = S' at *
  clear hp
  go_enter Tryz.func84, Tryz.ntmps84
  go_wp2_with fail
  refine h1.mono ?_
  rintro e w1 ⟨rfl, h2, h3⟩
  have HF : Hid _ := And.intro h2 h3
  clear h2 h3 h1
  go_wp2_with fail
  refine (wrapped_any x y _).mono ?_
  rintro e w2 ⟨rfl, rfl⟩
  obtain ⟨z, hz⟩ : ∃ z, z = secErr x y := ⟨_, rfl⟩
  rw [← hz]
  have HZ : Hid (z = secErr x y) := hz
  clear hz
  go_wp2
  go_ret2
  exact ⟨by rw [← HZ.out]; rfl, HF.out⟩

/-- A block's sector, and what writing sectors comes to, one by one. -/
def secS (r : ByteArray) (j : Nat) : ByteArray := r.extract (64 * j) (64 * j + 64)
def putGo (r : ByteArray) (a : Nat) : Nat → Nat → PS → Int × PS
  | 0, _, S => (0, S)
  | n + 1, j, S => if writeE S ((8 * a + j : Nat) : Int) (secS r j) = 0 then putGo r a n (j + 1) (writeP S ((8 * a + j : Nat) : Int) (secS r j)) else (writeE S ((8 * a + j : Nat) : Int) (secS r j), writeP S ((8 * a + j : Nat) : Int) (secS r j))
def bputE (S : PS) (at_ : Int) (r : ByteArray) : Int := if r.size = 512 then (if bhasB S at_ then (putGo r at_.toNat 8 0 S).1 else 2) else 1
def bputP (S : PS) (at_ : Int) (r : ByteArray) : PS := if r.size = 512 then (if bhasB S at_ then (putGo r at_.toNat 8 0 S).2 else S) else S
theorem writeP_len (S : PS) (x : Int) (s : ByteArray) : (writeP S x s).kept.length = S.kept.length ∧ (writeP S x s).wait.length ≤ S.wait.length + 1 := by
  unfold writeP
  split
  · split
    · split
      · split
        · exact ⟨rfl, Nat.le_succ _⟩
        · exact ⟨rfl, by simp⟩
      · exact ⟨rfl, Nat.le_succ _⟩
    · exact ⟨rfl, Nat.le_succ _⟩
  · exact ⟨rfl, Nat.le_succ _⟩
theorem cell_kept_0 {w w' : World} {b : Nat} (h : w'.heap[b]? = w.heap[b]?) {i : Nat} : w'.cell? ⟨b, i, none⟩ = w.cell? ⟨b, i, none⟩ := World.cell?_of_block (a := ⟨b, i, none⟩) h
theorem grow_grow {F : Nat → Prop} {w w1 w2 : World} (h1 : w.heap.size ≤ w1.heap.size) (h2 : w1.heap.size ≤ w2.heap.size) (k : Nat) (h : grow (grow F w w1) w1 w2 k) : grow F w w2 k :=
  h.elim (fun a => a.elim .inl fun b => .inr ⟨b.1, Nat.lt_of_lt_of_le b.2 h2⟩) fun a => .inr ⟨Nat.le_trans h1 a.1, a.2⟩
set_option maxHeartbeats 4000000 in
theorem bput_any (B : Nat) (F : Nat → Prop) (S : PS) (at_ : Int) (r : ByteArray) (w : World) (hp : Plate w F B S) (hw : S.wait.length ≤ 900000) (hg : ErrT w) (hF : ¬ F 0) :
    Calls Tryz.prog 104 #[.pointer (some ⟨B, 0, none⟩), .int .i64 at_, .string r] w fun e w' => e = .returned (.int .i64 (bputE S at_ r)) ∧ Plate w' (grow F w w') B (bputP S at_ r) ∧ Touch F w w' := by
  have hwh := fun w => whole_any r w
  by_cases hr : r.size = 512
  case neg =>
    have HF : Hid (bputE S at_ r = 1 ∧ Plate w (grow F w w) B (bputP S at_ r)) := ⟨by simp [bputE, hr], by simp only [bputP, hr, if_false]; exact hp.mono fun k _ h => .inl h⟩
    rw [decide_eq_false hr] at hwh
    rw [HF.out.1]
    clear hp
    go_enter Tryz.func104, Tryz.ntmps104
    go_wp2_with fail
    refine (hwh _).mono ?_
    rintro e w1 ⟨rfl, rfl⟩
    go_wp2
    go_ret
    exact ⟨rfl, HF.out.2, Touch.refl _ _⟩
  rw [decide_eq_true hr] at hwh
  have hha := bhas_any B F S at_ w hp
  cases hb : bhasB S at_
  · have HF : Hid (bputE S at_ r = 2 ∧ Plate w (grow F w w) B (bputP S at_ r)) := ⟨by simp [bputE, hr, hb], by simp [bputP, hb]; exact hp.mono fun k _ h => .inl h⟩
    rw [hb] at hha
    rw [HF.out.1]
    clear hp
    go_enter Tryz.func104, Tryz.ntmps104
    go_wp2_with fail
    refine (hwh _).mono ?_
    rintro e w1 ⟨rfl, rfl⟩
    go_wp2_with fail
    refine hha.mono ?_
    rintro e w2 ⟨rfl, rfl⟩
    go_wp2
    go_ret
    exact ⟨rfl, HF.out.2, Touch.refl _ _⟩
  rw [hb] at hha
  have hb2 : 0 ≤ at_ ∧ at_ < ((S.kept.length / 8 : Nat) : Int) := by simpa [bhasB] using hb
  have hm : S.kept.length ≤ 32768 := by obtain ⟨K, N, wv, h⟩ := hp; exact h.most
  obtain ⟨a, rfl⟩ : ∃ a : Nat, at_ = a := ⟨at_.toNat, by omega⟩
  have HR : Hid (bputE S (a : Nat) r = (putGo r a 8 0 S).1 ∧ bputP S (a : Nat) r = (putGo r a 8 0 S).2) := ⟨by simp [bputE, hr, hb], by simp [bputP, hr, hb]⟩
  rw [HR.out.1, HR.out.2]
  have ha : a < 4096 := by omega
  have HI : Hid (Plate w (grow F w w) B S ∧ ErrT w) := ⟨hp.mono fun k _ h => .inl h, hg⟩
  have hlt := lt_of_cell_ hg
  obtain ⟨G, hG⟩ : ∃ G, putGo r a 8 0 S = G := ⟨_, rfl⟩
  rw [hG]
  have HG : Hid (putGo r a 8 0 S = G) := hG
  clear hp hg hb HR hb2 hG
  go_enter Tryz.func104, Tryz.ntmps104
  go_wp2_with fail
  refine (hwh _).mono ?_
  rintro e w1 ⟨rfl, rfl⟩
  clear hwh
  go_wp2_with fail
  refine hha.mono ?_
  rintro e w2 ⟨rfl, rfl⟩
  clear hha
  go_wp2_with fail
  go_loopw [21] (fun v wr => ∃ (j : Nat) (Sj : PS), j ≤ 8 ∧ v = .int .i64 j ∧ putGo r a (8 - j) j Sj = G ∧ Plate wr (grow F w2 wr) B Sj ∧ Touch F w2 wr ∧ Sj.wait.length ≤ 900000 + j ∧ ErrT wr) (fun v _ => 8 - (intOf v).toNat)
  case atStart => exact ⟨0, S, by omega, rfl, HG.out, HI.out.1, Touch.refl _ _, by omega, HI.out.2⟩
  case round =>
    clear HI HG
    obtain ⟨j, Sj, hj, rfl, hgo, hpj, htj, hwj, hgj⟩ := hrel
    by_cases hlt8 : j < 8
    · have j1 : (j : Int) < 8 := by omega
      obtain ⟨p, hp⟩ : ∃ p : Nat, p = 64 * j := ⟨_, rfl⟩
      obtain ⟨q, hq⟩ : ∃ q : Nat, q = 64 * j + 64 := ⟨_, rfl⟩
      obtain ⟨x, hx⟩ : ∃ x : Int, x = ((8 * a + j : Nat) : Int) := ⟨_, rfl⟩
      have HS : Hid (secS r j = r.extract p q) := by rw [hp, hq]; rfl
      have HGO : Hid (putGo r a (8 - j) j Sj = if writeE Sj x (secS r j) = 0 then putGo r a (8 - (j + 1)) (j + 1) (writeP Sj x (secS r j)) else (writeE Sj x (secS r j), writeP Sj x (secS r j))) := by
        show _ = _
        rw [show 8 - j = (8 - (j + 1)) + 1 by omega, hx]
        rfl
      have hws := writeSector_any B (grow F w2 wr) Sj x (r.extract p q) wr hpj (by omega)
      have HL : Hid ((writeP Sj x (r.extract p q)).wait.length ≤ 900000 + (j + 1)) := by
        have := (writeP_len Sj x (r.extract p q)).2
        show _ ≤ _
        omega
      have m1 : IntKind.i64.wrap (64 * (j : Int)) = (p : Nat) := by rw [IntKind.wrap_i64]; omega
      have m2 : IntKind.i64.wrap ((j : Int) + 1) = (j : Int) + 1 := by rw [IntKind.wrap_i64]; omega
      have m3 : IntKind.i64.wrap (64 * ((j : Int) + 1)) = (q : Nat) := by rw [IntKind.wrap_i64]; omega
      have m4 : IntKind.i64.wrap (8 * (a : Int)) = 8 * (a : Int) := by rw [IntKind.wrap_i64]; omega
      have m5 : IntKind.i64.wrap (8 * (a : Int) + (j : Int)) = x := by rw [IntKind.wrap_i64]; omega
      have n0 : (0 : Int) ≤ (p : Nat) := by omega
      have n1 : ((p : Nat) : Int) ≤ (q : Nat) := by omega
      have n2 : ((q : Nat) : Int) ≤ r.size := by omega
      rw [HGO.out, HS.out] at hgo
      have HW : Hid (∀ w', Touch (grow F w2 wr) wr w' → Touch F w2 w' ∧ ErrT w') := fun w' h => ⟨htj.trans h, (cell_kept_0 (h.2 0 (Nat.lt_of_lt_of_le hlt htj.size) (fun hh => hh.elim hF fun y => absurd y.1 (by omega)))).trans hgj⟩
      have hz := htj.size
      clear HGO HS hpj htj hgj hp hq hx
      generalize writeE Sj x (r.extract p q) = y at *
      generalize writeP Sj x (r.extract p q) = Sk at *
      by_cases hy : y = 0
      · have he : secErr x y = .nilIface := if_pos hy
        rw [he] at hws
        rw [if_pos hy] at hgo
        have HGO : Hid (putGo r a (8 - (j + 1)) (j + 1) Sk = G) := hgo
        clear hgo he
        go_wp2_with fail
        refine hws.mono ?_
        rintro e w3 ⟨rfl, hp3, ht3⟩
        obtain ⟨ht4, hg4⟩ := HW.out w3 ht3
        have HF : Hid (Plate w3 (grow F w2 w3) B Sk ∧ Touch F w2 w3 ∧ ErrT w3) := ⟨hp3.mono fun k _ hk => grow_grow hz ht3.size k hk, ht4, hg4⟩
        clear hws hp3 ht3 ht4 hg4 HW
        go_wp2
        go_roundw
        case rel => exact ⟨j + 1, Sk, by omega, by go_num, HGO.out, HF.out.1, HF.out.2.1, HL.out, HF.out.2.2⟩
        case measure => simp [intOf]; omega
      · have HE : Hid (secErr x y = .iface 220 (.agg #[.int .i64 x, .int .i64 y])) := if_neg hy
        rw [if_neg hy] at hgo
        have HGO : Hid (y = G.1 ∧ Sk = G.2) := by rw [← hgo]; exact ⟨rfl, rfl⟩
        have hno := fun w h => numberOf_any x y w h
        rw [HE.out] at hws
        simp only [HE.out] at hno
        clear hgo
        go_wp2_with fail
        refine hws.mono ?_
        rintro e w3 ⟨rfl, hp3, ht3⟩
        obtain ⟨ht4, hg4⟩ := HW.out w3 ht3
        have HF : Hid (Plate w3 (grow F w2 w3) B Sk ∧ Touch F w2 w3) := ⟨hp3.mono fun k _ hk => grow_grow hz ht3.size k hk, ht4⟩
        clear hws hp3 ht3 ht4 HW
        go_wp2_with fail
        refine (hno _ hg4).mono ?_
        rintro e w4 ⟨rfl, hb4⟩
        have HF4 : Hid (Plate w4 (grow F w2 w4) B Sk ∧ Touch F w2 w4) := ⟨(HF.out.1.below hb4).mono fun k _ hk => hk.imp id fun z => ⟨z.1, Nat.lt_of_lt_of_le z.2 hb4.size⟩, HF.out.2.trans (Touch.of_below hb4)⟩
        clear hno hb4 HF
        go_wp2
        go_ret
        exact ⟨by rw [← HGO.out.1]; rfl, by rw [← HGO.out.2]; exact HF4.out.1, HF4.out.2⟩
    · obtain rfl : j = 8 := by omega
      have HF : Hid ((0 : Int) = G.1 ∧ Plate wr (grow F w2 wr) B G.2 ∧ Touch F w2 wr) := by
        rw [← hgo]
        exact ⟨rfl, hpj, htj⟩
      clear hgo hpj htj hgj
      go_wp2
      go_ret
      exact ⟨by rw [← HF.out.1]; rfl, HF.out.2⟩
end Go.Proofs.YtbmjablmmlnieaaGreatDoor

namespace Go.Proofs.YtbmjablmmlnieaaGreatDoor
set_option maxRecDepth 20000
open Go.RowKit

theorem textR_mem {i : Nat} {s : ByteArray} : ∀ {r : List (Nat × ByteArray)}, textR r i = some s → (i, s) ∈ r
  | [], h => by simp [textR] at h
  | (a, u) :: t, h => by
    simp only [textR] at h
    split at h
    · rename_i e
      cases h
      rw [e]
      exact List.mem_cons_self
    · exact List.mem_cons_of_mem _ (textR_mem h)
theorem readS_size {w : World} {F : Nat → Prop} {B : Nat} {S : PS} (hp : Plate w F B S) (x : Int) : (readS S x).size ≤ 64 := by
  obtain ⟨K, N, wv, h⟩ := hp
  have hk : (keptS S x).size ≤ 64 := by
    unfold keptS
    rw [List.getD_eq_getElem?_getD]
    by_cases hi : x.toNat < S.kept.length
    · rw [List.getElem?_eq_getElem hi]
      have := h.texts _ (List.getElem_mem hi)
      simp
      omega
    · rw [List.getElem?_eq_none (by omega)]
      decide
  have hh : (heldS S x).size ≤ 64 := by
    unfold heldS
    split
    · exact hk
    · decide
  unfold readS
  split
  · split
    · cases ht : textOf S.wait x.toNat with
      | none => exact hh
      | some u =>
        have h2 : u.size = 64 := (h.ats _ (List.mem_reverse.1 (textR_mem ht))).2
        simp only [Option.getD_some]
        omega
    · decide
  · decide
theorem owns_keepB {w w' : World} {b : Nat} {e : TypeId} {z n : Nat} {v : Value} {xs : List Value} (h : w.ownsRow b e z v n xs) (hb : ∀ g, b ≤ g → g < w.heap.size → w'.heap[g]? = w.heap[g]?) : w'.ownsRow b e z v n xs := by
  refine ⟨h.1, ?_⟩
  rcases h.2 with hn | ⟨g, cap, cur, rfl, h0, hg, hr⟩
  · exact .inl hn
  · exact .inr ⟨g, cap, cur, rfl, h0, (hb g h0 (lt_of_block hg)).trans hg, hr⟩
theorem strCells_add (t s : ByteArray) : Lib.strCells t ++ Lib.strCells s = Lib.strCells (t ++ s) := by
  rw [byteCells_str, byteCells_str, byteCells_str, byteCells_append]
  simp
theorem zeros64_any (w : World) : Calls Tryz.prog 50 #[.int .i64 64] w fun e w' => e = .returned (.string (fillS 0 64)) ∧ Below w.heap.size w w' := by
  have hr := fun w => repeat_blank w
  generalize fillS 0 64 = z at *
  go_enter Tryz.func50, Tryz.ntmps50
  go_wp2_with fail
  refine (hr _).mono ?_
  rintro e w1 ⟨rfl, hb⟩
  have HB : Hid _ := hb
  clear hb hr
  go_wp2
  go_ret
  exact ⟨rfl, HB.out⟩
/-- What reading the sectors of a block comes to, one by one. -/
def getGo (a : Nat) : Nat → Nat → PS → ByteArray → Nat → (ByteArray × Nat × Int) × PS
  | 0, _, S, t, m => ((t, m, 0), S)
  | n + 1, j, S, t, m =>
    if readE S ((8 * a + j : Nat) : Int) = 0 then getGo a n (j + 1) (readP S ((8 * a + j : Nat) : Int)) (t ++ readS S ((8 * a + j : Nat) : Int)) m
    else if readE S ((8 * a + j : Nat) : Int) = 21 then getGo a n (j + 1) (readP S ((8 * a + j : Nat) : Int)) (t ++ fillS 0 64) (m + 2 ^ j)
    else ((⟨#[]⟩, 0, readE S ((8 * a + j : Nat) : Int)), readP S ((8 * a + j : Nat) : Int))
def bget (S : PS) (at_ : Int) : (ByteArray × Nat × Int) × PS := if bhasB S at_ then getGo at_.toNat 8 0 S ⟨#[]⟩ 0 else ((⟨#[]⟩, 0, 2), S)
theorem readP_len (S : PS) (x : Int) : (readP S x).kept.length = S.kept.length ∧ (readP S x).wait = S.wait := by
  unfold readP
  split
  · split
    · exact ⟨rfl, rfl⟩
    · exact ⟨rfl, rfl⟩
  · exact ⟨rfl, rfl⟩
theorem or_bit (m j : Nat) (h : m < 2 ^ j) (hj : j < 8) : bits .or .i64 (m : Int) ((2 ^ j : Nat) : Int) = ((m + 2 ^ j : Nat) : Int) := by
  have h1 : (2 : Nat) ^ j ≤ 2 ^ 7 := Nat.pow_le_pow_right (by decide) (by omega)
  rw [i64_or_nat m (2 ^ j) (by omega) (by omega)]
  have h2 := Nat.two_pow_add_eq_or_of_lt h 1
  rw [Nat.mul_one] at h2
  rw [Nat.or_comm, ← h2, Nat.add_comm]
theorem wrap_two (j : Nat) (hj : j < 8) : wrap64 (2 ^ j) = ((2 ^ j : Nat) : Int) := by
  have h : j = 0 ∨ j = 1 ∨ j = 2 ∨ j = 3 ∨ j = 4 ∨ j = 5 ∨ j = 6 ∨ j = 7 := by omega
  rcases h with rfl | rfl | rfl | rfl | rfl | rfl | rfl | rfl <;> (unfold wrap64; decide)
theorem get_ret (tmps : Array Value) (w : World) (t : ByteArray) (m y : Int) (R : Ending → World → Prop) (h1 : tmps.getD 4 undef = .string t) (h2 : tmps.getD 5 undef = .int .i64 m) (h3 : tmps.getD 6 undef = .int .i64 y) (hR : R (.returned (.tuple #[.string t, .int .i64 m, .int .i64 y])) w) :
    bodyPost Tryz.prog Tryz.f49 R .ret { tmps := tmps, defers := [] } w := by
  simp at h1 h2 h3
  exact bodyPost_ret (v := .tuple #[.string t, .int .i64 m, .int .i64 y]) (by simp [results, Tryz.results49, h1, h2, h3]) rfl hR
set_option maxHeartbeats 4000000 in
theorem bget_any (B : Nat) (F : Nat → Prop) (S : PS) (at_ : Int) (w : World) (hp : Plate w F B S) (hw : S.wait.length ≤ 1000000) (hg : ErrT w) (hF : ¬ F 0) :
    Calls Tryz.prog 49 #[.pointer (some ⟨B, 0, none⟩), .int .i64 at_] w fun e w' => e = .returned (.tuple #[.string (bget S at_).1.1, .int .i64 ((bget S at_).1.2.1 : Nat), .int .i64 (bget S at_).1.2.2]) ∧ Plate w' F B (bget S at_).2 ∧ Touch F w w' := by
  have hha := bhas_any B F S at_ w hp
  cases hb : bhasB S at_
  · have HF : Hid (bget S at_ = ((⟨#[]⟩, 0, 2), S) ∧ Plate w F B S) := ⟨by simp [bget, hb], hp⟩
    rw [hb] at hha
    rw [HF.out.1]
    clear hp
    go_enter Tryz.func49, Tryz.ntmps49
    go_wp2_with fail
    refine hha.mono ?_
    rintro e w1 ⟨rfl, rfl⟩
    go_wp2_with fail
    exact get_ret _ _ ⟨#[]⟩ 0 2 _ rfl rfl rfl ⟨rfl, HF.out.2, Touch.refl _ _⟩
  rw [hb] at hha
  have hb2 : 0 ≤ at_ ∧ at_ < ((S.kept.length / 8 : Nat) : Int) := by simpa [bhasB] using hb
  have hm : S.kept.length ≤ 32768 := by obtain ⟨K, N, wv, h⟩ := hp; exact h.most
  obtain ⟨a, rfl⟩ : ∃ a : Nat, at_ = a := ⟨at_.toNat, by omega⟩
  have HR : Hid (bget S (a : Nat) = getGo a 8 0 S ⟨#[]⟩ 0) := by show _ = _; simp [bget, hb]
  rw [HR.out]
  have ha : a < 4096 := by omega
  have hlt := lt_of_cell_ hg
  obtain ⟨G, hG⟩ : ∃ G, getGo a 8 0 S ⟨#[]⟩ 0 = G := ⟨_, rfl⟩
  rw [hG]
  have HG : Hid (getGo a 8 0 S ⟨#[]⟩ 0 = G) := hG
  have HP : Hid (Plate w (fun k => F k ∧ k < w.heap.size) B S ∧ ErrT w) := ⟨hp.mono fun k hk h => ⟨h, hk⟩, hg⟩
  obtain ⟨i0, hi, hz0, hz1, hz2⟩ := info_parts info_u8
  clear hp hg hb HR hb2 hG
  go_enter Tryz.func49, Tryz.ntmps49
  go_wp2_with fail
  refine hha.mono ?_
  rintro e w1 ⟨rfl, rfl⟩
  clear hha
  go_wp2_with (first | (at_make; refine wpList_make_own _ rfl _ _ 92 rfl w1.heap.size 5 i0 (.int .u8 0) 1 Tryz.underlying92 hi hz0 hz1 .i64 .i64 512 512 rfl rfl rfl (by rw [hz2]; decide) (by decide) (Nat.le_refl _) ?_))
  intro w2 hown2 hgrow2
  have hb2 : Below w1.heap.size w1 w2 := (Below.refl _ _).grown hgrow2 (Nat.le_refl _) (fun k hk => by simp at hk)
  have HI : Hid (Plate w2 (fun k => F k ∧ k < w1.heap.size) B S ∧ Touch (fun k => F k ∧ k < w1.heap.size) w1 w2 ∧ ErrT w2 ∧ w2.ownsRow w1.heap.size 5 1 (.slice (some ⟨w1.heap.size, 0, none⟩) 0 512) 0 []) := ⟨HP.out.1.below hb2, Touch.of_below hb2, HP.out.2.below hb2 hlt, hown2⟩
  clear hown2 hgrow2 hb2 HP
  go_wp2_with fail
  go_loopw [7, 8, 20] (fun v mv i wr => ∃ (j : Nat) (Sj : PS) (t : ByteArray) (m : Nat), j ≤ 8 ∧ i = .int .i64 j ∧ mv = .int .i64 (m : Nat) ∧ m < 2 ^ j ∧ t.size ≤ 64 * j ∧ getGo a (8 - j) j Sj t m = G ∧ Plate wr (fun k => F k ∧ k < w1.heap.size) B Sj ∧ Touch (fun k => F k ∧ k < w1.heap.size) w1 wr ∧ ErrT wr ∧ wr.ownsRow w1.heap.size 5 1 v t.size (Lib.strCells t) ∧ Sj.wait.length ≤ 1000000) (fun _ _ i _ => 8 - (intOf i).toNat)
  case atStart => exact ⟨0, S, ⟨#[]⟩, 0, by omega, rfl, rfl, by decide, by decide, HG.out, HI.out.1, HI.out.2.1, HI.out.2.2.1, HI.out.2.2.2, hw⟩
  case round =>
    clear HI HG
    obtain ⟨j, Sj, t, m, hj, rfl, rfl, hmj, htz, hgo, hpj, htj, hgj, hown, hwj⟩ := hrel
    by_cases hlt8 : j < 8
    · have j1 : (j : Int) < 8 := by omega
      obtain ⟨x, hx⟩ : ∃ x : Int, x = ((8 * a + j : Nat) : Int) := ⟨_, rfl⟩
      have HGO : Hid (getGo a (8 - j) j Sj t m = if readE Sj x = 0 then getGo a (8 - (j + 1)) (j + 1) (readP Sj x) (t ++ readS Sj x) m else if readE Sj x = 21 then getGo a (8 - (j + 1)) (j + 1) (readP Sj x) (t ++ fillS 0 64) (m + 2 ^ j) else ((⟨#[]⟩, 0, readE Sj x), readP Sj x)) := by
        show _ = _
        rw [show 8 - j = (8 - (j + 1)) + 1 by omega, hx]
        rfl
      rw [HGO.out] at hgo
      have hrs := readSector_any B _ Sj x wr hpj hwj
      have hsz := readS_size hpj x
      have HL : Hid ((readP Sj x).wait.length ≤ 1000000) := by show _ ≤ _; rw [(readP_len Sj x).2]; exact hwj
      have m4 : IntKind.i64.wrap (8 * (a : Int)) = 8 * (a : Int) := by rw [IntKind.wrap_i64]; omega
      have m5 : IntKind.i64.wrap (8 * (a : Int) + (j : Int)) = x := by rw [IntKind.wrap_i64]; omega
      have HW : Hid (∀ w', Touch (fun k => F k ∧ k < w1.heap.size) wr w' → Touch (fun k => F k ∧ k < w1.heap.size) w1 w' ∧ ErrT w' ∧ w'.ownsRow w1.heap.size 5 1 u7 t.size (Lib.strCells t)) := fun w' h => ⟨htj.trans (h.mono fun k hk => .inl hk), (cell_kept_0 (h.2 0 (Nat.lt_of_lt_of_le hlt htj.size) (fun hh => hF hh.1))).trans hgj, owns_keepB hown fun g h0 hg => h.2 g hg fun hh => by omega⟩
      clear HGO hpj htj hgj hown hx
      generalize readE Sj x = y at *
      generalize readS Sj x = s at *
      generalize readP Sj x = Sk at *
      have hno := fun w h => numberOf_any x y w h
      generalize secErr x y = z at *
      have hp2 : (2 : Nat) ^ j ≤ 128 := Nat.le_trans (Nat.pow_le_pow_right (by decide) (show j ≤ 7 by omega)) (by decide)
      go_wp2_with fail
      refine hrs.mono ?_
      rintro e w3 ⟨rfl, hp3, ht3⟩
      obtain ⟨ht4, hg4, ho4⟩ := HW.out w3 ht3
      clear hrs ht3 HW
      go_wp2_with fail
      refine (hno _ hg4).mono ?_
      rintro e w4 ⟨rfl, hb4⟩
      have hp5 := hp3.below hb4
      have ht5 := ht4.trans (Touch.of_below (F := grow (fun k => F k ∧ k < w1.heap.size) w1 w3) hb4)
      have hg5 : ErrT w4 := hg4.below hb4 (lt_of_cell_ hg4)
      have ho5 : w4.ownsRow w1.heap.size 5 1 u7 t.size (Lib.strCells t) := owns_keepB ho4 fun g _ hg => hb4.block g hg
      have HP5 : Hid (Plate w4 (fun k => F k ∧ k < w1.heap.size) B Sk) := hp5
      have HT5 : Hid (Touch (fun k => F k ∧ k < w1.heap.size) w1 w4) := ht5
      have HG5 : Hid (ErrT w4) := hg5
      have hz5 := ht5.size
      clear hp3 ht4 hg4 ho4 hb4 hno hp5 ht5 hg5
      by_cases hy : y = 0
      · subst hy
        rw [if_pos rfl] at hgo
        have HGO : Hid _ := hgo
        clear hgo
        go_wp2_with (at_builtin; refine Lib.wpList_append_own_string _ rfl _ _ 92 9 rfl w1.heap.size 5 i0 Tryz.underlying92 Tryz.underlying9 hi hz0 hz1 hz2 _ _ _ rfl ho5 s rfl ?c1 ?c2 ?c3 ?_)
        case c1 => unfold maxLen; omega
        case c2 => omega
        case c3 => omega
        intro v6 w6 ho6 hgr6 _
        have hb6 : Below w1.heap.size w4 w6 := (Below.refl _ _).grown hgr6 hz5 (fun k hk => by
          rcases ho5.2 with ⟨rfl, _⟩ | ⟨g', cap, cur, rfl, hg', _⟩
          · simp [Value.ownBlock] at hk
          · simp [Value.ownBlock] at hk; omega)
        rw [strCells_add, ← ByteArray.size_append] at ho6
        have HF : Hid (Plate w6 (fun k => F k ∧ k < w1.heap.size) B Sk ∧ Touch (fun k => F k ∧ k < w1.heap.size) w1 w6 ∧ ErrT w6 ∧ w6.ownsRow w1.heap.size 5 1 v6 (t ++ s).size (Lib.strCells (t ++ s))) := ⟨HP5.out.keep fun k _ hk => hb6.block k hk.2, ⟨HT5.out.1.trans (hb6.mono (Nat.zero_le _)), fun k hk hn => (hb6.block k hk).trans (HT5.out.2 k hk hn)⟩, HG5.out.below hb6 hlt, ho6⟩
        clear hb6 ho6 hgr6 ho5 HP5 HT5 HG5
        go_wp2
        go_roundw
        case rel => exact ⟨j + 1, Sk, t ++ s, m, by omega, by go_num, rfl, by rw [Nat.pow_succ]; omega, by rw [ByteArray.size_append]; omega, HGO.out, HF.out.1, HF.out.2.1, HF.out.2.2.1, HF.out.2.2.2, HL.out⟩
        case measure => simp [intOf]; omega
      · have hy' : (y == 0) = false := beq_false_of_ne hy
        rw [if_neg hy] at hgo
        by_cases hy2 : y = 21
        · subst hy2
          rw [if_pos rfl] at hgo
          have HGO : Hid _ := hgo
          have hfz := fillS_size 0 64
          clear hgo
          go_wp2_with fail
          refine (zeros64_any _).mono ?_
          rintro e w5 ⟨rfl, hb5⟩
          replace HP5 : Hid (Plate w5 (fun k => F k ∧ k < w1.heap.size) B Sk) := HP5.out.below hb5
          replace HG5 : Hid (ErrT w5) := HG5.out.below hb5 (lt_of_cell_ HG5.out)
          replace HT5 : Hid (Touch (fun k => F k ∧ k < w1.heap.size) w1 w5) := HT5.out.trans (Touch.of_below hb5)
          replace ho5 : w5.ownsRow w1.heap.size 5 1 u7 t.size (Lib.strCells t) := owns_keepB ho5 fun g _ hg => hb5.block g hg
          replace hz5 := HT5.out.size
          clear hb5
          have hor := or_bit m j hmj hlt8
          go_wp2_with (at_builtin; refine Lib.wpList_append_own_string _ rfl _ _ 92 9 rfl w1.heap.size 5 i0 Tryz.underlying92 Tryz.underlying9 hi hz0 hz1 hz2 _ _ _ rfl ho5 (fillS 0 64) rfl ?c1 ?c2 ?c3 ?_)
          case c1 => unfold maxLen; omega
          case c2 => omega
          case c3 => omega
          intro v6 w6 ho6 hgr6 _
          have hb6 : Below w1.heap.size w5 w6 := (Below.refl _ _).grown hgr6 hz5 (fun k hk => by
            rcases ho5.2 with ⟨rfl, _⟩ | ⟨g', cap, cur, rfl, hg', _⟩
            · simp [Value.ownBlock] at hk
            · simp [Value.ownBlock] at hk; omega)
          have e64 : t.size + 64 = (t ++ fillS 0 64).size := by rw [ByteArray.size_append, fillS_size]
          rw [strCells_add, e64] at ho6
          clear e64
          have HF : Hid (Plate w6 (fun k => F k ∧ k < w1.heap.size) B Sk ∧ Touch (fun k => F k ∧ k < w1.heap.size) w1 w6 ∧ ErrT w6 ∧ w6.ownsRow w1.heap.size 5 1 v6 (t ++ fillS 0 64).size (Lib.strCells (t ++ fillS 0 64))) := ⟨HP5.out.keep fun k _ hk => hb6.block k hk.2, ⟨HT5.out.1.trans (hb6.mono (Nat.zero_le _)), fun k hk hn => (hb6.block k hk).trans (HT5.out.2 k hk hn)⟩, HG5.out.below hb6 hlt, ho6⟩
          clear hb6 ho6 hgr6 ho5 HP5 HT5 HG5
          have HM : Hid (bits BinOp.or IntKind.i64 (m : Nat) (wrap64 (2 ^ j)) = ((m + 2 ^ j : Nat) : Int)) := by
            show _ = _
            rw [wrap_two j hlt8]
            exact hor
          clear hor
          go_wp2
          go_roundw
          case rel => exact ⟨j + 1, Sk, t ++ fillS 0 64, m + 2 ^ j, by omega, by go_num, by rw [HM.out], by rw [Nat.pow_succ]; omega, by rw [ByteArray.size_append, fillS_size]; omega, HGO.out, HF.out.1, HF.out.2.1, HF.out.2.2.1, HF.out.2.2.2, HL.out⟩
          case measure => simp [intOf]; omega
        · have hy2' : (y == 21) = false := beq_false_of_ne hy2
          rw [if_neg hy2] at hgo
          subst hgo
          go_wp2_with fail
          exact get_ret _ _ ⟨#[]⟩ 0 y _ rfl rfl rfl ⟨rfl, HP5.out.mono fun k _ h => h.1, HT5.out.mono fun k h => h.1⟩
    · obtain rfl : j = 8 := by omega
      have HF : Hid (G = ((t, m, 0), Sj) ∧ Plate wr F B Sj ∧ Touch F w1 wr) := ⟨hgo.symm, hpj.mono fun k _ h => h.1, htj.mono fun k h => h.1⟩
      have hcv : (convert 92 9 u7).run Tryz.prog wr = .ok (.string t) wr := by
        have := run_convert_owned (w := wr) (base := w1.heap.size) (v := u7) (l := t.data.toList) (by rw [size_of_list, ← byteCells_str]; exact hown)
        rw [this]
      clear hgo hpj htj hgj hown
      go_wp2_with fail
      exact get_ret _ _ t m 0 _ rfl rfl rfl ⟨by rw [HF.out.1], by rw [HF.out.1]; exact HF.out.2.1, HF.out.2.2⟩
end Go.Proofs.YtbmjablmmlnieaaGreatDoor
