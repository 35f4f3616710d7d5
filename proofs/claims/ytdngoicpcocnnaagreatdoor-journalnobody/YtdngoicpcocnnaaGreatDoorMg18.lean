/- block's blocks, has, readSector, writeSector and Put, at a device that lies in memory. -/
import Derived.Test.YtdngoicpcocnnaaGreatDoorMg12
import Derived.Test.YtdngoicpcocnnaaGreatDoorMg15
import Derived.Test.YtdngoicpcocnnaaGreatDoorMg17
namespace Go.Proofs.YtdngoicpcocnnaaGreatDoor
set_option maxRecDepth 20000
open Go.RowKit

def bhasB (S : PS) (at_ : Int) : Bool := decide (0 ≤ at_ ∧ at_ < ((S.kept.length / 8 : Nat) : Int))
theorem blocks_any (B : Nat) (F : Nat → Prop) (S : PS) (w : World) (hp : Plate w F B S) : Calls Tryz.prog 48 #[.pointer (some ⟨B, 0, none⟩)] w fun e w' => e = .returned (.int .i64 ((S.kept.length / 8 : Nat) : Int)) ∧ w' = w := by
  have hs := sectors_any B F S w hp
  have hm : S.kept.length ≤ 32768 := by obtain ⟨K, N, wv, h⟩ := hp; exact h.most
  have HQ : Hid (((S.kept.length : Nat) : Int).tdiv 8 = ((S.kept.length / 8 : Nat) : Int)) := by
    show _ = _
    rw [Int.tdiv_eq_ediv_of_nonneg (by omega)]
    omega
  generalize S.kept.length = n at *
  obtain ⟨q, hq⟩ : ∃ q : Int, q = ((n / 8 : Nat) : Int) := ⟨_, rfl⟩
  have hq2 : IntKind.i64.wrap (((n : Nat) : Int).tdiv 8) = q := by rw [HQ.out, IntKind.wrap_i64, hq]; omega
  have hq3 : ((n : Nat) : Int).tdiv 8 = q := by rw [HQ.out, hq]
  have hq4 : ((n : Nat) : Int) / 8 = q := by omega
  rw [← hq]
  clear hq HQ hp
  go_enter Tryz.func48, Tryz.ntmps48
  go_wp2_with fail
  refine hs.mono ?_
  rintro e w1 ⟨rfl, rfl⟩
  go_wp2
  go_ret
  exact ⟨rfl, rfl⟩
theorem bhas_any (B : Nat) (F : Nat → Prop) (S : PS) (at_ : Int) (w : World) (hp : Plate w F B S) : Calls Tryz.prog 83 #[.pointer (some ⟨B, 0, none⟩), .int .i64 at_] w fun e w' => e = .returned (.bool (bhasB S at_)) ∧ w' = w := by
  have hb := blocks_any B F S w hp
  have HB : Hid (bhasB S at_ = decide (0 ≤ at_ ∧ at_ < ((S.kept.length / 8 : Nat) : Int))) := rfl
  generalize bhasB S at_ = r at *
  generalize ((S.kept.length / 8 : Nat) : Int) = q at *
  clear hp
  by_cases h0 : 0 ≤ at_
  · by_cases h1 : at_ < q
    · obtain rfl : r = true := by rw [HB.out]; exact decide_eq_true ⟨h0, h1⟩
      clear HB
      go_enter Tryz.func83, Tryz.ntmps83
      go_wp2_with fail
      refine hb.mono ?_
      rintro e w1 ⟨rfl, rfl⟩
      go_wp2
      go_ret
      exact ⟨rfl, rfl⟩
    · obtain rfl : r = false := by rw [HB.out]; exact decide_eq_false fun h => h1 h.2
      clear HB
      have h2 : decide (at_ < q) = false := decide_eq_false h1
      clear h1
      go_enter Tryz.func83, Tryz.ntmps83
      go_wp2_with fail
      refine hb.mono ?_
      rintro e w1 ⟨rfl, rfl⟩
      go_wp2
      go_ret
      exact ⟨rfl, rfl⟩
  · obtain rfl : r = false := by rw [HB.out]; exact decide_eq_false fun h => h0 h.1
    clear HB hb
    go_enter Tryz.func83, Tryz.ntmps83
    go_wp2
    go_ret
    exact ⟨rfl, rfl⟩
theorem writeSector_any (B : Nat) (F : Nat → Prop) (S : PS) (x : Int) (s : ByteArray) (w : World) (hp : Plate w F B S) (hw : S.wait.length ≤ 1000000) :
    Calls Tryz.prog 124 #[.pointer (some ⟨B, 0, none⟩), .int .i64 x, .string s] w fun e w' => e = .returned (secErr x (writeE S x s)) ∧ Plate w' (grow F w w') B (writeP S x s) ∧ Touch F w w' := by
  have h1 := write_any B F S x s w hp hw
  generalize writeE S x s = y at *
  generalize writeP S x s = S' at *
  clear hp
  go_enter Tryz.func124, Tryz.ntmps124
  go_wp2_with fail
  refine h1.mono ?_
  rintro e w1 ⟨rfl, h2, h3⟩
  have HF : Hid _ := And.intro h2 h3
  clear h2 h3 h1
  go_wp2_with fail
  refine (wrapped_any x y _).mono ?_
  rintro e w2 ⟨rfl, rfl⟩
  obtain ⟨z, hz⟩ : ∃ z, z = secErr x y := ⟨_, rfl⟩
  rw [← hz]
  have HZ : Hid (z = secErr x y) := hz
  clear hz
  go_wp2
  go_ret
  exact ⟨by rw [← HZ.out]; rfl, HF.out⟩
theorem readSector_any (B : Nat) (F : Nat → Prop) (S : PS) (x : Int) (w : World) (hp : Plate w F B S) (hw : S.wait.length ≤ 1000000) :
    Calls Tryz.prog 84 #[.pointer (some ⟨B, 0, none⟩), .int .i64 x] w fun e w' => e = .returned (.tuple #[.string (readS S x), secErr x (readE S x)]) ∧ Plate w' F B (readP S x) ∧ Touch F w w' := by
  have h1 := read_any B F S x w hp hw
  generalize readE S x = y at *
  generalize readS S x = s at *
  generalize readP S x = S' at *
  clear hp
  go_enter Tryz.func84, Tryz.ntmps84
  go_wp2_with fail
  refine h1.mono ?_
  rintro e w1 ⟨rfl, h2, h3⟩
  have HF : Hid _ := And.intro h2 h3
  clear h2 h3 h1
  go_wp2_with fail
  refine (wrapped_any x y _).mono ?_
  rintro e w2 ⟨rfl, rfl⟩
  obtain ⟨z, hz⟩ : ∃ z, z = secErr x y := ⟨_, rfl⟩
  rw [← hz]
  have HZ : Hid (z = secErr x y) := hz
  clear hz
  go_wp2
  go_ret2
  exact ⟨by rw [← HZ.out]; rfl, HF.out⟩

/-- A block's sector, and what writing sectors comes to, one by one. -/
def secS (r : ByteArray) (j : Nat) : ByteArray := r.extract (64 * j) (64 * j + 64)
def putGo (r : ByteArray) (a : Nat) : Nat → Nat → PS → Int × PS
  | 0, _, S => (0, S)
  | n + 1, j, S => if writeE S ((8 * a + j : Nat) : Int) (secS r j) = 0 then putGo r a n (j + 1) (writeP S ((8 * a + j : Nat) : Int) (secS r j)) else (writeE S ((8 * a + j : Nat) : Int) (secS r j), writeP S ((8 * a + j : Nat) : Int) (secS r j))
def bputE (S : PS) (at_ : Int) (r : ByteArray) : Int := if r.size = 512 then (if bhasB S at_ then (putGo r at_.toNat 8 0 S).1 else 2) else 1
def bputP (S : PS) (at_ : Int) (r : ByteArray) : PS := if r.size = 512 then (if bhasB S at_ then (putGo r at_.toNat 8 0 S).2 else S) else S
theorem writeP_len (S : PS) (x : Int) (s : ByteArray) : (writeP S x s).kept.length = S.kept.length ∧ (writeP S x s).wait.length ≤ S.wait.length + 1 := by
  unfold writeP
  split
  · split
    · split
      · split
        · exact ⟨rfl, Nat.le_succ _⟩
        · exact ⟨rfl, by simp⟩
      · exact ⟨rfl, Nat.le_succ _⟩
    · exact ⟨rfl, Nat.le_succ _⟩
  · exact ⟨rfl, Nat.le_succ _⟩
theorem cell_kept_0 {w w' : World} {b : Nat} (h : w'.heap[b]? = w.heap[b]?) {i : Nat} : w'.cell? ⟨b, i, none⟩ = w.cell? ⟨b, i, none⟩ := World.cell?_of_block (a := ⟨b, i, none⟩) h
theorem grow_grow {F : Nat → Prop} {w w1 w2 : World} (h1 : w.heap.size ≤ w1.heap.size) (h2 : w1.heap.size ≤ w2.heap.size) (k : Nat) (h : grow (grow F w w1) w1 w2 k) : grow F w w2 k :=
  h.elim (fun a => a.elim .inl fun b => .inr ⟨b.1, Nat.lt_of_lt_of_le b.2 h2⟩) fun a => .inr ⟨Nat.le_trans h1 a.1, a.2⟩
set_option maxHeartbeats 4000000 in
theorem bput_any (B : Nat) (F : Nat → Prop) (S : PS) (at_ : Int) (r : ByteArray) (w : World) (hp : Plate w F B S) (hw : S.wait.length ≤ 900000) (hg : ErrT w) (hF : ¬ F 0) :
    Calls Tryz.prog 104 #[.pointer (some ⟨B, 0, none⟩), .int .i64 at_, .string r] w fun e w' => e = .returned (.int .i64 (bputE S at_ r)) ∧ Plate w' (grow F w w') B (bputP S at_ r) ∧ Touch F w w' := by
  have hwh := fun w => whole_any r w
  by_cases hr : r.size = 512
  case neg =>
    have HF : Hid (bputE S at_ r = 1 ∧ Plate w (grow F w w) B (bputP S at_ r)) := ⟨by simp [bputE, hr], by simp only [bputP, hr, if_false]; exact hp.mono fun k _ h => .inl h⟩
    rw [decide_eq_false hr] at hwh
    rw [HF.out.1]
    clear hp
    go_enter Tryz.func104, Tryz.ntmps104
    go_wp2_with fail
    refine (hwh _).mono ?_
    rintro e w1 ⟨rfl, rfl⟩
    go_wp2
    go_ret
    exact ⟨rfl, HF.out.2, Touch.refl _ _⟩
  rw [decide_eq_true hr] at hwh
  have hha := bhas_any B F S at_ w hp
  cases hb : bhasB S at_
  · have HF : Hid (bputE S at_ r = 2 ∧ Plate w (grow F w w) B (bputP S at_ r)) := ⟨by simp [bputE, hr, hb], by simp [bputP, hb]; exact hp.mono fun k _ h => .inl h⟩
    rw [hb] at hha
    rw [HF.out.1]
    clear hp
    go_enter Tryz.func104, Tryz.ntmps104
    go_wp2_with fail
    refine (hwh _).mono ?_
    rintro e w1 ⟨rfl, rfl⟩
    go_wp2_with fail
    refine hha.mono ?_
    rintro e w2 ⟨rfl, rfl⟩
    go_wp2
    go_ret
    exact ⟨rfl, HF.out.2, Touch.refl _ _⟩
  rw [hb] at hha
  have hb2 : 0 ≤ at_ ∧ at_ < ((S.kept.length / 8 : Nat) : Int) := by simpa [bhasB] using hb
  have hm : S.kept.length ≤ 32768 := by obtain ⟨K, N, wv, h⟩ := hp; exact h.most
  obtain ⟨a, rfl⟩ : ∃ a : Nat, at_ = a := ⟨at_.toNat, by omega⟩
  have HR : Hid (bputE S (a : Nat) r = (putGo r a 8 0 S).1 ∧ bputP S (a : Nat) r = (putGo r a 8 0 S).2) := ⟨by simp [bputE, hr, hb], by simp [bputP, hr, hb]⟩
  rw [HR.out.1, HR.out.2]
  have ha : a < 4096 := by omega
  have HI : Hid (Plate w (grow F w w) B S ∧ ErrT w) := ⟨hp.mono fun k _ h => .inl h, hg⟩
  have hlt := lt_of_cell_ hg
  obtain ⟨G, hG⟩ : ∃ G, putGo r a 8 0 S = G := ⟨_, rfl⟩
  rw [hG]
  have HG : Hid (putGo r a 8 0 S = G) := hG
  clear hp hg hb HR hb2 hG
  go_enter Tryz.func104, Tryz.ntmps104
  go_wp2_with fail
  refine (hwh _).mono ?_
  rintro e w1 ⟨rfl, rfl⟩
  clear hwh
  go_wp2_with fail
  refine hha.mono ?_
  rintro e w2 ⟨rfl, rfl⟩
  clear hha
  go_wp2_with fail
  go_loopw [21] (fun v wr => ∃ (j : Nat) (Sj : PS), j ≤ 8 ∧ v = .int .i64 j ∧ putGo r a (8 - j) j Sj = G ∧ Plate wr (grow F w2 wr) B Sj ∧ Touch F w2 wr ∧ Sj.wait.length ≤ 900000 + j ∧ ErrT wr) (fun v _ => 8 - (intOf v).toNat)
  case atStart => exact ⟨0, S, by omega, rfl, HG.out, HI.out.1, Touch.refl _ _, by omega, HI.out.2⟩
  case round =>
    clear HI HG
    obtain ⟨j, Sj, hj, rfl, hgo, hpj, htj, hwj, hgj⟩ := hrel
    by_cases hlt8 : j < 8
    · have j1 : (j : Int) < 8 := by omega
      obtain ⟨p, hp⟩ : ∃ p : Nat, p = 64 * j := ⟨_, rfl⟩
      obtain ⟨q, hq⟩ : ∃ q : Nat, q = 64 * j + 64 := ⟨_, rfl⟩
      obtain ⟨x, hx⟩ : ∃ x : Int, x = ((8 * a + j : Nat) : Int) := ⟨_, rfl⟩
      have HS : Hid (secS r j = r.extract p q) := by rw [hp, hq]; rfl
      have HGO : Hid (putGo r a (8 - j) j Sj = if writeE Sj x (secS r j) = 0 then putGo r a (8 - (j + 1)) (j + 1) (writeP Sj x (secS r j)) else (writeE Sj x (secS r j), writeP Sj x (secS r j))) := by
        show _ = _
        rw [show 8 - j = (8 - (j + 1)) + 1 by omega, hx]
        rfl
      have hws := writeSector_any B (grow F w2 wr) Sj x (r.extract p q) wr hpj (by omega)
      have HL : Hid ((writeP Sj x (r.extract p q)).wait.length ≤ 900000 + (j + 1)) := by
        have := (writeP_len Sj x (r.extract p q)).2
        show _ ≤ _
        omega
      have m1 : IntKind.i64.wrap (64 * (j : Int)) = (p : Nat) := by rw [IntKind.wrap_i64]; omega
      have m2 : IntKind.i64.wrap ((j : Int) + 1) = (j : Int) + 1 := by rw [IntKind.wrap_i64]; omega
      have m3 : IntKind.i64.wrap (64 * ((j : Int) + 1)) = (q : Nat) := by rw [IntKind.wrap_i64]; omega
      have m4 : IntKind.i64.wrap (8 * (a : Int)) = 8 * (a : Int) := by rw [IntKind.wrap_i64]; omega
      have m5 : IntKind.i64.wrap (8 * (a : Int) + (j : Int)) = x := by rw [IntKind.wrap_i64]; omega
      have n0 : (0 : Int) ≤ (p : Nat) := by omega
      have n1 : ((p : Nat) : Int) ≤ (q : Nat) := by omega
      have n2 : ((q : Nat) : Int) ≤ r.size := by omega
      rw [HGO.out, HS.out] at hgo
      have HW : Hid (∀ w', Touch (grow F w2 wr) wr w' → Touch F w2 w' ∧ ErrT w') := fun w' h => ⟨htj.trans h, (cell_kept_0 (h.2 0 (Nat.lt_of_lt_of_le hlt htj.size) (fun hh => hh.elim hF fun y => absurd y.1 (by omega)))).trans hgj⟩
      have hz := htj.size
      clear HGO HS hpj htj hgj hp hq hx
      generalize writeE Sj x (r.extract p q) = y at *
      generalize writeP Sj x (r.extract p q) = Sk at *
      by_cases hy : y = 0
      · have he : secErr x y = .nilIface := if_pos hy
        rw [he] at hws
        rw [if_pos hy] at hgo
        have HGO : Hid (putGo r a (8 - (j + 1)) (j + 1) Sk = G) := hgo
        clear hgo he
        go_wp2_with fail
        refine hws.mono ?_
        rintro e w3 ⟨rfl, hp3, ht3⟩
        obtain ⟨ht4, hg4⟩ := HW.out w3 ht3
        have HF : Hid (Plate w3 (grow F w2 w3) B Sk ∧ Touch F w2 w3 ∧ ErrT w3) := ⟨hp3.mono fun k _ hk => grow_grow hz ht3.size k hk, ht4, hg4⟩
        clear hws hp3 ht3 ht4 hg4 HW
        go_wp2
        go_roundw
        case rel => exact ⟨j + 1, Sk, by omega, by go_num, HGO.out, HF.out.1, HF.out.2.1, HL.out, HF.out.2.2⟩
        case measure => simp [intOf]; omega
      · have HE : Hid (secErr x y = .iface 220 (.agg #[.int .i64 x, .int .i64 y])) := if_neg hy
        rw [if_neg hy] at hgo
        have HGO : Hid (y = G.1 ∧ Sk = G.2) := by rw [← hgo]; exact ⟨rfl, rfl⟩
        have hno := fun w h => numberOf_any x y w h
        rw [HE.out] at hws
        simp only [HE.out] at hno
        clear hgo
        go_wp2_with fail
        refine hws.mono ?_
        rintro e w3 ⟨rfl, hp3, ht3⟩
        obtain ⟨ht4, hg4⟩ := HW.out w3 ht3
        have HF : Hid (Plate w3 (grow F w2 w3) B Sk ∧ Touch F w2 w3) := ⟨hp3.mono fun k _ hk => grow_grow hz ht3.size k hk, ht4⟩
        clear hws hp3 ht3 ht4 HW
        go_wp2_with fail
        refine (hno _ hg4).mono ?_
        rintro e w4 ⟨rfl, hb4⟩
        have HF4 : Hid (Plate w4 (grow F w2 w4) B Sk ∧ Touch F w2 w4) := ⟨(HF.out.1.below hb4).mono fun k _ hk => hk.imp id fun z => ⟨z.1, Nat.lt_of_lt_of_le z.2 hb4.size⟩, HF.out.2.trans (Touch.of_below hb4)⟩
        clear hno hb4 HF
        go_wp2
        go_ret
        exact ⟨by rw [← HGO.out.1]; rfl, by rw [← HGO.out.2]; exact HF4.out.1, HF4.out.2⟩
    · obtain rfl : j = 8 := by omega
      have HF : Hid ((0 : Int) = G.1 ∧ Plate wr (grow F w2 wr) B G.2 ∧ Touch F w2 wr) := by
        rw [← hgo]
        exact ⟨rfl, hpj, htj⟩
      clear hgo hpj htj hgj
      go_wp2
      go_ret
      exact ⟨by rw [← HF.out.1]; rfl, HF.out.2⟩
end Go.Proofs.YtdngoicpcocnnaaGreatDoor
