/- block's blocks, has, readSector, writeSector and Put, at a device that lies in memory. · Lists that came in: of numbers. · block's zeros at 512, and At: what an image has at an address. · block's Get, at a device that lies in memory. · What plate's settle does, in plain words: the waiting writes whose places last are kept, in order; the notes of the last writes are struck. · plate's settle over the closures of Flush and of Start: the waiting writes whose places last are kept. · plate's Flush and Start, and the two closures that they hand to settle. -/
import Derived.Test.YtldkdoddklfdlaaGreatDoorMg06
import Derived.Test.YtldkdoddklfdlaaGreatDoorMg07
import Derived.Test.YtldkdoddklfdlaaGreatDoorMg08
import Derived.Test.YtldkdoddklfdlaaGreatDoorMg03
import Derived.Deep.Slices
import Derived.WideShapes
import Derived.ProofKit
import Derived.ChangeOld
import Derived.Lib.AppendStr
namespace Go.Proofs.YtldkdoddklfdlaaGreatDoor
set_option maxRecDepth 20000
open Go.RowKit

def bhasB (S : PS) (at_ : Int) : Bool := decide (0 ≤ at_ ∧ at_ < ((S.kept.length / 8 : Nat) : Int))
theorem blocks_any (B : Nat) (F : Nat → Prop) (S : PS) (w : World) (hp : Plate w F B S) : Calls Tryz.prog 95 #[.pointer (some ⟨B, 0, none⟩)] w fun e w' => e = .returned (.int .i64 ((S.kept.length / 8 : Nat) : Int)) ∧ w' = w := by
  have hs := sectors_any B F S w hp
  have hm : S.kept.length ≤ 32768 := by obtain ⟨K, N, wv, h⟩ := hp; exact h.most
  have HQ : Hid (((S.kept.length : Nat) : Int).tdiv 8 = ((S.kept.length / 8 : Nat) : Int)) := by
    show _ = _
    rw [Int.tdiv_eq_ediv_of_nonneg (by omega)]
    omega
  generalize S.kept.length = n at *
  obtain ⟨q, hq⟩ : ∃ q : Int, q = ((n / 8 : Nat) : Int) := ⟨_, rfl⟩
  have hq2 : IntKind.i64.wrap (((n : Nat) : Int).tdiv 8) = q := by rw [HQ.out, IntKind.wrap_i64, hq]; omega
  have hq3 : ((n : Nat) : Int).tdiv 8 = q := by rw [HQ.out, hq]
  have hq4 : ((n : Nat) : Int) / 8 = q := by omega
  rw [← hq]
  clear hq HQ hp
  go_enter Tryz.func95, Tryz.ntmps95
  go_wp2_with fail
  refine hs.mono ?_
  rintro e w1 ⟨rfl, rfl⟩
  go_wp2
  go_ret
  exact ⟨rfl, rfl⟩
theorem bhas_any (B : Nat) (F : Nat → Prop) (S : PS) (at_ : Int) (w : World) (hp : Plate w F B S) : Calls Tryz.prog 120 #[.pointer (some ⟨B, 0, none⟩), .int .i64 at_] w fun e w' => e = .returned (.bool (bhasB S at_)) ∧ w' = w := by
  have hb := blocks_any B F S w hp
  have HB : Hid (bhasB S at_ = decide (0 ≤ at_ ∧ at_ < ((S.kept.length / 8 : Nat) : Int))) := rfl
  generalize bhasB S at_ = r at *
  generalize ((S.kept.length / 8 : Nat) : Int) = q at *
  clear hp
  by_cases h0 : 0 ≤ at_
  · by_cases h1 : at_ < q
    · obtain rfl : r = true := by rw [HB.out]; exact decide_eq_true ⟨h0, h1⟩
      clear HB
      go_enter Tryz.func120, Tryz.ntmps120
      go_wp2_with fail
      refine hb.mono ?_
      rintro e w1 ⟨rfl, rfl⟩
      go_wp2
      go_ret
      exact ⟨rfl, rfl⟩
    · obtain rfl : r = false := by rw [HB.out]; exact decide_eq_false fun h => h1 h.2
      clear HB
      have h2 : decide (at_ < q) = false := decide_eq_false h1
      clear h1
      go_enter Tryz.func120, Tryz.ntmps120
      go_wp2_with fail
      refine hb.mono ?_
      rintro e w1 ⟨rfl, rfl⟩
      go_wp2
      go_ret
      exact ⟨rfl, rfl⟩
  · obtain rfl : r = false := by rw [HB.out]; exact decide_eq_false fun h => h0 h.1
    clear HB hb
    go_enter Tryz.func120, Tryz.ntmps120
    go_wp2
    go_ret
    exact ⟨rfl, rfl⟩
theorem writeSector_any (B : Nat) (F : Nat → Prop) (S : PS) (x : Int) (s : ByteArray) (w : World) (hp : Plate w F B S) (hw : S.wait.length ≤ 1000000) :
    Calls Tryz.prog 141 #[.pointer (some ⟨B, 0, none⟩), .int .i64 x, .string s] w fun e w' => e = .returned (secErr x (writeE S x s)) ∧ Plate w' (grow F w w') B (writeP S x s) ∧ Touch F w w' := by
  have h1 := write_any B F S x s w hp hw
  generalize writeE S x s = y at *
  generalize writeP S x s = S' at *
  clear hp
  go_enter Tryz.func141, Tryz.ntmps141
  go_wp2_with fail
  refine h1.mono ?_
  rintro e w1 ⟨rfl, h2, h3⟩
  have HF : Hid _ := And.intro h2 h3
  clear h2 h3 h1
  go_wp2_with fail
  refine (wrapped_any x y _).mono ?_
  rintro e w2 ⟨rfl, rfl⟩
  obtain ⟨z, hz⟩ : ∃ z, z = secErr x y := ⟨_, rfl⟩
  rw [← hz]
  have HZ : Hid (z = secErr x y) := hz
  clear hz
  go_wp2
  go_ret
  exact ⟨by rw [← HZ.out]; rfl, HF.out⟩
theorem readSector_any (B : Nat) (F : Nat → Prop) (S : PS) (x : Int) (w : World) (hp : Plate w F B S) (hw : S.wait.length ≤ 1000000) :
    Calls Tryz.prog 121 #[.pointer (some ⟨B, 0, none⟩), .int .i64 x] w fun e w' => e = .returned (.tuple #[.string (readS S x), secErr x (readE S x)]) ∧ Plate w' F B (readP S x) ∧ Touch F w w' := by
  have h1 := read_any B F S x w hp hw
  generalize readE S x = y at *
  generalize readS S x = s at *
  generalize readP S x = S' at *
  clear hp
  go_enter Tryz.func121, Tryz.ntmps121
  go_wp2_with fail
  refine h1.mono ?_
  rintro e w1 ⟨rfl, h2, h3⟩
  have HF : Hid _ := And.intro h2 h3
  clear h2 h3 h1
  go_wp2_with fail
  refine (wrapped_any x y _).mono ?_
  rintro e w2 ⟨rfl, rfl⟩
  obtain ⟨z, hz⟩ : ∃ z, z = secErr x y := ⟨_, rfl⟩
  rw [← hz]
  have HZ : Hid (z = secErr x y) := hz
  clear hz
  go_wp2
  go_ret2
  exact ⟨by rw [← HZ.out]; rfl, HF.out⟩

/-- A block's sector, and what writing sectors comes to, one by one. -/
def secS (r : ByteArray) (j : Nat) : ByteArray := r.extract (64 * j) (64 * j + 64)
def putGo (r : ByteArray) (a : Nat) : Nat → Nat → PS → Int × PS
  | 0, _, S => (0, S)
  | n + 1, j, S => if writeE S ((8 * a + j : Nat) : Int) (secS r j) = 0 then putGo r a n (j + 1) (writeP S ((8 * a + j : Nat) : Int) (secS r j)) else (writeE S ((8 * a + j : Nat) : Int) (secS r j), writeP S ((8 * a + j : Nat) : Int) (secS r j))
def bputE (S : PS) (at_ : Int) (r : ByteArray) : Int := if r.size = 512 then (if bhasB S at_ then (putGo r at_.toNat 8 0 S).1 else 2) else 1
def bputP (S : PS) (at_ : Int) (r : ByteArray) : PS := if r.size = 512 then (if bhasB S at_ then (putGo r at_.toNat 8 0 S).2 else S) else S
theorem writeP_len (S : PS) (x : Int) (s : ByteArray) : (writeP S x s).kept.length = S.kept.length ∧ (writeP S x s).wait.length ≤ S.wait.length + 1 := by
  unfold writeP
  split
  · split
    · split
      · split
        · exact ⟨rfl, Nat.le_succ _⟩
        · exact ⟨rfl, by simp⟩
      · exact ⟨rfl, Nat.le_succ _⟩
    · exact ⟨rfl, Nat.le_succ _⟩
  · exact ⟨rfl, Nat.le_succ _⟩
theorem cell_kept_0 {w w' : World} {b : Nat} (h : w'.heap[b]? = w.heap[b]?) {i : Nat} : w'.cell? ⟨b, i, none⟩ = w.cell? ⟨b, i, none⟩ := World.cell?_of_block (a := ⟨b, i, none⟩) h
theorem grow_grow {F : Nat → Prop} {w w1 w2 : World} (h1 : w.heap.size ≤ w1.heap.size) (h2 : w1.heap.size ≤ w2.heap.size) (k : Nat) (h : grow (grow F w w1) w1 w2 k) : grow F w w2 k :=
  h.elim (fun a => a.elim .inl fun b => .inr ⟨b.1, Nat.lt_of_lt_of_le b.2 h2⟩) fun a => .inr ⟨Nat.le_trans h1 a.1, a.2⟩
set_option maxHeartbeats 4000000 in
theorem bput_any (B : Nat) (F : Nat → Prop) (S : PS) (at_ : Int) (r : ByteArray) (w : World) (hp : Plate w F B S) (hw : S.wait.length ≤ 900000) (hg : ErrT w) (hF : ¬ F 3) :
    Calls Tryz.prog 115 #[.pointer (some ⟨B, 0, none⟩), .int .i64 at_, .string r] w fun e w' => e = .returned (.int .i64 (bputE S at_ r)) ∧ Plate w' (grow F w w') B (bputP S at_ r) ∧ Touch F w w' := by
  have hwh := fun w => whole_any r w
  by_cases hr : r.size = 512
  case neg =>
    have HF : Hid (bputE S at_ r = 1 ∧ Plate w (grow F w w) B (bputP S at_ r)) := ⟨by simp [bputE, hr], by simp only [bputP, hr, if_false]; exact hp.mono fun k _ h => .inl h⟩
    rw [decide_eq_false hr] at hwh
    rw [HF.out.1]
    clear hp
    go_enter Tryz.func115, Tryz.ntmps115
    go_wp2_with fail
    refine (hwh _).mono ?_
    rintro e w1 ⟨rfl, rfl⟩
    go_wp2
    go_ret
    exact ⟨rfl, HF.out.2, Touch.refl _ _⟩
  rw [decide_eq_true hr] at hwh
  have hha := bhas_any B F S at_ w hp
  cases hb : bhasB S at_
  · have HF : Hid (bputE S at_ r = 2 ∧ Plate w (grow F w w) B (bputP S at_ r)) := ⟨by simp [bputE, hr, hb], by simp [bputP, hb]; exact hp.mono fun k _ h => .inl h⟩
    rw [hb] at hha
    rw [HF.out.1]
    clear hp
    go_enter Tryz.func115, Tryz.ntmps115
    go_wp2_with fail
    refine (hwh _).mono ?_
    rintro e w1 ⟨rfl, rfl⟩
    go_wp2_with fail
    refine hha.mono ?_
    rintro e w2 ⟨rfl, rfl⟩
    go_wp2
    go_ret
    exact ⟨rfl, HF.out.2, Touch.refl _ _⟩
  rw [hb] at hha
  have hb2 : 0 ≤ at_ ∧ at_ < ((S.kept.length / 8 : Nat) : Int) := by simpa [bhasB] using hb
  have hm : S.kept.length ≤ 32768 := by obtain ⟨K, N, wv, h⟩ := hp; exact h.most
  obtain ⟨a, rfl⟩ : ∃ a : Nat, at_ = a := ⟨at_.toNat, by omega⟩
  have HR : Hid (bputE S (a : Nat) r = (putGo r a 8 0 S).1 ∧ bputP S (a : Nat) r = (putGo r a 8 0 S).2) := ⟨by simp [bputE, hr, hb], by simp [bputP, hr, hb]⟩
  rw [HR.out.1, HR.out.2]
  have ha : a < 4096 := by omega
  have HI : Hid (Plate w (grow F w w) B S ∧ ErrT w) := ⟨hp.mono fun k _ h => .inl h, hg⟩
  have hlt := lt_of_cell_ hg
  obtain ⟨G, hG⟩ : ∃ G, putGo r a 8 0 S = G := ⟨_, rfl⟩
  rw [hG]
  have HG : Hid (putGo r a 8 0 S = G) := hG
  clear hp hg hb HR hb2 hG
  go_enter Tryz.func115, Tryz.ntmps115
  go_wp2_with fail
  refine (hwh _).mono ?_
  rintro e w1 ⟨rfl, rfl⟩
  clear hwh
  go_wp2_with fail
  refine hha.mono ?_
  rintro e w2 ⟨rfl, rfl⟩
  clear hha
  go_wp2_with fail
  go_loopw [21] (fun v wr => ∃ (j : Nat) (Sj : PS), j ≤ 8 ∧ v = .int .i64 j ∧ putGo r a (8 - j) j Sj = G ∧ Plate wr (grow F w2 wr) B Sj ∧ Touch F w2 wr ∧ Sj.wait.length ≤ 900000 + j ∧ ErrT wr) (fun v _ => 8 - (intOf v).toNat)
  case atStart => exact ⟨0, S, by omega, rfl, HG.out, HI.out.1, Touch.refl _ _, by omega, HI.out.2⟩
  case round =>
    clear HI HG
    obtain ⟨j, Sj, hj, rfl, hgo, hpj, htj, hwj, hgj⟩ := hrel
    by_cases hlt8 : j < 8
    · have j1 : (j : Int) < 8 := by omega
      obtain ⟨p, hp⟩ : ∃ p : Nat, p = 64 * j := ⟨_, rfl⟩
      obtain ⟨q, hq⟩ : ∃ q : Nat, q = 64 * j + 64 := ⟨_, rfl⟩
      obtain ⟨x, hx⟩ : ∃ x : Int, x = ((8 * a + j : Nat) : Int) := ⟨_, rfl⟩
      have HS : Hid (secS r j = r.extract p q) := by rw [hp, hq]; rfl
      have HGO : Hid (putGo r a (8 - j) j Sj = if writeE Sj x (secS r j) = 0 then putGo r a (8 - (j + 1)) (j + 1) (writeP Sj x (secS r j)) else (writeE Sj x (secS r j), writeP Sj x (secS r j))) := by
        show _ = _
        rw [show 8 - j = (8 - (j + 1)) + 1 by omega, hx]
        rfl
      have hws := writeSector_any B (grow F w2 wr) Sj x (r.extract p q) wr hpj (by omega)
      have HL : Hid ((writeP Sj x (r.extract p q)).wait.length ≤ 900000 + (j + 1)) := by
        have := (writeP_len Sj x (r.extract p q)).2
        show _ ≤ _
        omega
      have m1 : IntKind.i64.wrap (64 * (j : Int)) = (p : Nat) := by rw [IntKind.wrap_i64]; omega
      have m2 : IntKind.i64.wrap ((j : Int) + 1) = (j : Int) + 1 := by rw [IntKind.wrap_i64]; omega
      have m3 : IntKind.i64.wrap (64 * ((j : Int) + 1)) = (q : Nat) := by rw [IntKind.wrap_i64]; omega
      have m4 : IntKind.i64.wrap (8 * (a : Int)) = 8 * (a : Int) := by rw [IntKind.wrap_i64]; omega
      have m5 : IntKind.i64.wrap (8 * (a : Int) + (j : Int)) = x := by rw [IntKind.wrap_i64]; omega
      have n0 : (0 : Int) ≤ (p : Nat) := by omega
      have n1 : ((p : Nat) : Int) ≤ (q : Nat) := by omega
      have n2 : ((q : Nat) : Int) ≤ r.size := by omega
      rw [HGO.out, HS.out] at hgo
      have HW : Hid (∀ w', Touch (grow F w2 wr) wr w' → Touch F w2 w' ∧ ErrT w') := fun w' h => ⟨htj.trans h, (cell_kept_0 (h.2 3 (Nat.lt_of_lt_of_le hlt htj.size) (fun hh => hh.elim hF fun y => absurd y.1 (by omega)))).trans hgj⟩
      have hz := htj.size
      clear HGO HS hpj htj hgj hp hq hx
      generalize writeE Sj x (r.extract p q) = y at *
      generalize writeP Sj x (r.extract p q) = Sk at *
      by_cases hy : y = 0
      · have he : secErr x y = .nilIface := if_pos hy
        rw [he] at hws
        rw [if_pos hy] at hgo
        have HGO : Hid (putGo r a (8 - (j + 1)) (j + 1) Sk = G) := hgo
        clear hgo he
        go_wp2_with fail
        refine hws.mono ?_
        rintro e w3 ⟨rfl, hp3, ht3⟩
        obtain ⟨ht4, hg4⟩ := HW.out w3 ht3
        have HF : Hid (Plate w3 (grow F w2 w3) B Sk ∧ Touch F w2 w3 ∧ ErrT w3) := ⟨hp3.mono fun k _ hk => grow_grow hz ht3.size k hk, ht4, hg4⟩
        clear hws hp3 ht3 ht4 hg4 HW
        go_wp2
        go_roundw
        case rel => exact ⟨j + 1, Sk, by omega, by go_num, HGO.out, HF.out.1, HF.out.2.1, HL.out, HF.out.2.2⟩
        case measure => simp [intOf]; omega
      · have HE : Hid (secErr x y = .iface 281 (.agg #[.int .i64 x, .int .i64 y])) := if_neg hy
        rw [if_neg hy] at hgo
        have HGO : Hid (y = G.1 ∧ Sk = G.2) := by rw [← hgo]; exact ⟨rfl, rfl⟩
        have hno := fun w h => numberOf_any x y w h
        rw [HE.out] at hws
        simp only [HE.out] at hno
        clear hgo
        go_wp2_with fail
        refine hws.mono ?_
        rintro e w3 ⟨rfl, hp3, ht3⟩
        obtain ⟨ht4, hg4⟩ := HW.out w3 ht3
        have HF : Hid (Plate w3 (grow F w2 w3) B Sk ∧ Touch F w2 w3) := ⟨hp3.mono fun k _ hk => grow_grow hz ht3.size k hk, ht4⟩
        clear hws hp3 ht3 ht4 HW
        go_wp2_with fail
        refine (hno _ hg4).mono ?_
        rintro e w4 ⟨rfl, hb4⟩
        have HF4 : Hid (Plate w4 (grow F w2 w4) B Sk ∧ Touch F w2 w4) := ⟨(HF.out.1.below hb4).mono fun k _ hk => hk.imp id fun z => ⟨z.1, Nat.lt_of_lt_of_le z.2 hb4.size⟩, HF.out.2.trans (Touch.of_below hb4)⟩
        clear hno hb4 HF
        go_wp2
        go_ret
        exact ⟨by rw [← HGO.out.1]; rfl, by rw [← HGO.out.2]; exact HF4.out.1, HF4.out.2⟩
    · obtain rfl : j = 8 := by omega
      have HF : Hid ((0 : Int) = G.1 ∧ Plate wr (grow F w2 wr) B G.2 ∧ Touch F w2 wr) := by
        rw [← hgo]
        exact ⟨rfl, hpj, htj⟩
      clear hgo hpj htj hgj
      go_wp2
      go_ret
      exact ⟨by rw [← HF.out.1]; rfl, HF.out.2⟩
end Go.Proofs.YtldkdoddklfdlaaGreatDoor

namespace Go.Proofs.YtldkdoddklfdlaaGreatDoor
set_option maxRecDepth 20000
open Go.ChangeShapes Go.WideShapes Go.RowKit Go.Deep

theorem cell_kept_1 {w w' : World} {b : Nat} (h : w'.heap[b]? = w.heap[b]?) (i : Nat) : w'.cell? ⟨b, i, none⟩ = w.cell? ⟨b, i, none⟩ := World.cell?_of_block (a := ⟨b, i, none⟩) h
/-- A list whose elements lie in one cell each. -/
def List1 {α : Type} (f : α → Value) (W : World) (v : Value) (l : List α) : Prop := (∃ oa cap, v = .slice oa 0 cap ∧ l = []) ∨ ∃ g o cap, v = .slice (some ⟨g, o, none⟩) l.length cap ∧ g < W.heap.size ∧ ∀ i x, l[i]? = some x → W.cell? ⟨g, o + i, none⟩ = some (f x)
theorem List1.form {α : Type} {f : α → Value} {W : World} {v : Value} {l : List α} (h : List1 f W v l) : ∃ oa cap, v = .slice oa l.length cap := by
  rcases h with ⟨oa, cap, rfl, rfl⟩ | ⟨g, o, cap, rfl, _⟩
  · exact ⟨oa, cap, rfl⟩
  · exact ⟨_, cap, rfl⟩
theorem List1.get {α : Type} {f : α → Value} {W : World} {oa : Option Addr} {cap : Nat} {l : List α} (h : List1 f W (.slice oa l.length cap) l) {i : Nat} (hi : i < l.length) : ∃ g o, oa = some ⟨g, o, none⟩ ∧ g < W.heap.size ∧ ∀ j x, l[j]? = some x → W.cell? ⟨g, o + j, none⟩ = some (f x) := by
  rcases h with ⟨oa', cap', e, rfl⟩ | ⟨g, o, cap', e, hg, hx⟩
  · simp at hi
  · simp only [Value.slice.injEq] at e
    exact ⟨g, o, e.1, hg, hx⟩
section
variable {H : Type} {enc : TypeId × Value → H} {W : World}
theorem list1_of_trod {α : Type} {f : α → Value} {P : α → Prop} {t e : TypeId} (hu : Tryz.prog.underlying t = some (.slice e)) (hc : Tryz.prog.cellsOf e = 1) (hr : ∀ n c x, DataW.trod enc Tryz.prog W 0 (fun _ => true) true n e [c] = some x → ∃ a, c = f a ∧ P a)
    {v : Value} {d : DataW H} {p : List MemPlace} {base : Nat} (hok : Value.okWide Tryz.prog W .any base t v) (h : DataW.Trod enc Tryz.prog W 0 (fun _ => true) true t v d p) : ∃ l, List1 f W v l ∧ ∀ x ∈ l, P x := by
  obtain ⟨a0, len, cap, rfl⟩ := okWide_slice hu hok
  obtain ⟨fuel, hf⟩ := h
  have hlt := DataW.trod_lt fuel _ _ _ hf
  rcases open_slice1 hu hc hf with ⟨hcs, hx⟩ | ⟨a, len', cap', m, n, V, D, Pl, hcs, _, hl, hm, hmm, hx0, hx⟩
  · simp [Value.cells] at hcs
    obtain ⟨rfl, rfl, rfl⟩ := hcs
    exact ⟨[], .inl ⟨none, 0, rfl, rfl⟩, by simp⟩
  · simp [Value.cells] at hcs
    obtain ⟨rfl, rfl, rfl⟩ := hcs
    simp only [if_true] at hmm
    by_cases h0 : len = 0
    · subst h0; exact ⟨[], .inl ⟨_, _, rfl, rfl⟩, by simp⟩
    simp only [Prod.mk.injEq] at hx0
    obtain ⟨hd0, hp0⟩ := hx0
    have hV : ∀ i, i < len → ∃ b : α, W.cell? (a.add i) = some (f b) ∧ P b := fun i hi => by
      obtain ⟨h1, h2⟩ := hx i (by omega)
      obtain ⟨b, hb, hp⟩ := hr _ _ _ h2
      exact ⟨b, by rw [h1, hb], hp⟩
    haveI : Inhabited α := ⟨(hV 0 (by omega)).choose⟩
    obtain ⟨F, hF⟩ := choose_lt hV
    obtain ⟨b, off, spot⟩ := a
    have hspot : spot = none := by simpa [Addr.add] using World.cell?_spot (hF 0 (by omega)).1
    subst hspot
    have hbW : b < W.heap.size := hlt (.cell b off) (by rw [hp0]; exact List.mem_append_left _ (MemPlace.mem_row.2 ⟨0, by omega, by simp⟩))
    refine ⟨(List.range len).map F, .inr ⟨b, off, cap, by simp, hbW, fun i u hu => ?_⟩, fun x hx => ?_⟩
    · rw [List.getElem?_map] at hu
      have hi : i < len := by
        by_cases hi : i < len
        · exact hi
        · rw [List.getElem?_eq_none (by simp; omega)] at hu; cases hu
      rw [List.getElem?_range hi] at hu
      simp only [Option.map_some, Option.some.injEq] at hu
      rw [← hu]
      have hadd : (⟨b, off, none⟩ : Addr).add i = ⟨b, off + i, none⟩ := by unfold Addr.add; split <;> simp_all
      rw [← hadd]
      exact (hF i hi).1
    · obtain ⟨i, hi, rfl⟩ := List.mem_map.1 hx
      exact (hF i (List.mem_range.1 hi)).2
theorem ints_of_trod {v : Value} {d : DataW H} {p : List MemPlace} {base : Nat} (hok : Value.okWide Tryz.prog W .any base 67 v) (h : DataW.Trod enc Tryz.prog W 0 (fun _ => true) true 67 v d p) : ∃ l, List1 (Value.int .i64) W v l ∧ ∀ x ∈ l, (Lit.int .i64 x).wf = true := by
  exact list1_of_trod (f := Value.int .i64) (P := fun x => (Lit.int .i64 x).wf = true) Tryz.underlying67 (by kernel_rfl) (fun n c x hx => by
    obtain ⟨b, hb, _, hw⟩ := DataW.trod_int Tryz.underlying3 hx
    simp only [List.cons.injEq, and_true] at hb
    exact ⟨b, hb, hw⟩) hok h
theorem wf_int {x : Int} (h : (Lit.int .i64 x).wf = true) : -9223372036854775808 ≤ x ∧ x < 9223372036854775808 := by
  simp [Lit.wf, IntKind.min, IntKind.max, IntKind.signed, IntKind.bits] at h
  omega
end
end Go.Proofs.YtldkdoddklfdlaaGreatDoor

namespace Go.Proofs.YtldkdoddklfdlaaGreatDoor
set_option maxRecDepth 20000
open Go.RowKit

theorem repeatL_one : ∀ n : Nat, Lib.repeatL ([0] : List UInt8) n = List.replicate n 0
  | 0 => rfl
  | n + 1 => by
    rw [List.replicate_succ, ← repeatL_one n]
    rfl
theorem blank512_eq : (⟨(Lib.repeatL (⟨#[0]⟩ : ByteArray).data.toList 512).toArray⟩ : ByteArray) = fillS 0 512 := by
  rw [show (⟨#[0]⟩ : ByteArray).data.toList = ([0] : List UInt8) from rfl, repeatL_one]
  unfold fillS strOfNums
  rw [List.map_replicate, List.map_replicate]
  rfl
theorem zeros512_any (w : World) : Calls Tryz.prog 96 #[.int .i64 512] w fun e w' => e = .returned (.string (fillS 0 512)) ∧ Below w.heap.size w w' := by
  have hr : ∀ w, Calls Tryz.prog 23 #[.string ⟨#[0]⟩, .int .i64 512] w fun e w' => e = .returned (.string (fillS 0 512)) ∧ Below w.heap.size w w' := fun w => by
    have h := Any.strings_Repeat pl_lays105 pl_Builder_Extra_105 ⟨#[0]⟩ 512 w (by decide) (by decide)
    rw [blank512_eq] at h
    exact h
  generalize fillS 0 512 = z at *
  go_enter Tryz.func96, Tryz.ntmps96
  go_wp2_with fail
  refine (hr _).mono ?_
  rintro e w1 ⟨rfl, hb⟩
  have HB : Hid _ := hb
  clear hb hr
  go_wp2
  go_ret
  exact ⟨rfl, HB.out⟩
/-- What an image has at an address. -/
def atB (raws : List ByteArray) (masks : List Int) (a : Int) : Bool := decide (0 ≤ a ∧ a < (raws.length : Nat) ∧ a < (masks.length : Nat) ∧ (raws.getD a.toNat ⟨#[]⟩).size = 512)
def atS (raws : List ByteArray) (masks : List Int) (a : Int) : ByteArray := if atB raws masks a then raws.getD a.toNat ⟨#[]⟩ else fillS 0 512
def atM (raws : List ByteArray) (masks : List Int) (a : Int) : Int := if atB raws masks a then masks.getD a.toNat 0 else 255
set_option maxHeartbeats 4000000 in
theorem at_any (w : World) (oa ob : Option Addr) (ca cb : Nat) (raws : List ByteArray) (masks : List Int) (a : Int) (h1 : List1 Value.string w (.slice oa raws.length ca) raws) (h2 : List1 (Value.int .i64) w (.slice ob masks.length cb) masks) :
    Calls Tryz.prog 124 #[.agg #[.slice oa raws.length ca, .slice ob masks.length cb], .int .i64 a] w fun e w' => e = .returned (.tuple #[.string (atS raws masks a), .int .i64 (atM raws masks a)]) ∧ Below w.heap.size w w' := by
  have hb0 : Below w.heap.size w (w.alloc (.cells #[.slice oa raws.length ca, .slice ob masks.length cb] 131)) := (Below.refl _ _).alloc (Nat.le_refl _) _
  have hr0 : Row (w.alloc (.cells #[.slice oa raws.length ca, .slice ob masks.length cb] 131)) w.heap.size 131 [.slice oa raws.length ca, .slice ob masks.length cb] := heap_alloc_new w _
  obtain ⟨rl, hrl⟩ : ∃ rl, rl = raws.length := ⟨_, rfl⟩
  obtain ⟨ml, hml⟩ : ∃ ml, ml = masks.length := ⟨_, rfl⟩
  have HL : Hid (rl = raws.length ∧ ml = masks.length) := ⟨hrl, hml⟩
  have H12 : Hid (List1 Value.string w (.slice oa raws.length ca) raws ∧ List1 (Value.int .i64) w (.slice ob masks.length cb) masks) := ⟨h1, h2⟩
  rw [← hrl, ← hml] at hb0 hr0 ⊢
  have hz := fun w => zeros512_any w
  obtain ⟨z, hzz⟩ : ∃ z, z = fillS 0 512 := ⟨_, rfl⟩
  have HZ : Hid (z = fillS 0 512) := hzz
  rw [← hzz] at hz
  clear hzz h1 h2
  obtain ⟨w1, hw1⟩ : ∃ w1, w.alloc (.cells #[.slice oa rl ca, .slice ob ml cb] 131) = w1 := ⟨_, rfl⟩
  rw [hw1] at hb0 hr0
  have c0 : w1.cell? ⟨w.heap.size, 0, none⟩ = some (.slice oa rl ca) := hr0.cell 0
  have c1 : w1.cell? ⟨w.heap.size, 1, none⟩ = some (.slice ob ml cb) := hr0.cell 1
  have HB0 : Hid (Below w.heap.size w w1) := hb0
  by_cases hin : 0 ≤ a ∧ a < (rl : Nat) ∧ a < (ml : Nat)
  · obtain ⟨i, rfl⟩ : ∃ i : Nat, a = i := ⟨a.toNat, by omega⟩
    obtain ⟨x, hx⟩ : ∃ x, raws[i]? = some x := ⟨_, List.getElem?_eq_getElem (by omega)⟩
    obtain ⟨y, hy⟩ : ∃ y, masks[i]? = some y := ⟨_, List.getElem?_eq_getElem (by omega)⟩
    obtain ⟨g, o, rfl, hg, hxs⟩ := H12.out.1.get (i := i) (by omega)
    obtain ⟨g2, o2, rfl, hg2, hys⟩ := H12.out.2.get (i := i) (by omega)
    have d0 : w1.cell? ⟨g, o + i, none⟩ = some (.string x) := (cell_kept_1 (HB0.out.block g hg) _).trans (hxs i x hx)
    have d1 : w1.cell? ⟨g2, o2 + i, none⟩ = some (.int .i64 y) := (cell_kept_1 (HB0.out.block g2 hg2) _).trans (hys i y hy)
    have i1 : (i : Int) < (rl : Nat) := hin.2.1
    have i2 : (i : Int) < (ml : Nat) := hin.2.2
    have n1 : decide (rl ≤ i) = false := decide_eq_false (by omega)
    have n2 : decide (ml ≤ i) = false := decide_eq_false (by omega)
    have hwh := fun w => whole_any x w
    have hgd : raws.getD i ⟨#[]⟩ = x := by rw [List.getD_eq_getElem?_getD, hx]; rfl
    have hgm : masks.getD i 0 = y := by rw [List.getD_eq_getElem?_getD, hy]; rfl
    by_cases h512 : x.size = 512
    · have hyes : atB raws masks (i : Int) = true := decide_eq_true ⟨by omega, by rw [← hrl]; exact hin.2.1, by rw [← hml]; exact hin.2.2, by rw [Int.toNat_natCast, hgd]; exact h512⟩
      have HF : Hid (atS raws masks (i : Int) = x ∧ atM raws masks (i : Int) = y) := ⟨by unfold atS; rw [hyes, Int.toNat_natCast, hgd]; rfl, by unfold atM; rw [hyes, Int.toNat_natCast, hgm]; rfl⟩
      rw [HF.out.1, HF.out.2]
      rw [decide_eq_true h512] at hwh
      have hcl := fun w => clone_any x w (by omega)
      have HX : Hid (∀ w', Below w1.heap.size w1 w' → w'.cell? ⟨w.heap.size, 0, none⟩ = some (.slice (some ⟨g, o, none⟩) rl ca) ∧ w'.cell? ⟨w.heap.size, 1, none⟩ = some (.slice (some ⟨g2, o2, none⟩) ml cb) ∧ w'.cell? ⟨g, o + i, none⟩ = some (.string x) ∧ w'.cell? ⟨g2, o2 + i, none⟩ = some (.int .i64 y)) := fun w' hb => by
        have hz1 := HB0.out.size
        exact ⟨(cell_kept_1 (hb.block _ hr0.lt) _).trans c0, (cell_kept_1 (hb.block _ hr0.lt) _).trans c1, (cell_kept_1 (hb.block g (by omega)) _).trans d0, (cell_kept_1 (hb.block g2 (by omega)) _).trans d1⟩
      clear hrl hml hb0 hr0 hin hx hy hxs hys hgd hgm hyes h512 hz H12
      go_enter Tryz.func124, Tryz.ntmps124
      go_wp2_with fail
      refine (hwh _).mono ?_
      rintro e w2 ⟨rfl, rfl⟩
      clear hwh
      go_wp2_with fail
      go_region_held3 (fun w' => w'.cell? ⟨w.heap.size, 0, none⟩ = some (.slice (some ⟨g, o, none⟩) rl ca) ∧ w'.cell? ⟨w.heap.size, 1, none⟩ = some (.slice (some ⟨g2, o2, none⟩) ml cb) ∧ w'.cell? ⟨g, o + i, none⟩ = some (.string x) ∧ w'.cell? ⟨g2, o2 + i, none⟩ = some (.int .i64 y)) (first | exact hSc | exact ⟨c0, c1, d0, d1⟩ | simp [go_sem, *]) (first | (go_at_call 151; refine (hcl _).mono ?_; rintro e wc ⟨rfl, hbc⟩; have hSc := HX.out wc ((Below.refl _ _).drew.trans hbc)))
      have HF2 : Hid (Below w.heap.size w wc) := HB0.out.drew.trans (hbc.mono HB0.out.size)
      clear hbc hSc HX hw1
      go_wp2
      go_ret2
      exact ⟨rfl, HF2.out⟩
    · have hno : atB raws masks (i : Int) = false := decide_eq_false fun h => h512 (by have := h.2.2.2; rwa [Int.toNat_natCast, hgd] at this)
      have HF : Hid (atS raws masks (i : Int) = z ∧ atM raws masks (i : Int) = 255) := ⟨by unfold atS; rw [hno, HZ.out]; rfl, by unfold atM; rw [hno]; rfl⟩
      rw [HF.out.1, HF.out.2]
      rw [decide_eq_false h512] at hwh
      clear hrl hml hb0 hr0 hin hx hy hxs hys hgd hgm hno h512 H12
      go_enter Tryz.func124, Tryz.ntmps124
      go_wp2_with fail
      refine (hwh _).mono ?_
      rintro e w2 ⟨rfl, rfl⟩
      clear hwh
      go_wp2_with fail
      refine (hz _).mono ?_
      rintro e w3 ⟨rfl, hb3⟩
      have HF2 : Hid (Below w.heap.size w w3) := HB0.out.trans (hb3.mono HB0.out.size)
      clear hb3 hz hw1
      go_wp2
      go_ret2
      exact ⟨rfl, HF2.out⟩
  · have hno : atB raws masks a = false := by
      refine decide_eq_false fun h => hin ⟨h.1, ?_, ?_⟩
      · rw [hrl]; exact h.2.1
      · rw [hml]; exact h.2.2.1
    have HF : Hid (atS raws masks a = z ∧ atM raws masks a = 255) := ⟨by unfold atS; rw [hno, HZ.out]; rfl, by unfold atM; rw [hno]; rfl⟩
    rw [HF.out.1, HF.out.2]
    clear hrl hml hno hb0 hr0
    by_cases ha0 : a < 0
    · clear hin
      go_enter Tryz.func124, Tryz.ntmps124
      go_wp2_with fail
      refine (hz _).mono ?_
      rintro e w2 ⟨rfl, hb2⟩
      have HF2 : Hid (Below w.heap.size w w2) := HB0.out.trans (hb2.mono HB0.out.size)
      clear hb2 hz
      go_wp2
      go_ret2
      exact ⟨rfl, HF2.out⟩
    · have n0 : decide (a < 0) = false := decide_eq_false ha0
      by_cases hr : (rl : Int) ≤ a
      · clear hin
        go_enter Tryz.func124, Tryz.ntmps124
        go_wp2_with fail
        refine (hz _).mono ?_
        rintro e w2 ⟨rfl, hb2⟩
        have HF2 : Hid (Below w.heap.size w w2) := HB0.out.trans (hb2.mono HB0.out.size)
        clear hb2 hz
        go_wp2
        go_ret2
        exact ⟨rfl, HF2.out⟩
      · have n1 : decide ((rl : Int) ≤ a) = false := decide_eq_false hr
        have n2 : (ml : Int) ≤ a := by omega
        clear hin
        go_enter Tryz.func124, Tryz.ntmps124
        go_wp2_with fail
        refine (hz _).mono ?_
        rintro e w2 ⟨rfl, hb2⟩
        have HF2 : Hid (Below w.heap.size w w2) := HB0.out.trans (hb2.mono HB0.out.size)
        clear hb2 hz
        go_wp2
        go_ret2
        exact ⟨rfl, HF2.out⟩
end Go.Proofs.YtldkdoddklfdlaaGreatDoor

namespace Go.Proofs.YtldkdoddklfdlaaGreatDoor
set_option maxRecDepth 20000
open Go.RowKit

theorem textR_mem {i : Nat} {s : ByteArray} : ∀ {r : List (Nat × ByteArray)}, textR r i = some s → (i, s) ∈ r
  | [], h => by simp [textR] at h
  | (a, u) :: t, h => by
    simp only [textR] at h
    split at h
    · rename_i e
      cases h
      rw [e]
      exact List.mem_cons_self
    · exact List.mem_cons_of_mem _ (textR_mem h)
theorem readS_size {w : World} {F : Nat → Prop} {B : Nat} {S : PS} (hp : Plate w F B S) (x : Int) : (readS S x).size ≤ 64 := by
  obtain ⟨K, N, wv, h⟩ := hp
  have hk : (keptS S x).size ≤ 64 := by
    unfold keptS
    rw [List.getD_eq_getElem?_getD]
    by_cases hi : x.toNat < S.kept.length
    · rw [List.getElem?_eq_getElem hi]
      have := h.texts _ (List.getElem_mem hi)
      simp
      omega
    · rw [List.getElem?_eq_none (by omega)]
      decide
  have hh : (heldS S x).size ≤ 64 := by
    unfold heldS
    split
    · exact hk
    · decide
  unfold readS
  split
  · split
    · cases ht : textOf S.wait x.toNat with
      | none => exact hh
      | some u =>
        have h2 : u.size = 64 := (h.ats _ (List.mem_reverse.1 (textR_mem ht))).2
        simp only [Option.getD_some]
        omega
    · decide
  · decide
theorem owns_keepB {w w' : World} {b : Nat} {e : TypeId} {z n : Nat} {v : Value} {xs : List Value} (h : w.ownsRow b e z v n xs) (hb : ∀ g, b ≤ g → g < w.heap.size → w'.heap[g]? = w.heap[g]?) : w'.ownsRow b e z v n xs := by
  refine ⟨h.1, ?_⟩
  rcases h.2 with hn | ⟨g, cap, cur, rfl, h0, hg, hr⟩
  · exact .inl hn
  · exact .inr ⟨g, cap, cur, rfl, h0, (hb g h0 (lt_of_block hg)).trans hg, hr⟩
theorem strCells_add (t s : ByteArray) : Lib.strCells t ++ Lib.strCells s = Lib.strCells (t ++ s) := by
  rw [byteCells_str, byteCells_str, byteCells_str, byteCells_append]
  simp
theorem zeros64_any (w : World) : Calls Tryz.prog 96 #[.int .i64 64] w fun e w' => e = .returned (.string (fillS 0 64)) ∧ Below w.heap.size w w' := by
  have hr := fun w => repeat_blank w
  generalize fillS 0 64 = z at *
  go_enter Tryz.func96, Tryz.ntmps96
  go_wp2_with fail
  refine (hr _).mono ?_
  rintro e w1 ⟨rfl, hb⟩
  have HB : Hid _ := hb
  clear hb hr
  go_wp2
  go_ret
  exact ⟨rfl, HB.out⟩
/-- What reading the sectors of a block comes to, one by one. -/
def getGo (a : Nat) : Nat → Nat → PS → ByteArray → Nat → (ByteArray × Nat × Int) × PS
  | 0, _, S, t, m => ((t, m, 0), S)
  | n + 1, j, S, t, m =>
    if readE S ((8 * a + j : Nat) : Int) = 0 then getGo a n (j + 1) (readP S ((8 * a + j : Nat) : Int)) (t ++ readS S ((8 * a + j : Nat) : Int)) m
    else if readE S ((8 * a + j : Nat) : Int) = 21 then getGo a n (j + 1) (readP S ((8 * a + j : Nat) : Int)) (t ++ fillS 0 64) (m + 2 ^ j)
    else ((⟨#[]⟩, 0, readE S ((8 * a + j : Nat) : Int)), readP S ((8 * a + j : Nat) : Int))
def bget (S : PS) (at_ : Int) : (ByteArray × Nat × Int) × PS := if bhasB S at_ then getGo at_.toNat 8 0 S ⟨#[]⟩ 0 else ((⟨#[]⟩, 0, 2), S)
theorem readP_len (S : PS) (x : Int) : (readP S x).kept.length = S.kept.length ∧ (readP S x).wait = S.wait := by
  unfold readP
  split
  · split
    · exact ⟨rfl, rfl⟩
    · exact ⟨rfl, rfl⟩
  · exact ⟨rfl, rfl⟩
theorem or_bit (m j : Nat) (h : m < 2 ^ j) (hj : j < 8) : bits .or .i64 (m : Int) ((2 ^ j : Nat) : Int) = ((m + 2 ^ j : Nat) : Int) := by
  have h1 : (2 : Nat) ^ j ≤ 2 ^ 7 := Nat.pow_le_pow_right (by decide) (by omega)
  rw [i64_or_nat m (2 ^ j) (by omega) (by omega)]
  have h2 := Nat.two_pow_add_eq_or_of_lt h 1
  rw [Nat.mul_one] at h2
  rw [Nat.or_comm, ← h2, Nat.add_comm]
theorem wrap_two (j : Nat) (hj : j < 8) : wrap64 (2 ^ j) = ((2 ^ j : Nat) : Int) := by
  have h : j = 0 ∨ j = 1 ∨ j = 2 ∨ j = 3 ∨ j = 4 ∨ j = 5 ∨ j = 6 ∨ j = 7 := by omega
  rcases h with rfl | rfl | rfl | rfl | rfl | rfl | rfl | rfl <;> (unfold wrap64; decide)
theorem get_ret (tmps : Array Value) (w : World) (t : ByteArray) (m y : Int) (R : Ending → World → Prop) (h1 : tmps.getD 4 undef = .string t) (h2 : tmps.getD 5 undef = .int .i64 m) (h3 : tmps.getD 6 undef = .int .i64 y) (hR : R (.returned (.tuple #[.string t, .int .i64 m, .int .i64 y])) w) :
    bodyPost Tryz.prog Tryz.f90 R .ret { tmps := tmps, defers := [] } w := by
  simp at h1 h2 h3
  exact bodyPost_ret (v := .tuple #[.string t, .int .i64 m, .int .i64 y]) (by simp [results, Tryz.results90, h1, h2, h3]) rfl hR
set_option maxHeartbeats 4000000 in
theorem bget_any (B : Nat) (F : Nat → Prop) (S : PS) (at_ : Int) (w : World) (hp : Plate w F B S) (hw : S.wait.length ≤ 1000000) (hg : ErrT w) (hF : ¬ F 3) :
    Calls Tryz.prog 90 #[.pointer (some ⟨B, 0, none⟩), .int .i64 at_] w fun e w' => e = .returned (.tuple #[.string (bget S at_).1.1, .int .i64 ((bget S at_).1.2.1 : Nat), .int .i64 (bget S at_).1.2.2]) ∧ Plate w' F B (bget S at_).2 ∧ Touch F w w' := by
  have hha := bhas_any B F S at_ w hp
  cases hb : bhasB S at_
  · have HF : Hid (bget S at_ = ((⟨#[]⟩, 0, 2), S) ∧ Plate w F B S) := ⟨by simp [bget, hb], hp⟩
    rw [hb] at hha
    rw [HF.out.1]
    clear hp
    go_enter Tryz.func90, Tryz.ntmps90
    go_wp2_with fail
    refine hha.mono ?_
    rintro e w1 ⟨rfl, rfl⟩
    go_wp2_with fail
    exact get_ret _ _ ⟨#[]⟩ 0 2 _ rfl rfl rfl ⟨rfl, HF.out.2, Touch.refl _ _⟩
  rw [hb] at hha
  have hb2 : 0 ≤ at_ ∧ at_ < ((S.kept.length / 8 : Nat) : Int) := by simpa [bhasB] using hb
  have hm : S.kept.length ≤ 32768 := by obtain ⟨K, N, wv, h⟩ := hp; exact h.most
  obtain ⟨a, rfl⟩ : ∃ a : Nat, at_ = a := ⟨at_.toNat, by omega⟩
  have HR : Hid (bget S (a : Nat) = getGo a 8 0 S ⟨#[]⟩ 0) := by show _ = _; simp [bget, hb]
  rw [HR.out]
  have ha : a < 4096 := by omega
  have hlt := lt_of_cell_ hg
  obtain ⟨G, hG⟩ : ∃ G, getGo a 8 0 S ⟨#[]⟩ 0 = G := ⟨_, rfl⟩
  rw [hG]
  have HG : Hid (getGo a 8 0 S ⟨#[]⟩ 0 = G) := hG
  have HP : Hid (Plate w (fun k => F k ∧ k < w.heap.size) B S ∧ ErrT w) := ⟨hp.mono fun k hk h => ⟨h, hk⟩, hg⟩
  obtain ⟨i0, hi, hz0, hz1, hz2⟩ := info_parts info_u8
  clear hp hg hb HR hb2 hG
  go_enter Tryz.func90, Tryz.ntmps90
  go_wp2_with fail
  refine hha.mono ?_
  rintro e w1 ⟨rfl, rfl⟩
  clear hha
  go_wp2_with (first | (at_make; refine wpList_make_own _ rfl _ _ 90 rfl w1.heap.size 5 i0 (.int .u8 0) 1 Tryz.underlying90 hi hz0 hz1 .i64 .i64 512 512 rfl rfl rfl (by rw [hz2]; decide) (by decide) (Nat.le_refl _) ?_))
  intro w2 hown2 hgrow2
  have hb2 : Below w1.heap.size w1 w2 := (Below.refl _ _).grown hgrow2 (Nat.le_refl _) (fun k hk => by simp at hk)
  have HI : Hid (Plate w2 (fun k => F k ∧ k < w1.heap.size) B S ∧ Touch (fun k => F k ∧ k < w1.heap.size) w1 w2 ∧ ErrT w2 ∧ w2.ownsRow w1.heap.size 5 1 (.slice (some ⟨w1.heap.size, 0, none⟩) 0 512) 0 []) := ⟨HP.out.1.below hb2, Touch.of_below hb2, HP.out.2.below hb2 hlt, hown2⟩
  clear hown2 hgrow2 hb2 HP
  go_wp2_with fail
  go_loopw [7, 8, 20] (fun v mv i wr => ∃ (j : Nat) (Sj : PS) (t : ByteArray) (m : Nat), j ≤ 8 ∧ i = .int .i64 j ∧ mv = .int .i64 (m : Nat) ∧ m < 2 ^ j ∧ t.size ≤ 64 * j ∧ getGo a (8 - j) j Sj t m = G ∧ Plate wr (fun k => F k ∧ k < w1.heap.size) B Sj ∧ Touch (fun k => F k ∧ k < w1.heap.size) w1 wr ∧ ErrT wr ∧ wr.ownsRow w1.heap.size 5 1 v t.size (Lib.strCells t) ∧ Sj.wait.length ≤ 1000000) (fun _ _ i _ => 8 - (intOf i).toNat)
  case atStart => exact ⟨0, S, ⟨#[]⟩, 0, by omega, rfl, rfl, by decide, by decide, HG.out, HI.out.1, HI.out.2.1, HI.out.2.2.1, HI.out.2.2.2, hw⟩
  case round =>
    clear HI HG
    obtain ⟨j, Sj, t, m, hj, rfl, rfl, hmj, htz, hgo, hpj, htj, hgj, hown, hwj⟩ := hrel
    by_cases hlt8 : j < 8
    · have j1 : (j : Int) < 8 := by omega
      obtain ⟨x, hx⟩ : ∃ x : Int, x = ((8 * a + j : Nat) : Int) := ⟨_, rfl⟩
      have HGO : Hid (getGo a (8 - j) j Sj t m = if readE Sj x = 0 then getGo a (8 - (j + 1)) (j + 1) (readP Sj x) (t ++ readS Sj x) m else if readE Sj x = 21 then getGo a (8 - (j + 1)) (j + 1) (readP Sj x) (t ++ fillS 0 64) (m + 2 ^ j) else ((⟨#[]⟩, 0, readE Sj x), readP Sj x)) := by
        show _ = _
        rw [show 8 - j = (8 - (j + 1)) + 1 by omega, hx]
        rfl
      rw [HGO.out] at hgo
      have hrs := readSector_any B _ Sj x wr hpj hwj
      have hsz := readS_size hpj x
      have HL : Hid ((readP Sj x).wait.length ≤ 1000000) := by show _ ≤ _; rw [(readP_len Sj x).2]; exact hwj
      have m4 : IntKind.i64.wrap (8 * (a : Int)) = 8 * (a : Int) := by rw [IntKind.wrap_i64]; omega
      have m5 : IntKind.i64.wrap (8 * (a : Int) + (j : Int)) = x := by rw [IntKind.wrap_i64]; omega
      have HW : Hid (∀ w', Touch (fun k => F k ∧ k < w1.heap.size) wr w' → Touch (fun k => F k ∧ k < w1.heap.size) w1 w' ∧ ErrT w' ∧ w'.ownsRow w1.heap.size 5 1 u7 t.size (Lib.strCells t)) := fun w' h => ⟨htj.trans (h.mono fun k hk => .inl hk), (cell_kept_0 (h.2 3 (Nat.lt_of_lt_of_le hlt htj.size) (fun hh => hF hh.1))).trans hgj, owns_keepB hown fun g h0 hg => h.2 g hg fun hh => by omega⟩
      clear HGO hpj htj hgj hown hx
      generalize readE Sj x = y at *
      generalize readS Sj x = s at *
      generalize readP Sj x = Sk at *
      have hno := fun w h => numberOf_any x y w h
      generalize secErr x y = z at *
      have hp2 : (2 : Nat) ^ j ≤ 128 := Nat.le_trans (Nat.pow_le_pow_right (by decide) (show j ≤ 7 by omega)) (by decide)
      go_wp2_with fail
      refine hrs.mono ?_
      rintro e w3 ⟨rfl, hp3, ht3⟩
      obtain ⟨ht4, hg4, ho4⟩ := HW.out w3 ht3
      clear hrs ht3 HW
      go_wp2_with fail
      refine (hno _ hg4).mono ?_
      rintro e w4 ⟨rfl, hb4⟩
      have hp5 := hp3.below hb4
      have ht5 := ht4.trans (Touch.of_below (F := grow (fun k => F k ∧ k < w1.heap.size) w1 w3) hb4)
      have hg5 : ErrT w4 := hg4.below hb4 (lt_of_cell_ hg4)
      have ho5 : w4.ownsRow w1.heap.size 5 1 u7 t.size (Lib.strCells t) := owns_keepB ho4 fun g _ hg => hb4.block g hg
      have HP5 : Hid (Plate w4 (fun k => F k ∧ k < w1.heap.size) B Sk) := hp5
      have HT5 : Hid (Touch (fun k => F k ∧ k < w1.heap.size) w1 w4) := ht5
      have HG5 : Hid (ErrT w4) := hg5
      have hz5 := ht5.size
      clear hp3 ht4 hg4 ho4 hb4 hno hp5 ht5 hg5
      by_cases hy : y = 0
      · subst hy
        rw [if_pos rfl] at hgo
        have HGO : Hid _ := hgo
        clear hgo
        go_wp2_with (at_builtin; refine Lib.wpList_append_own_string _ rfl _ _ 90 9 rfl w1.heap.size 5 i0 Tryz.underlying90 Tryz.underlying9 hi hz0 hz1 hz2 _ _ _ rfl ho5 s rfl ?c1 ?c2 ?c3 ?_)
        case c1 => unfold maxLen; omega
        case c2 => omega
        case c3 => omega
        intro v6 w6 ho6 hgr6 _
        have hb6 : Below w1.heap.size w4 w6 := (Below.refl _ _).grown hgr6 hz5 (fun k hk => by
          rcases ho5.2 with ⟨rfl, _⟩ | ⟨g', cap, cur, rfl, hg', _⟩
          · simp [Value.ownBlock] at hk
          · simp [Value.ownBlock] at hk; omega)
        rw [strCells_add, ← ByteArray.size_append] at ho6
        have HF : Hid (Plate w6 (fun k => F k ∧ k < w1.heap.size) B Sk ∧ Touch (fun k => F k ∧ k < w1.heap.size) w1 w6 ∧ ErrT w6 ∧ w6.ownsRow w1.heap.size 5 1 v6 (t ++ s).size (Lib.strCells (t ++ s))) := ⟨HP5.out.keep fun k _ hk => hb6.block k hk.2, ⟨HT5.out.1.trans (hb6.mono (Nat.zero_le _)), fun k hk hn => (hb6.block k hk).trans (HT5.out.2 k hk hn)⟩, HG5.out.below hb6 hlt, ho6⟩
        clear hb6 ho6 hgr6 ho5 HP5 HT5 HG5
        go_wp2
        go_roundw
        case rel => exact ⟨j + 1, Sk, t ++ s, m, by omega, by go_num, rfl, by rw [Nat.pow_succ]; omega, by rw [ByteArray.size_append]; omega, HGO.out, HF.out.1, HF.out.2.1, HF.out.2.2.1, HF.out.2.2.2, HL.out⟩
        case measure => simp [intOf]; omega
      · have hy' : (y == 0) = false := beq_false_of_ne hy
        rw [if_neg hy] at hgo
        by_cases hy2 : y = 21
        · subst hy2
          rw [if_pos rfl] at hgo
          have HGO : Hid _ := hgo
          have hfz := fillS_size 0 64
          clear hgo
          go_wp2_with fail
          refine (zeros64_any _).mono ?_
          rintro e w5 ⟨rfl, hb5⟩
          replace HP5 : Hid (Plate w5 (fun k => F k ∧ k < w1.heap.size) B Sk) := HP5.out.below hb5
          replace HG5 : Hid (ErrT w5) := HG5.out.below hb5 (lt_of_cell_ HG5.out)
          replace HT5 : Hid (Touch (fun k => F k ∧ k < w1.heap.size) w1 w5) := HT5.out.trans (Touch.of_below hb5)
          replace ho5 : w5.ownsRow w1.heap.size 5 1 u7 t.size (Lib.strCells t) := owns_keepB ho5 fun g _ hg => hb5.block g hg
          replace hz5 := HT5.out.size
          clear hb5
          have hor := or_bit m j hmj hlt8
          go_wp2_with (at_builtin; refine Lib.wpList_append_own_string _ rfl _ _ 90 9 rfl w1.heap.size 5 i0 Tryz.underlying90 Tryz.underlying9 hi hz0 hz1 hz2 _ _ _ rfl ho5 (fillS 0 64) rfl ?c1 ?c2 ?c3 ?_)
          case c1 => unfold maxLen; omega
          case c2 => omega
          case c3 => omega
          intro v6 w6 ho6 hgr6 _
          have hb6 : Below w1.heap.size w5 w6 := (Below.refl _ _).grown hgr6 hz5 (fun k hk => by
            rcases ho5.2 with ⟨rfl, _⟩ | ⟨g', cap, cur, rfl, hg', _⟩
            · simp [Value.ownBlock] at hk
            · simp [Value.ownBlock] at hk; omega)
          have e64 : t.size + 64 = (t ++ fillS 0 64).size := by rw [ByteArray.size_append, fillS_size]
          rw [strCells_add, e64] at ho6
          clear e64
          have HF : Hid (Plate w6 (fun k => F k ∧ k < w1.heap.size) B Sk ∧ Touch (fun k => F k ∧ k < w1.heap.size) w1 w6 ∧ ErrT w6 ∧ w6.ownsRow w1.heap.size 5 1 v6 (t ++ fillS 0 64).size (Lib.strCells (t ++ fillS 0 64))) := ⟨HP5.out.keep fun k _ hk => hb6.block k hk.2, ⟨HT5.out.1.trans (hb6.mono (Nat.zero_le _)), fun k hk hn => (hb6.block k hk).trans (HT5.out.2 k hk hn)⟩, HG5.out.below hb6 hlt, ho6⟩
          clear hb6 ho6 hgr6 ho5 HP5 HT5 HG5
          have HM : Hid (bits BinOp.or IntKind.i64 (m : Nat) (wrap64 (2 ^ j)) = ((m + 2 ^ j : Nat) : Int)) := by
            show _ = _
            rw [wrap_two j hlt8]
            exact hor
          clear hor
          go_wp2
          go_roundw
          case rel => exact ⟨j + 1, Sk, t ++ fillS 0 64, m + 2 ^ j, by omega, by go_num, by rw [HM.out], by rw [Nat.pow_succ]; omega, by rw [ByteArray.size_append, fillS_size]; omega, HGO.out, HF.out.1, HF.out.2.1, HF.out.2.2.1, HF.out.2.2.2, HL.out⟩
          case measure => simp [intOf]; omega
        · have hy2' : (y == 21) = false := beq_false_of_ne hy2
          rw [if_neg hy2] at hgo
          subst hgo
          go_wp2_with fail
          exact get_ret _ _ ⟨#[]⟩ 0 y _ rfl rfl rfl ⟨rfl, HP5.out.mono fun k _ h => h.1, HT5.out.mono fun k h => h.1⟩
    · obtain rfl : j = 8 := by omega
      have HF : Hid (G = ((t, m, 0), Sj) ∧ Plate wr F B Sj ∧ Touch F w1 wr) := ⟨hgo.symm, hpj.mono fun k _ h => h.1, htj.mono fun k h => h.1⟩
      have hcv : (convert 90 9 u7).run Tryz.prog wr = .ok (.string t) wr := by
        have := run_convert_owned (w := wr) (base := w1.heap.size) (v := u7) (l := t.data.toList) (by rw [size_of_list, ← byteCells_str]; exact hown)
        rw [this]
      clear hgo hpj htj hgj hown
      go_wp2_with fail
      exact get_ret _ _ t m 0 _ rfl rfl rfl ⟨by rw [HF.out.1], by rw [HF.out.1]; exact HF.out.2.1, HF.out.2.2⟩
end Go.Proofs.YtldkdoddklfdlaaGreatDoor

namespace Go.Proofs.YtldkdoddklfdlaaGreatDoor
set_option maxRecDepth 20000
open Go.RowKit

def keptAt (f : Nat → Bool) (wait : List (Nat × ByteArray)) (kept : List ByteArray) : Nat → List ByteArray
  | 0 => kept
  | j + 1 => match wait[j]? with
    | some p => if f j = true then (keptAt f wait kept j).set p.1 p.2 else keptAt f wait kept j
    | none => keptAt f wait kept j
def newAt (wait : List (Nat × ByteArray)) : Nat → Nat → Nat
  | 0, i => lastOf wait i
  | j + 1, i => match wait[j]? with
    | some p => if i = p.1 then 0 else newAt wait j i
    | none => newAt wait j i
def settleP (f : Nat → Bool) (S : PS) : PS := { S with kept := keptAt f S.wait S.kept S.wait.length, wait := [] }

theorem keptAt_length (f : Nat → Bool) (wait : List (Nat × ByteArray)) (kept : List ByteArray) : ∀ j, (keptAt f wait kept j).length = kept.length
  | 0 => rfl
  | j + 1 => by
    have ih := keptAt_length f wait kept j
    simp only [keptAt]
    split
    · split
      · rw [List.length_set]; exact ih
      · exact ih
    · exact ih
theorem keptAt_step {f : Nat → Bool} {wait : List (Nat × ByteArray)} {kept : List ByteArray} {j a : Nat} {s : ByteArray} (h : wait[j]? = some (a, s)) : keptAt f wait kept (j + 1) = if f j = true then (keptAt f wait kept j).set a s else keptAt f wait kept j := by
  simp only [keptAt, h]
theorem newAt_step {wait : List (Nat × ByteArray)} {j a : Nat} {s : ByteArray} (h : wait[j]? = some (a, s)) (i : Nat) : newAt wait (j + 1) i = if i = a then 0 else newAt wait j i := by
  simp only [newAt, h]
theorem newAt_zero (wait : List (Nat × ByteArray)) (i : Nat) : ∀ j, newAt wait j i = 0 ∨ (newAt wait j i = lastOf wait i ∧ ∀ k, k < j → ∀ p, wait[k]? = some p → p.1 ≠ i)
  | 0 => .inr ⟨rfl, fun k hk => absurd hk (Nat.not_lt_zero k)⟩
  | j + 1 => by
    simp only [newAt]
    rcases newAt_zero wait i j with h | ⟨h, h2⟩
    · left
      split
      · split
        · rfl
        · exact h
      · exact h
    · cases hj : wait[j]? with
      | none =>
        right
        refine ⟨h, fun k hk p hp => ?_⟩
        by_cases e : k = j
        · subst e; rw [hj] at hp; cases hp
        · exact h2 k (by omega) p hp
      | some q =>
        dsimp only
        by_cases e : i = q.1
        · left; rw [if_pos e]
        · right
          rw [if_neg e]
          refine ⟨h, fun k hk p hp => ?_⟩
          by_cases e2 : k = j
          · subst e2; rw [hj] at hp; cases hp; exact fun e3 => e e3.symm
          · exact h2 k (by omega) p hp
theorem newAt_all (wait : List (Nat × ByteArray)) (i : Nat) : newAt wait wait.length i = 0 := by
  rcases newAt_zero wait i wait.length with h | ⟨h, h2⟩
  · exact h
  · rw [h]
    cases hl : lastOf wait i with
    | zero => rfl
    | succ k =>
      obtain ⟨s, hs, _⟩ := lastOf_text hl
      exact absurd rfl (h2 k (List.getElem?_eq_some_iff.1 hs).1 (i, s) hs)
theorem keptAt_texts {f : Nat → Bool} {wait : List (Nat × ByteArray)} {kept : List ByteArray} (hw : ∀ p ∈ wait, p.2.size = 64) (hk : ∀ s ∈ kept, s.size = 0 ∨ s.size = 64) : ∀ j, ∀ s ∈ keptAt f wait kept j, s.size = 0 ∨ s.size = 64
  | 0 => hk
  | j + 1 => by
    have ih := keptAt_texts hw hk (f := f) j
    intro s hs
    cases hj : wait[j]? with
    | none => simp only [keptAt, hj] at hs; exact ih s hs
    | some p =>
      simp only [keptAt, hj] at hs
      split at hs
      · rcases List.mem_or_eq_of_mem_set hs with h | rfl
        · exact ih s h
        · exact .inr (hw p (List.mem_of_getElem? hj))
      · exact ih s hs

/-- In the middle of settle: the first j writes are dealt with. -/
structure SetAt (w0 w : World) (F : Nat → Prop) (B K N : Nat) (wv : Value) (S : PS) (f : Nat → Bool) (j : Nat) : Prop where
  row : Row w B 70 (plateC K N S.kept.length wv S)
  kept : Row w K 9 ((keptAt f S.wait S.kept j).map Value.string)
  new : Row w N 3 (rowF S.kept.length fun i => .int .i64 (newAt S.wait j i : Nat))
  wait : w.ownsRow 0 272 2 wv S.wait.length (waitC S.wait)
  touch : Touch F w0 w
theorem SetAt.of {w : World} {F : Nat → Prop} {B K N : Nat} {wv : Value} {S : PS} {f : Nat → Bool} (h : PlateAt w F B K N wv S) : SetAt w w F B K N wv S f 0 := ⟨h.row, h.kept, h.new, h.wait, Touch.refl _ _⟩
theorem SetAt.below {w0 w w' : World} {F : Nat → Prop} {B K N j : Nat} {wv : Value} {S : PS} {f : Nat → Bool} (h : SetAt w0 w F B K N wv S f j) (hb : Below w.heap.size w w') : SetAt w0 w' F B K N wv S f j :=
  ⟨h.row.below hb h.row.lt, h.kept.below hb h.kept.lt, h.new.below hb h.new.lt, owns_keep h.wait fun g hg => hb.block g (owns_lt h.wait g hg), ⟨h.touch.1.trans (hb.mono (Nat.zero_le _)), fun k hk hn => (hb.block k (Nat.lt_of_lt_of_le hk h.touch.size)).trans (h.touch.2 k hk hn)⟩⟩
theorem SetAt.drew {w0 w : World} {F : Nat → Prop} {B K N j : Nat} {wv : Value} {S : PS} {f : Nat → Bool} (h : SetAt w0 w F B K N wv S f j) : SetAt w0 w.drew F B K N wv S f j := h.below (Below.refl _ _).drew
/-- The round's two stores. -/
structure SetMid (w0 w : World) (F : Nat → Prop) (B K N : Nat) (wv : Value) (S : PS) (f : Nat → Bool) (j : Nat) : Prop where
  row : Row w B 70 (plateC K N S.kept.length wv S)
  kept : Row w K 9 ((keptAt f S.wait S.kept (j + 1)).map Value.string)
  new : Row w N 3 (rowF S.kept.length fun i => .int .i64 (newAt S.wait j i : Nat))
  wait : w.ownsRow 0 272 2 wv S.wait.length (waitC S.wait)
  touch : Touch F w0 w
theorem SetAt.mid {w0 w wp : World} {F : Nat → Prop} {B K N j a : Nat} {wv : Value} {S : PS} {f : Nat → Bool} {s : ByteArray} (h : SetAt w0 w F B K N wv S f j) (hp : PlateAt wp F B K N wv S) (hj : S.wait[j]? = some (a, s)) (hf : f j = true) : SetMid w0 (w.setCell ⟨K, a, none⟩ (.string s)) F B K N wv S f j := by
  refine ⟨h.row.off hp.bk _ _, ?_, h.new.off hp.kn.symm _ _, owns_off h.wait hp.wK _ _, h.touch.setCell _ _ _ (.inl hp.fK)⟩
  have := h.kept.setL a (.string s)
  rw [keptAt_step hj, if_pos hf]
  rw [← List.map_set] at this
  exact this
theorem SetAt.skip {w0 w : World} {F : Nat → Prop} {B K N j a : Nat} {wv : Value} {S : PS} {f : Nat → Bool} {s : ByteArray} (h : SetAt w0 w F B K N wv S f j) (hj : S.wait[j]? = some (a, s)) (hf : f j = false) : SetMid w0 w F B K N wv S f j := by
  refine ⟨h.row, ?_, h.new, h.wait, h.touch⟩
  rw [keptAt_step hj, hf]
  exact h.kept
theorem SetMid.drew {w0 w : World} {F : Nat → Prop} {B K N j : Nat} {wv : Value} {S : PS} {f : Nat → Bool} (h : SetMid w0 w F B K N wv S f j) : SetMid w0 w.drew F B K N wv S f j :=
  ⟨h.row, h.kept, h.new, owns_keep h.wait fun _ _ => rfl, h.touch.drew⟩
theorem SetMid.next {w0 w wp : World} {F : Nat → Prop} {B K N j a : Nat} {wv : Value} {S : PS} {f : Nat → Bool} {s : ByteArray} (h : SetMid w0 w F B K N wv S f j) (hp : PlateAt wp F B K N wv S) (hj : S.wait[j]? = some (a, s)) : SetAt w0 (w.setCell ⟨N, a, none⟩ (.int .i64 0)) F B K N wv S f (j + 1) := by
  refine ⟨h.row.off hp.bn _ _, h.kept.off hp.kn _ _, ?_, owns_off h.wait hp.wN _ _, h.touch.setCell _ _ _ (.inl hp.fN)⟩
  refine (h.new.setF a (.int .i64 0)).congr (rowF_congr fun k _ => ?_)
  rw [newAt_step hj]
  by_cases e : k = a
  · rw [if_pos e, if_pos e]; rfl
  · rw [if_neg e, if_neg e]
theorem SetAt.done {w0 w wp : World} {F : Nat → Prop} {B K N : Nat} {wv : Value} {S : PS} {f : Nat → Bool} (h : SetAt w0 w F B K N wv S f S.wait.length) (hp : PlateAt wp F B K N wv S) : PlateAt (w.setCell ⟨B, 1, none⟩ (.slice none 0 0)) F B K N (.slice none 0 0) (settleP f S) ∧ Touch F w0 (w.setCell ⟨B, 1, none⟩ (.slice none 0 0)) := by
  have hl : (settleP f S).kept.length = S.kept.length := keptAt_length _ _ _ _
  refine ⟨⟨?_, h.kept.off hp.bk.symm _ _, ?_, World.ownsRow_nil _ _ _ _, hp.fB, hp.fK, hp.fN, fun g hg => (by cases hg), hp.bk, hp.bn, hp.kn, by simp [Value.ownBlock], by simp [Value.ownBlock], by simp [Value.ownBlock], by rw [hl]; exact hp.most, by simp [settleP], keptAt_texts (fun p hp' => (hp.ats p hp').2) hp.texts _, hp.fuse⟩, h.touch.setCell _ _ _ (.inl hp.fB)⟩
  · rw [hl]; exact h.row.setL 1 (.slice none 0 0)
  · rw [hl]
    refine (h.new.off hp.bn.symm 1 (.slice none 0 0)).congr (rowF_congr fun k _ => ?_)
    rw [newAt_all]
    rfl
theorem SetAt.cW {w0 w : World} {F : Nat → Prop} {B K N j a : Nat} {wv : Value} {S : PS} {f : Nat → Bool} {i : Nat} {s : ByteArray} (h : SetAt w0 w F B K N wv S f j) {g cap : Nat} (hg : wv = .slice (some ⟨g, 0, none⟩) S.wait.length cap) (hi : S.wait[i]? = some (a, s)) : w.cell? ⟨g, i * 2, none⟩ = some (.int .i64 (a : Nat)) ∧ w.cell? ⟨g, i * 2 + 1, none⟩ = some (.string s) := by
  obtain ⟨g', cap', e, _, hc⟩ := owns_form h.wait (by have := (List.getElem?_eq_some_iff.1 hi).1; omega)
  rw [hg] at e
  cases e
  exact ⟨hc _ _ (waitC_get _ _ _ _ hi).1, hc _ _ (waitC_get _ _ _ _ hi).2⟩
end Go.Proofs.YtldkdoddklfdlaaGreatDoor

namespace Go.Proofs.YtldkdoddklfdlaaGreatDoor
set_option maxRecDepth 20000
open Go.RowKit

set_option maxRecDepth 10000 in
set_option maxHeartbeats 2000000 in
theorem settleF (B : Nat) (F : Nat → Prop) (S : PS) (f : Nat → Bool) (w : World) (hp : Plate w F B S) (hw : S.wait.length ≤ 1000000)
    (hcall : ∀ (j : Nat) w1, j < S.wait.length → Touch F w w1 → Calls Tryz.prog 143 #[.int .i64 (j : Int)] w1 fun e w2 => e = .returned (.bool (f j)) ∧ w2 = w1) :
    Calls Tryz.prog 142 #[.pointer (some ⟨B, 0, none⟩), .func (.func 143) #[] #[]] w fun e w' => e = .returned (.tuple #[]) ∧ Plate w' F B (settleP f S) ∧ Touch F w w' := by
  obtain ⟨K, N, wv, hp⟩ := hp
  have c1 := hp.c1
  have HP : Hid (PlateAt w F B K N wv S) := hp
  have HC : Hid (∀ (j : Nat) w1, j < S.wait.length → Touch F w w1 → Calls Tryz.prog 143 #[.int .i64 (j : Int)] w1 fun e w2 => e = .returned (.bool (f j)) ∧ w2 = w1) := hcall
  clear hcall
  have hform : ∃ oa cap, wv = .slice oa S.wait.length cap := by
    rcases owns_len hp.wait with ⟨cap, e⟩ | ⟨g, cap, e⟩
    · exact ⟨_, cap, e⟩
    · exact ⟨_, cap, e⟩
  obtain ⟨oa, cap, rfl⟩ := hform
  clear hp
  go_enter Tryz.func142, Tryz.ntmps142
  go_wp2_with fail
  go_loopw [11] (fun v wr => ∃ j : Nat, j ≤ S.wait.length ∧ v = .int .i64 j ∧ SetAt w wr F B K N (.slice oa S.wait.length cap) S f j) (fun v _ => S.wait.length - (intOf v).toNat)
  case atStart => exact ⟨0, Nat.zero_le _, rfl, SetAt.of HP.out⟩
  case round =>
    clear c1
    obtain ⟨j, hj, rfl, hS⟩ := hrel
    by_cases hlt : j < S.wait.length
    · have j1 : (j : Int) < S.wait.length := by omega
      obtain ⟨a, s, hjs⟩ : ∃ a s, S.wait[j]? = some (a, s) := ⟨S.wait[j].1, S.wait[j].2, List.getElem?_eq_getElem hlt⟩
      obtain ⟨g, cap', hwv, hgc, _⟩ := owns_form hS.wait (by omega)
      obtain ⟨rfl, rfl⟩ : oa = some ⟨g, 0, none⟩ ∧ cap = cap' := by cases hwv; exact ⟨rfl, rfl⟩
      obtain ⟨d0, d1⟩ := hS.cW rfl hjs
      have ha : a < S.kept.length := (HP.out.ats (a, s) (List.mem_of_getElem? hjs)).1
      have hb3 : Below wr.heap.size wr (wr.alloc (.cells #[.int .i64 (a : Nat), .string s] 272)) := (Below.refl _ _).alloc (Nat.le_refl _) _
      have n0 : (wr.alloc (.cells #[.int .i64 (a : Nat), .string s] 272)).heap[wr.heap.size]? = some (.cells #[.int .i64 (a : Nat), .string s] 272 (0, 0)) := heap_alloc_new wr _
      have HS : Hid (SetAt w (wr.alloc (.cells #[.int .i64 (a : Nat), .string s] 272)) F B K N (.slice (some ⟨g, 0, none⟩) S.wait.length cap) S f j) := hS.below hb3
      have HJ : Hid (S.wait[j]? = some (a, s)) := hjs
      have HS2 : Hid (Row wr K _ _ ∧ Row wr N _ _ ∧ Row wr B _ _) := ⟨hS.kept, hS.new, hS.row⟩
      clear hS hjs
      have hW : wr.heap.size ≠ K ∧ wr.heap.size ≠ N ∧ wr.heap.size ≠ B := ⟨by have := HS2.out.1.lt; omega, by have := HS2.out.2.1.lt; omega, by have := HS2.out.2.2.lt; omega⟩
      obtain ⟨w3, hw3⟩ : ∃ w3, wr.alloc (.cells #[.int .i64 (a : Nat), .string s] 272) = w3 := ⟨_, rfl⟩
      rw [hw3] at HS n0
      have n1 : Row w3 wr.heap.size 272 [.int .i64 (a : Nat), .string s] := n0
      have hcl := HC.out j w3 hlt HS.out.touch
      clear n0 hb3 HS2
      generalize hwz : wr.heap.size = wz at *
      cases hf : f j <;> rw [hf] at hcl
      case' true =>
        have m0 : w3.cell? ⟨wz, 0, none⟩ = some (.int .i64 (a : Nat)) := n1.cell 0
        have m1 : w3.cell? ⟨wz, 1, none⟩ = some (.string s) := n1.cell 1
        have b0 : w3.cell? ⟨B, 0, none⟩ = some (.slice (some ⟨K, 0, none⟩) S.kept.length S.kept.length) := HS.out.row.cell 0
        have hcK : ∃ old, w3.cell? ⟨K, a, none⟩ = some (.string old) := ⟨(keptAt f S.wait S.kept j)[a]'(by rw [keptAt_length]; exact ha), by rw [HS.out.kept.cell, List.getElem?_map, List.getElem?_eq_getElem (by rw [keptAt_length]; exact ha)]; rfl⟩
        obtain ⟨old, hcK⟩ := hcK
        have hfK : w3.frozen? ⟨K, a, none⟩ = false := HS.out.kept.frozen a
        have hoff : ∀ v, (w3.setCell ⟨K, a, none⟩ v).cell? ⟨B, 0, none⟩ = some (.slice (some ⟨K, 0, none⟩) S.kept.length S.kept.length) ∧ (w3.setCell ⟨K, a, none⟩ v).cell? ⟨wz, 0, none⟩ = some (.int .i64 (a : Nat)) ∧ (w3.setCell ⟨K, a, none⟩ v).cell? ⟨wz, 1, none⟩ = some (.string s) := fun v => ⟨(HS.out.row.off HP.out.bk _ _).cell 0, (n1.off hW.1 _ _).cell 0, (n1.off hW.1 _ _).cell 1⟩
        have ha1 : (a : Int) < S.kept.length := by omega
        go_wp2_with fail
        refine hcl.mono ?_
        rintro e w9 ⟨rfl, rfl⟩
        go_wp2_with fail
        go_region_held3 (fun w' => w'.cell? ⟨B, 0, none⟩ = some (.slice (some ⟨K, 0, none⟩) S.kept.length S.kept.length) ∧ w'.cell? ⟨wz, 0, none⟩ = some (.int .i64 (a : Nat)) ∧ w'.cell? ⟨wz, 1, none⟩ = some (.string s)) (first | exact hoff _ | exact ⟨b0, m0, m1⟩ | simp [go_sem, *]) (fail)
        have HM : Hid (SetMid w (w9.setCell ⟨K, a, none⟩ (.string s)).drew F B K N (.slice (some ⟨g, 0, none⟩) S.wait.length cap) S f j) := (HS.out.mid HP.out HJ.out hf).drew
        have n4 : Row (w9.setCell ⟨K, a, none⟩ (.string s)).drew wz 272 [.int .i64 (a : Nat), .string s] := n1.off hW.1 _ _
        obtain ⟨w4, hw4⟩ : ∃ w4, (w9.setCell ⟨K, a, none⟩ (.string s)).drew = w4 := ⟨_, rfl⟩
        rw [hw4] at HM n4
        try rw [hw4]
        clear m0 m1 b0 hcK hfK hoff hcl n1 HS
      case' false =>
        have HM : Hid (SetMid w w3 F B K N (.slice (some ⟨g, 0, none⟩) S.wait.length cap) S f j) := HS.out.skip HJ.out hf
        go_wp2_with fail
        refine hcl.mono ?_
        rintro e w4 ⟨rfl, rfl⟩
        have n4 := n1
        clear hcl n1 HS
      all_goals
        have m0 : w4.cell? ⟨wz, 0, none⟩ = some (.int .i64 (a : Nat)) := n4.cell 0
        have b2 : w4.cell? ⟨B, 2, none⟩ = some (.slice (some ⟨N, 0, none⟩) S.kept.length S.kept.length) := HM.out.row.cell 2
        have hcN : w4.cell? ⟨N, a, none⟩ = some (.int .i64 (newAt S.wait j a : Nat)) := HM.out.new.cellF a ha
        have hfN : w4.frozen? ⟨N, a, none⟩ = false := HM.out.new.frozen a
        have hoff : ∀ v, (w4.setCell ⟨N, a, none⟩ v).cell? ⟨B, 2, none⟩ = some (.slice (some ⟨N, 0, none⟩) S.kept.length S.kept.length) ∧ (w4.setCell ⟨N, a, none⟩ v).cell? ⟨wz, 0, none⟩ = some (.int .i64 (a : Nat)) := fun v => ⟨(HM.out.row.off HP.out.bn _ _).cell 2, (n4.off hW.2.1 _ _).cell 0⟩
        have ha1 : (a : Int) < S.kept.length := by omega
        go_wp2_with fail
        go_region_held3 (fun w' => w'.cell? ⟨B, 2, none⟩ = some (.slice (some ⟨N, 0, none⟩) S.kept.length S.kept.length) ∧ w'.cell? ⟨wz, 0, none⟩ = some (.int .i64 (a : Nat))) (first | exact hoff _ | exact ⟨b2, m0⟩ | simp [go_sem, *]) (fail)
        have HF : Hid (SetAt w (w4.setCell ⟨N, a, none⟩ (.int .i64 0)).drew F B K N (.slice (some ⟨g, 0, none⟩) S.wait.length cap) S f (j + 1)) := (HM.out.next HP.out HJ.out).drew
        clear m0 b2 hcN hfN hoff HM n4
        go_wp2
        go_roundw
        case rel => exact ⟨j + 1, by omega, by go_num, HF.out⟩
        case measure => simp [intOf]; omega
    · obtain rfl : j = S.wait.length := by omega
      have hX := hS.done HP.out
      have b1 : wr.cell? ⟨B, 1, none⟩ = some (.slice oa S.wait.length cap) := hS.row.cell 1
      have f1 : wr.frozen? ⟨B, 1, none⟩ = false := hS.row.frozen 1
      obtain ⟨w5, hw5⟩ : ∃ w5, wr.setCell ⟨B, 1, none⟩ (.slice none 0 0) = w5 := ⟨_, rfl⟩
      rw [hw5] at hX
      have HX : Hid (Plate w5 F B (settleP f S) ∧ Touch F w w5) := ⟨⟨K, N, _, hX.1⟩, hX.2⟩
      clear hX hS
      go_wp2
      go_end0
      exact ⟨rfl, HX.out.1, HX.out.2⟩

end Go.Proofs.YtldkdoddklfdlaaGreatDoor

namespace Go.Proofs.YtldkdoddklfdlaaGreatDoor
set_option maxRecDepth 20000
open Go.RowKit

/-- A list of truth values that lies outside the blocks F. -/
def Bools (w : World) (F : Nat → Prop) (kv : Value) (l : List Bool) : Prop := (∃ oa cap, kv = .slice oa 0 cap ∧ l = []) ∨ ∃ g o cap, kv = .slice (some ⟨g, o, none⟩) l.length cap ∧ g < w.heap.size ∧ ¬ F g ∧ ∀ i b, l[i]? = some b → w.cell? ⟨g, o + i, none⟩ = some (.bool b)
theorem Bools.touch {w w' : World} {F : Nat → Prop} {kv : Value} {l : List Bool} (h : Bools w F kv l) (ht : Touch F w w') : Bools w' F kv l := by
  rcases h with h | ⟨g, o, cap, rfl, hg, hf, hc⟩
  · exact .inl h
  · exact .inr ⟨g, o, cap, rfl, Nat.lt_of_lt_of_le hg ht.size, hf, fun i b hi => by rw [World.cell?_of_block (a := ⟨g, o + i, none⟩) (ht.2 g hg hf)]; exact hc i b hi⟩
theorem Bools.mono {w : World} {F F' : Nat → Prop} {kv : Value} {l : List Bool} (h : Bools w F kv l) (hF : ∀ k, k < w.heap.size → F' k → F k) : Bools w F' kv l := by
  rcases h with h | ⟨g, o, cap, rfl, hg, hf, hc⟩
  · exact .inl h
  · exact .inr ⟨g, o, cap, rfl, hg, fun h => hf (hF g hg h), hc⟩
def lastsB (l : List Bool) (j : Nat) : Bool := l.getD j false

theorem flushFn (j : Nat) (w : World) : Calls Tryz.prog 143 #[.int .i64 (j : Int)] w fun e w' => e = .returned (.bool true) ∧ w' = w := by
  go_enter Tryz.func143, Tryz.ntmps143
  go_wp2
  go_ret
  exact ⟨rfl, rfl⟩

def flushE (S : PS) : Int := if S.up = true then 0 else 20
def flushP (S : PS) : PS := if S.up = true then settleP (fun _ => true) S else S
def startP (l : List Bool) (S : PS) : PS := { settleP (lastsB l) S with fuse := -1, up := true }

set_option maxHeartbeats 400000 in
theorem flush_any (B : Nat) (F : Nat → Prop) (S : PS) (w : World) (hp : Plate w F B S) (hw : S.wait.length ≤ 1000000) :
    Calls Tryz.prog 116 #[.pointer (some ⟨B, 0, none⟩)] w fun e w' => e = .returned (.int .i64 (flushE S)) ∧ Plate w' F B (flushP S) ∧ Touch F w w' := by
  have hs := settleF B F S (fun _ => true) w hp hw fun j w1 _ _ => flushFn j w1
  obtain ⟨K, N, wv, hp⟩ := hp
  have c4 := hp.c4
  cases hu : S.up
  · rw [hu] at c4
    have HF : Hid (flushE S = 20 ∧ Plate w F B (flushP S)) := ⟨by simp [flushE, hu], by simp only [flushP, hu]; exact ⟨K, N, wv, hp⟩⟩
    clear hp hu hs
    go_enter Tryz.func116, Tryz.ntmps116
    go_wp2
    go_ret
    exact ⟨by rw [HF.out.1]; rfl, HF.out.2, Touch.refl _ _⟩
  · rw [hu] at c4
    have HF : Hid (flushE S = 0 ∧ flushP S = settleP (fun _ => true) S) := ⟨by simp [flushE, hu], by simp only [flushP, hu, if_true]⟩
    clear hp hu
    go_enter Tryz.func116, Tryz.ntmps116
    go_wp2_with fail
    refine hs.mono ?_
    rintro e w1 ⟨rfl, h1, h2⟩
    clear hs
    go_wp2
    go_ret
    exact ⟨by rw [HF.out.1]; rfl, by rw [HF.out.2]; exact h1, h2⟩

end Go.Proofs.YtldkdoddklfdlaaGreatDoor
