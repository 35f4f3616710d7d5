/- block's blocks, has, readSector, writeSector and Put, at a device that lies in memory. · Lists that came in: of numbers. · block's zeros at 512, and At: what an image has at an address. -/
import Derived.Test.YtoopaigpjefonaaGreatDoorMg04
import Derived.Test.YtoopaigpjefonaaGreatDoorMg06
import Derived.Test.YtoopaigpjefonaaGreatDoorMg02
import Derived.Deep.Slices
import Derived.WideShapes
import Derived.ProofKit
import Derived.ChangeOld
import Derived.Test.YtoopaigpjefonaaGreatDoorMg05
namespace Go.Proofs.YtoopaigpjefonaaGreatDoor
set_option maxRecDepth 20000
open Go.RowKit

def bhasB (S : PS) (at_ : Int) : Bool := decide (0 ≤ at_ ∧ at_ < ((S.kept.length / 8 : Nat) : Int))
theorem blocks_any (B : Nat) (F : Nat → Prop) (S : PS) (w : World) (hp : Plate w F B S) : Calls Tryz.prog 105 #[.pointer (some ⟨B, 0, none⟩)] w fun e w' => e = .returned (.int .i64 ((S.kept.length / 8 : Nat) : Int)) ∧ w' = w := by
  have hs := sectors_any B F S w hp
  have hm : S.kept.length ≤ 32768 := by obtain ⟨K, N, wv, h⟩ := hp; exact h.most
  have HQ : Hid (((S.kept.length : Nat) : Int).tdiv 8 = ((S.kept.length / 8 : Nat) : Int)) := by
    show _ = _
    rw [Int.tdiv_eq_ediv_of_nonneg (by omega)]
    omega
  generalize S.kept.length = n at *
  obtain ⟨q, hq⟩ : ∃ q : Int, q = ((n / 8 : Nat) : Int) := ⟨_, rfl⟩
  have hq2 : IntKind.i64.wrap (((n : Nat) : Int).tdiv 8) = q := by rw [HQ.out, IntKind.wrap_i64, hq]; omega
  have hq3 : ((n : Nat) : Int).tdiv 8 = q := by rw [HQ.out, hq]
  have hq4 : ((n : Nat) : Int) / 8 = q := by omega
  rw [← hq]
  clear hq HQ hp
  go_enter Tryz.func105, Tryz.ntmps105
  go_wp2_with fail
  refine hs.mono ?_
  rintro e w1 ⟨rfl, rfl⟩
  go_wp2
  go_ret
  exact ⟨rfl, rfl⟩
theorem bhas_any (B : Nat) (F : Nat → Prop) (S : PS) (at_ : Int) (w : World) (hp : Plate w F B S) : Calls Tryz.prog 139 #[.pointer (some ⟨B, 0, none⟩), .int .i64 at_] w fun e w' => e = .returned (.bool (bhasB S at_)) ∧ w' = w := by
  have hb := blocks_any B F S w hp
  have HB : Hid (bhasB S at_ = decide (0 ≤ at_ ∧ at_ < ((S.kept.length / 8 : Nat) : Int))) := rfl
  generalize bhasB S at_ = r at *
  generalize ((S.kept.length / 8 : Nat) : Int) = q at *
  clear hp
  by_cases h0 : 0 ≤ at_
  · by_cases h1 : at_ < q
    · obtain rfl : r = true := by rw [HB.out]; exact decide_eq_true ⟨h0, h1⟩
      clear HB
      go_enter Tryz.func139, Tryz.ntmps139
      go_wp2_with fail
      refine hb.mono ?_
      rintro e w1 ⟨rfl, rfl⟩
      go_wp2
      go_ret
      exact ⟨rfl, rfl⟩
    · obtain rfl : r = false := by rw [HB.out]; exact decide_eq_false fun h => h1 h.2
      clear HB
      have h2 : decide (at_ < q) = false := decide_eq_false h1
      clear h1
      go_enter Tryz.func139, Tryz.ntmps139
      go_wp2_with fail
      refine hb.mono ?_
      rintro e w1 ⟨rfl, rfl⟩
      go_wp2
      go_ret
      exact ⟨rfl, rfl⟩
  · obtain rfl : r = false := by rw [HB.out]; exact decide_eq_false fun h => h0 h.1
    clear HB hb
    go_enter Tryz.func139, Tryz.ntmps139
    go_wp2
    go_ret
    exact ⟨rfl, rfl⟩
theorem writeSector_any (B : Nat) (F : Nat → Prop) (S : PS) (x : Int) (s : ByteArray) (w : World) (hp : Plate w F B S) (hw : S.wait.length ≤ 1000000) :
    Calls Tryz.prog 146 #[.pointer (some ⟨B, 0, none⟩), .int .i64 x, .string s] w fun e w' => e = .returned (secErr x (writeE S x s)) ∧ Plate w' (grow F w w') B (writeP S x s) ∧ Touch F w w' := by
  have h1 := write_any B F S x s w hp hw
  generalize writeE S x s = y at *
  generalize writeP S x s = S' at *
  clear hp
  go_enter Tryz.func146, Tryz.ntmps146
  go_wp2_with fail
  refine h1.mono ?_
  rintro e w1 ⟨rfl, h2, h3⟩
  have HF : Hid _ := And.intro h2 h3
  clear h2 h3 h1
  go_wp2_with fail
  refine (wrapped_any x y _).mono ?_
  rintro e w2 ⟨rfl, rfl⟩
  obtain ⟨z, hz⟩ : ∃ z, z = secErr x y := ⟨_, rfl⟩
  rw [← hz]
  have HZ : Hid (z = secErr x y) := hz
  clear hz
  go_wp2
  go_ret
  exact ⟨by rw [← HZ.out]; rfl, HF.out⟩
theorem readSector_any (B : Nat) (F : Nat → Prop) (S : PS) (x : Int) (w : World) (hp : Plate w F B S) (hw : S.wait.length ≤ 1000000) :
    Calls Tryz.prog 140 #[.pointer (some ⟨B, 0, none⟩), .int .i64 x] w fun e w' => e = .returned (.tuple #[.string (readS S x), secErr x (readE S x)]) ∧ Plate w' F B (readP S x) ∧ Touch F w w' := by
  have h1 := read_any B F S x w hp hw
  generalize readE S x = y at *
  generalize readS S x = s at *
  generalize readP S x = S' at *
  clear hp
  go_enter Tryz.func140, Tryz.ntmps140
  go_wp2_with fail
  refine h1.mono ?_
  rintro e w1 ⟨rfl, h2, h3⟩
  have HF : Hid _ := And.intro h2 h3
  clear h2 h3 h1
  go_wp2_with fail
  refine (wrapped_any x y _).mono ?_
  rintro e w2 ⟨rfl, rfl⟩
  obtain ⟨z, hz⟩ : ∃ z, z = secErr x y := ⟨_, rfl⟩
  rw [← hz]
  have HZ : Hid (z = secErr x y) := hz
  clear hz
  go_wp2
  go_ret2
  exact ⟨by rw [← HZ.out]; rfl, HF.out⟩

/-- A block's sector, and what writing sectors comes to, one by one. -/
def secS (r : ByteArray) (j : Nat) : ByteArray := r.extract (64 * j) (64 * j + 64)
def putGo (r : ByteArray) (a : Nat) : Nat → Nat → PS → Int × PS
  | 0, _, S => (0, S)
  | n + 1, j, S => if writeE S ((8 * a + j : Nat) : Int) (secS r j) = 0 then putGo r a n (j + 1) (writeP S ((8 * a + j : Nat) : Int) (secS r j)) else (writeE S ((8 * a + j : Nat) : Int) (secS r j), writeP S ((8 * a + j : Nat) : Int) (secS r j))
def bputE (S : PS) (at_ : Int) (r : ByteArray) : Int := if r.size = 512 then (if bhasB S at_ then (putGo r at_.toNat 8 0 S).1 else 2) else 1
def bputP (S : PS) (at_ : Int) (r : ByteArray) : PS := if r.size = 512 then (if bhasB S at_ then (putGo r at_.toNat 8 0 S).2 else S) else S
theorem writeP_len (S : PS) (x : Int) (s : ByteArray) : (writeP S x s).kept.length = S.kept.length ∧ (writeP S x s).wait.length ≤ S.wait.length + 1 := by
  unfold writeP
  split
  · split
    · split
      · split
        · exact ⟨rfl, Nat.le_succ _⟩
        · exact ⟨rfl, by simp⟩
      · exact ⟨rfl, Nat.le_succ _⟩
    · exact ⟨rfl, Nat.le_succ _⟩
  · exact ⟨rfl, Nat.le_succ _⟩
theorem cell_kept_0 {w w' : World} {b : Nat} (h : w'.heap[b]? = w.heap[b]?) {i : Nat} : w'.cell? ⟨b, i, none⟩ = w.cell? ⟨b, i, none⟩ := World.cell?_of_block (a := ⟨b, i, none⟩) h
theorem grow_grow {F : Nat → Prop} {w w1 w2 : World} (h1 : w.heap.size ≤ w1.heap.size) (h2 : w1.heap.size ≤ w2.heap.size) (k : Nat) (h : grow (grow F w w1) w1 w2 k) : grow F w w2 k :=
  h.elim (fun a => a.elim .inl fun b => .inr ⟨b.1, Nat.lt_of_lt_of_le b.2 h2⟩) fun a => .inr ⟨Nat.le_trans h1 a.1, a.2⟩
set_option maxHeartbeats 4000000 in
theorem bput_any (B : Nat) (F : Nat → Prop) (S : PS) (at_ : Int) (r : ByteArray) (w : World) (hp : Plate w F B S) (hw : S.wait.length ≤ 900000) (hg : ErrT w) (hF : ¬ F 3) :
    Calls Tryz.prog 114 #[.pointer (some ⟨B, 0, none⟩), .int .i64 at_, .string r] w fun e w' => e = .returned (.int .i64 (bputE S at_ r)) ∧ Plate w' (grow F w w') B (bputP S at_ r) ∧ Touch F w w' := by
  have hwh := fun w => whole_any r w
  by_cases hr : r.size = 512
  case neg =>
    have HF : Hid (bputE S at_ r = 1 ∧ Plate w (grow F w w) B (bputP S at_ r)) := ⟨by simp [bputE, hr], by simp only [bputP, hr, if_false]; exact hp.mono fun k _ h => .inl h⟩
    rw [decide_eq_false hr] at hwh
    rw [HF.out.1]
    clear hp
    go_enter Tryz.func114, Tryz.ntmps114
    go_wp2_with fail
    refine (hwh _).mono ?_
    rintro e w1 ⟨rfl, rfl⟩
    go_wp2
    go_ret
    exact ⟨rfl, HF.out.2, Touch.refl _ _⟩
  rw [decide_eq_true hr] at hwh
  have hha := bhas_any B F S at_ w hp
  cases hb : bhasB S at_
  · have HF : Hid (bputE S at_ r = 2 ∧ Plate w (grow F w w) B (bputP S at_ r)) := ⟨by simp [bputE, hr, hb], by simp [bputP, hb]; exact hp.mono fun k _ h => .inl h⟩
    rw [hb] at hha
    rw [HF.out.1]
    clear hp
    go_enter Tryz.func114, Tryz.ntmps114
    go_wp2_with fail
    refine (hwh _).mono ?_
    rintro e w1 ⟨rfl, rfl⟩
    go_wp2_with fail
    refine hha.mono ?_
    rintro e w2 ⟨rfl, rfl⟩
    go_wp2
    go_ret
    exact ⟨rfl, HF.out.2, Touch.refl _ _⟩
  rw [hb] at hha
  have hb2 : 0 ≤ at_ ∧ at_ < ((S.kept.length / 8 : Nat) : Int) := by simpa [bhasB] using hb
  have hm : S.kept.length ≤ 32768 := by obtain ⟨K, N, wv, h⟩ := hp; exact h.most
  obtain ⟨a, rfl⟩ : ∃ a : Nat, at_ = a := ⟨at_.toNat, by omega⟩
  have HR : Hid (bputE S (a : Nat) r = (putGo r a 8 0 S).1 ∧ bputP S (a : Nat) r = (putGo r a 8 0 S).2) := ⟨by simp [bputE, hr, hb], by simp [bputP, hr, hb]⟩
  rw [HR.out.1, HR.out.2]
  have ha : a < 4096 := by omega
  have HI : Hid (Plate w (grow F w w) B S ∧ ErrT w) := ⟨hp.mono fun k _ h => .inl h, hg⟩
  have hlt := lt_of_cell_ hg
  obtain ⟨G, hG⟩ : ∃ G, putGo r a 8 0 S = G := ⟨_, rfl⟩
  rw [hG]
  have HG : Hid (putGo r a 8 0 S = G) := hG
  clear hp hg hb HR hb2 hG
  go_enter Tryz.func114, Tryz.ntmps114
  go_wp2_with fail
  refine (hwh _).mono ?_
  rintro e w1 ⟨rfl, rfl⟩
  clear hwh
  go_wp2_with fail
  refine hha.mono ?_
  rintro e w2 ⟨rfl, rfl⟩
  clear hha
  go_wp2_with fail
  go_loopw [21] (fun v wr => ∃ (j : Nat) (Sj : PS), j ≤ 8 ∧ v = .int .i64 j ∧ putGo r a (8 - j) j Sj = G ∧ Plate wr (grow F w2 wr) B Sj ∧ Touch F w2 wr ∧ Sj.wait.length ≤ 900000 + j ∧ ErrT wr) (fun v _ => 8 - (intOf v).toNat)
  case atStart => exact ⟨0, S, by omega, rfl, HG.out, HI.out.1, Touch.refl _ _, by omega, HI.out.2⟩
  case round =>
    clear HI HG
    obtain ⟨j, Sj, hj, rfl, hgo, hpj, htj, hwj, hgj⟩ := hrel
    by_cases hlt8 : j < 8
    · have j1 : (j : Int) < 8 := by omega
      obtain ⟨p, hp⟩ : ∃ p : Nat, p = 64 * j := ⟨_, rfl⟩
      obtain ⟨q, hq⟩ : ∃ q : Nat, q = 64 * j + 64 := ⟨_, rfl⟩
      obtain ⟨x, hx⟩ : ∃ x : Int, x = ((8 * a + j : Nat) : Int) := ⟨_, rfl⟩
      have HS : Hid (secS r j = r.extract p q) := by rw [hp, hq]; rfl
      have HGO : Hid (putGo r a (8 - j) j Sj = if writeE Sj x (secS r j) = 0 then putGo r a (8 - (j + 1)) (j + 1) (writeP Sj x (secS r j)) else (writeE Sj x (secS r j), writeP Sj x (secS r j))) := by
        show _ = _
        rw [show 8 - j = (8 - (j + 1)) + 1 by omega, hx]
        rfl
      have hws := writeSector_any B (grow F w2 wr) Sj x (r.extract p q) wr hpj (by omega)
      have HL : Hid ((writeP Sj x (r.extract p q)).wait.length ≤ 900000 + (j + 1)) := by
        have := (writeP_len Sj x (r.extract p q)).2
        show _ ≤ _
        omega
      have m1 : IntKind.i64.wrap (64 * (j : Int)) = (p : Nat) := by rw [IntKind.wrap_i64]; omega
      have m2 : IntKind.i64.wrap ((j : Int) + 1) = (j : Int) + 1 := by rw [IntKind.wrap_i64]; omega
      have m3 : IntKind.i64.wrap (64 * ((j : Int) + 1)) = (q : Nat) := by rw [IntKind.wrap_i64]; omega
      have m4 : IntKind.i64.wrap (8 * (a : Int)) = 8 * (a : Int) := by rw [IntKind.wrap_i64]; omega
      have m5 : IntKind.i64.wrap (8 * (a : Int) + (j : Int)) = x := by rw [IntKind.wrap_i64]; omega
      have n0 : (0 : Int) ≤ (p : Nat) := by omega
      have n1 : ((p : Nat) : Int) ≤ (q : Nat) := by omega
      have n2 : ((q : Nat) : Int) ≤ r.size := by omega
      rw [HGO.out, HS.out] at hgo
      have HW : Hid (∀ w', Touch (grow F w2 wr) wr w' → Touch F w2 w' ∧ ErrT w') := fun w' h => ⟨htj.trans h, (cell_kept_0 (h.2 3 (Nat.lt_of_lt_of_le hlt htj.size) (fun hh => hh.elim hF fun y => absurd y.1 (by omega)))).trans hgj⟩
      have hz := htj.size
      clear HGO HS hpj htj hgj hp hq hx
      generalize writeE Sj x (r.extract p q) = y at *
      generalize writeP Sj x (r.extract p q) = Sk at *
      by_cases hy : y = 0
      · have he : secErr x y = .nilIface := if_pos hy
        rw [he] at hws
        rw [if_pos hy] at hgo
        have HGO : Hid (putGo r a (8 - (j + 1)) (j + 1) Sk = G) := hgo
        clear hgo he
        go_wp2_with fail
        refine hws.mono ?_
        rintro e w3 ⟨rfl, hp3, ht3⟩
        obtain ⟨ht4, hg4⟩ := HW.out w3 ht3
        have HF : Hid (Plate w3 (grow F w2 w3) B Sk ∧ Touch F w2 w3 ∧ ErrT w3) := ⟨hp3.mono fun k _ hk => grow_grow hz ht3.size k hk, ht4, hg4⟩
        clear hws hp3 ht3 ht4 hg4 HW
        go_wp2
        go_roundw
        case rel => exact ⟨j + 1, Sk, by omega, by go_num, HGO.out, HF.out.1, HF.out.2.1, HL.out, HF.out.2.2⟩
        case measure => simp [intOf]; omega
      · have HE : Hid (secErr x y = .iface 288 (.agg #[.int .i64 x, .int .i64 y])) := if_neg hy
        rw [if_neg hy] at hgo
        have HGO : Hid (y = G.1 ∧ Sk = G.2) := by rw [← hgo]; exact ⟨rfl, rfl⟩
        have hno := fun w h => numberOf_any x y w h
        rw [HE.out] at hws
        simp only [HE.out] at hno
        clear hgo
        go_wp2_with fail
        refine hws.mono ?_
        rintro e w3 ⟨rfl, hp3, ht3⟩
        obtain ⟨ht4, hg4⟩ := HW.out w3 ht3
        have HF : Hid (Plate w3 (grow F w2 w3) B Sk ∧ Touch F w2 w3) := ⟨hp3.mono fun k _ hk => grow_grow hz ht3.size k hk, ht4⟩
        clear hws hp3 ht3 ht4 HW
        go_wp2_with fail
        refine (hno _ hg4).mono ?_
        rintro e w4 ⟨rfl, hb4⟩
        have HF4 : Hid (Plate w4 (grow F w2 w4) B Sk ∧ Touch F w2 w4) := ⟨(HF.out.1.below hb4).mono fun k _ hk => hk.imp id fun z => ⟨z.1, Nat.lt_of_lt_of_le z.2 hb4.size⟩, HF.out.2.trans (Touch.of_below hb4)⟩
        clear hno hb4 HF
        go_wp2
        go_ret
        exact ⟨by rw [← HGO.out.1]; rfl, by rw [← HGO.out.2]; exact HF4.out.1, HF4.out.2⟩
    · obtain rfl : j = 8 := by omega
      have HF : Hid ((0 : Int) = G.1 ∧ Plate wr (grow F w2 wr) B G.2 ∧ Touch F w2 wr) := by
        rw [← hgo]
        exact ⟨rfl, hpj, htj⟩
      clear hgo hpj htj hgj
      go_wp2
      go_ret
      exact ⟨by rw [← HF.out.1]; rfl, HF.out.2⟩
end Go.Proofs.YtoopaigpjefonaaGreatDoor

namespace Go.Proofs.YtoopaigpjefonaaGreatDoor
set_option maxRecDepth 20000
open Go.ChangeShapes Go.WideShapes Go.RowKit Go.Deep

theorem cell_kept_1 {w w' : World} {b : Nat} (h : w'.heap[b]? = w.heap[b]?) (i : Nat) : w'.cell? ⟨b, i, none⟩ = w.cell? ⟨b, i, none⟩ := World.cell?_of_block (a := ⟨b, i, none⟩) h
/-- A list whose elements lie in one cell each. -/
def List1 {α : Type} (f : α → Value) (W : World) (v : Value) (l : List α) : Prop := (∃ oa cap, v = .slice oa 0 cap ∧ l = []) ∨ ∃ g o cap, v = .slice (some ⟨g, o, none⟩) l.length cap ∧ g < W.heap.size ∧ ∀ i x, l[i]? = some x → W.cell? ⟨g, o + i, none⟩ = some (f x)
theorem List1.form {α : Type} {f : α → Value} {W : World} {v : Value} {l : List α} (h : List1 f W v l) : ∃ oa cap, v = .slice oa l.length cap := by
  rcases h with ⟨oa, cap, rfl, rfl⟩ | ⟨g, o, cap, rfl, _⟩
  · exact ⟨oa, cap, rfl⟩
  · exact ⟨_, cap, rfl⟩
theorem List1.get {α : Type} {f : α → Value} {W : World} {oa : Option Addr} {cap : Nat} {l : List α} (h : List1 f W (.slice oa l.length cap) l) {i : Nat} (hi : i < l.length) : ∃ g o, oa = some ⟨g, o, none⟩ ∧ g < W.heap.size ∧ ∀ j x, l[j]? = some x → W.cell? ⟨g, o + j, none⟩ = some (f x) := by
  rcases h with ⟨oa', cap', e, rfl⟩ | ⟨g, o, cap', e, hg, hx⟩
  · simp at hi
  · simp only [Value.slice.injEq] at e
    exact ⟨g, o, e.1, hg, hx⟩
section
variable {H : Type} {enc : TypeId × Value → H} {W : World}
theorem list1_of_trod {α : Type} {f : α → Value} {P : α → Prop} {t e : TypeId} (hu : Tryz.prog.underlying t = some (.slice e)) (hc : Tryz.prog.cellsOf e = 1) (hr : ∀ n c x, DataW.trod enc Tryz.prog W 0 (fun _ => true) true n e [c] = some x → ∃ a, c = f a ∧ P a)
    {v : Value} {d : DataW H} {p : List MemPlace} {base : Nat} (hok : Value.okWide Tryz.prog W .any base t v) (h : DataW.Trod enc Tryz.prog W 0 (fun _ => true) true t v d p) : ∃ l, List1 f W v l ∧ ∀ x ∈ l, P x := by
  obtain ⟨a0, len, cap, rfl⟩ := okWide_slice hu hok
  obtain ⟨fuel, hf⟩ := h
  have hlt := DataW.trod_lt fuel _ _ _ hf
  rcases open_slice1 hu hc hf with ⟨hcs, hx⟩ | ⟨a, len', cap', m, n, V, D, Pl, hcs, _, hl, hm, hmm, hx0, hx⟩
  · simp [Value.cells] at hcs
    obtain ⟨rfl, rfl, rfl⟩ := hcs
    exact ⟨[], .inl ⟨none, 0, rfl, rfl⟩, by simp⟩
  · simp [Value.cells] at hcs
    obtain ⟨rfl, rfl, rfl⟩ := hcs
    simp only [if_true] at hmm
    by_cases h0 : len = 0
    · subst h0; exact ⟨[], .inl ⟨_, _, rfl, rfl⟩, by simp⟩
    simp only [Prod.mk.injEq] at hx0
    obtain ⟨hd0, hp0⟩ := hx0
    have hV : ∀ i, i < len → ∃ b : α, W.cell? (a.add i) = some (f b) ∧ P b := fun i hi => by
      obtain ⟨h1, h2⟩ := hx i (by omega)
      obtain ⟨b, hb, hp⟩ := hr _ _ _ h2
      exact ⟨b, by rw [h1, hb], hp⟩
    haveI : Inhabited α := ⟨(hV 0 (by omega)).choose⟩
    obtain ⟨F, hF⟩ := choose_lt hV
    obtain ⟨b, off, spot⟩ := a
    have hspot : spot = none := by simpa [Addr.add] using World.cell?_spot (hF 0 (by omega)).1
    subst hspot
    have hbW : b < W.heap.size := hlt (.cell b off) (by rw [hp0]; exact List.mem_append_left _ (MemPlace.mem_row.2 ⟨0, by omega, by simp⟩))
    refine ⟨(List.range len).map F, .inr ⟨b, off, cap, by simp, hbW, fun i u hu => ?_⟩, fun x hx => ?_⟩
    · rw [List.getElem?_map] at hu
      have hi : i < len := by
        by_cases hi : i < len
        · exact hi
        · rw [List.getElem?_eq_none (by simp; omega)] at hu; cases hu
      rw [List.getElem?_range hi] at hu
      simp only [Option.map_some, Option.some.injEq] at hu
      rw [← hu]
      have hadd : (⟨b, off, none⟩ : Addr).add i = ⟨b, off + i, none⟩ := by unfold Addr.add; split <;> simp_all
      rw [← hadd]
      exact (hF i hi).1
    · obtain ⟨i, hi, rfl⟩ := List.mem_map.1 hx
      exact (hF i (List.mem_range.1 hi)).2
theorem ints_of_trod {v : Value} {d : DataW H} {p : List MemPlace} {base : Nat} (hok : Value.okWide Tryz.prog W .any base 92 v) (h : DataW.Trod enc Tryz.prog W 0 (fun _ => true) true 92 v d p) : ∃ l, List1 (Value.int .i64) W v l ∧ ∀ x ∈ l, (Lit.int .i64 x).wf = true := by
  exact list1_of_trod (f := Value.int .i64) (P := fun x => (Lit.int .i64 x).wf = true) Tryz.underlying92 (by kernel_rfl) (fun n c x hx => by
    obtain ⟨b, hb, _, hw⟩ := DataW.trod_int Tryz.underlying3 hx
    simp only [List.cons.injEq, and_true] at hb
    exact ⟨b, hb, hw⟩) hok h
theorem wf_int {x : Int} (h : (Lit.int .i64 x).wf = true) : -9223372036854775808 ≤ x ∧ x < 9223372036854775808 := by
  simp [Lit.wf, IntKind.min, IntKind.max, IntKind.signed, IntKind.bits] at h
  omega
end
end Go.Proofs.YtoopaigpjefonaaGreatDoor

namespace Go.Proofs.YtoopaigpjefonaaGreatDoor
set_option maxRecDepth 20000
open Go.RowKit

theorem repeatL_one : ∀ n : Nat, Lib.repeatL ([0] : List UInt8) n = List.replicate n 0
  | 0 => rfl
  | n + 1 => by
    rw [List.replicate_succ, ← repeatL_one n]
    rfl
theorem blank512_eq : (⟨(Lib.repeatL (⟨#[0]⟩ : ByteArray).data.toList 512).toArray⟩ : ByteArray) = fillS 0 512 := by
  rw [show (⟨#[0]⟩ : ByteArray).data.toList = ([0] : List UInt8) from rfl, repeatL_one]
  unfold fillS strOfNums
  rw [List.map_replicate, List.map_replicate]
  rfl
theorem zeros512_any (w : World) : Calls Tryz.prog 106 #[.int .i64 512] w fun e w' => e = .returned (.string (fillS 0 512)) ∧ Below w.heap.size w w' := by
  have hr : ∀ w, Calls Tryz.prog 46 #[.string ⟨#[0]⟩, .int .i64 512] w fun e w' => e = .returned (.string (fillS 0 512)) ∧ Below w.heap.size w w' := fun w => by
    have h := Any.strings_Repeat pl_lays105 pl_Builder_Extra_105 ⟨#[0]⟩ 512 w (by decide) (by decide)
    rw [blank512_eq] at h
    exact h
  generalize fillS 0 512 = z at *
  go_enter Tryz.func106, Tryz.ntmps106
  go_wp2_with fail
  refine (hr _).mono ?_
  rintro e w1 ⟨rfl, hb⟩
  have HB : Hid _ := hb
  clear hb hr
  go_wp2
  go_ret
  exact ⟨rfl, HB.out⟩
/-- What an image has at an address. -/
def atB (raws : List ByteArray) (masks : List Int) (a : Int) : Bool := decide (0 ≤ a ∧ a < (raws.length : Nat) ∧ a < (masks.length : Nat) ∧ (raws.getD a.toNat ⟨#[]⟩).size = 512)
def atS (raws : List ByteArray) (masks : List Int) (a : Int) : ByteArray := if atB raws masks a then raws.getD a.toNat ⟨#[]⟩ else fillS 0 512
def atM (raws : List ByteArray) (masks : List Int) (a : Int) : Int := if atB raws masks a then masks.getD a.toNat 0 else 255
set_option maxHeartbeats 4000000 in
theorem at_any (w : World) (oa ob : Option Addr) (ca cb : Nat) (raws : List ByteArray) (masks : List Int) (a : Int) (h1 : List1 Value.string w (.slice oa raws.length ca) raws) (h2 : List1 (Value.int .i64) w (.slice ob masks.length cb) masks) :
    Calls Tryz.prog 143 #[.agg #[.slice oa raws.length ca, .slice ob masks.length cb], .int .i64 a] w fun e w' => e = .returned (.tuple #[.string (atS raws masks a), .int .i64 (atM raws masks a)]) ∧ Below w.heap.size w w' := by
  have hb0 : Below w.heap.size w (w.alloc (.cells #[.slice oa raws.length ca, .slice ob masks.length cb] 131)) := (Below.refl _ _).alloc (Nat.le_refl _) _
  have hr0 : Row (w.alloc (.cells #[.slice oa raws.length ca, .slice ob masks.length cb] 131)) w.heap.size 131 [.slice oa raws.length ca, .slice ob masks.length cb] := heap_alloc_new w _
  obtain ⟨rl, hrl⟩ : ∃ rl, rl = raws.length := ⟨_, rfl⟩
  obtain ⟨ml, hml⟩ : ∃ ml, ml = masks.length := ⟨_, rfl⟩
  have HL : Hid (rl = raws.length ∧ ml = masks.length) := ⟨hrl, hml⟩
  have H12 : Hid (List1 Value.string w (.slice oa raws.length ca) raws ∧ List1 (Value.int .i64) w (.slice ob masks.length cb) masks) := ⟨h1, h2⟩
  rw [← hrl, ← hml] at hb0 hr0 ⊢
  have hz := fun w => zeros512_any w
  obtain ⟨z, hzz⟩ : ∃ z, z = fillS 0 512 := ⟨_, rfl⟩
  have HZ : Hid (z = fillS 0 512) := hzz
  rw [← hzz] at hz
  clear hzz h1 h2
  obtain ⟨w1, hw1⟩ : ∃ w1, w.alloc (.cells #[.slice oa rl ca, .slice ob ml cb] 131) = w1 := ⟨_, rfl⟩
  rw [hw1] at hb0 hr0
  have c0 : w1.cell? ⟨w.heap.size, 0, none⟩ = some (.slice oa rl ca) := hr0.cell 0
  have c1 : w1.cell? ⟨w.heap.size, 1, none⟩ = some (.slice ob ml cb) := hr0.cell 1
  have HB0 : Hid (Below w.heap.size w w1) := hb0
  by_cases hin : 0 ≤ a ∧ a < (rl : Nat) ∧ a < (ml : Nat)
  · obtain ⟨i, rfl⟩ : ∃ i : Nat, a = i := ⟨a.toNat, by omega⟩
    obtain ⟨x, hx⟩ : ∃ x, raws[i]? = some x := ⟨_, List.getElem?_eq_getElem (by omega)⟩
    obtain ⟨y, hy⟩ : ∃ y, masks[i]? = some y := ⟨_, List.getElem?_eq_getElem (by omega)⟩
    obtain ⟨g, o, rfl, hg, hxs⟩ := H12.out.1.get (i := i) (by omega)
    obtain ⟨g2, o2, rfl, hg2, hys⟩ := H12.out.2.get (i := i) (by omega)
    have d0 : w1.cell? ⟨g, o + i, none⟩ = some (.string x) := (cell_kept_1 (HB0.out.block g hg) _).trans (hxs i x hx)
    have d1 : w1.cell? ⟨g2, o2 + i, none⟩ = some (.int .i64 y) := (cell_kept_1 (HB0.out.block g2 hg2) _).trans (hys i y hy)
    have i1 : (i : Int) < (rl : Nat) := hin.2.1
    have i2 : (i : Int) < (ml : Nat) := hin.2.2
    have n1 : decide (rl ≤ i) = false := decide_eq_false (by omega)
    have n2 : decide (ml ≤ i) = false := decide_eq_false (by omega)
    have hwh := fun w => whole_any x w
    have hgd : raws.getD i ⟨#[]⟩ = x := by rw [List.getD_eq_getElem?_getD, hx]; rfl
    have hgm : masks.getD i 0 = y := by rw [List.getD_eq_getElem?_getD, hy]; rfl
    by_cases h512 : x.size = 512
    · have hyes : atB raws masks (i : Int) = true := decide_eq_true ⟨by omega, by rw [← hrl]; exact hin.2.1, by rw [← hml]; exact hin.2.2, by rw [Int.toNat_natCast, hgd]; exact h512⟩
      have HF : Hid (atS raws masks (i : Int) = x ∧ atM raws masks (i : Int) = y) := ⟨by unfold atS; rw [hyes, Int.toNat_natCast, hgd]; rfl, by unfold atM; rw [hyes, Int.toNat_natCast, hgm]; rfl⟩
      rw [HF.out.1, HF.out.2]
      rw [decide_eq_true h512] at hwh
      have hcl := fun w => clone_any x w (by omega)
      have HX : Hid (∀ w', Below w1.heap.size w1 w' → w'.cell? ⟨w.heap.size, 0, none⟩ = some (.slice (some ⟨g, o, none⟩) rl ca) ∧ w'.cell? ⟨w.heap.size, 1, none⟩ = some (.slice (some ⟨g2, o2, none⟩) ml cb) ∧ w'.cell? ⟨g, o + i, none⟩ = some (.string x) ∧ w'.cell? ⟨g2, o2 + i, none⟩ = some (.int .i64 y)) := fun w' hb => by
        have hz1 := HB0.out.size
        exact ⟨(cell_kept_1 (hb.block _ hr0.lt) _).trans c0, (cell_kept_1 (hb.block _ hr0.lt) _).trans c1, (cell_kept_1 (hb.block g (by omega)) _).trans d0, (cell_kept_1 (hb.block g2 (by omega)) _).trans d1⟩
      clear hrl hml hb0 hr0 hin hx hy hxs hys hgd hgm hyes h512 hz H12
      go_enter Tryz.func143, Tryz.ntmps143
      go_wp2_with fail
      refine (hwh _).mono ?_
      rintro e w2 ⟨rfl, rfl⟩
      clear hwh
      go_wp2_with fail
      go_region_held3 (fun w' => w'.cell? ⟨w.heap.size, 0, none⟩ = some (.slice (some ⟨g, o, none⟩) rl ca) ∧ w'.cell? ⟨w.heap.size, 1, none⟩ = some (.slice (some ⟨g2, o2, none⟩) ml cb) ∧ w'.cell? ⟨g, o + i, none⟩ = some (.string x) ∧ w'.cell? ⟨g2, o2 + i, none⟩ = some (.int .i64 y)) (first | exact hSc | exact ⟨c0, c1, d0, d1⟩ | simp [go_sem, *]) (first | (go_at_call 170; refine (hcl _).mono ?_; rintro e wc ⟨rfl, hbc⟩; have hSc := HX.out wc ((Below.refl _ _).drew.trans hbc)))
      have HF2 : Hid (Below w.heap.size w wc) := HB0.out.drew.trans (hbc.mono HB0.out.size)
      clear hbc hSc HX hw1
      go_wp2
      go_ret2
      exact ⟨rfl, HF2.out⟩
    · have hno : atB raws masks (i : Int) = false := decide_eq_false fun h => h512 (by have := h.2.2.2; rwa [Int.toNat_natCast, hgd] at this)
      have HF : Hid (atS raws masks (i : Int) = z ∧ atM raws masks (i : Int) = 255) := ⟨by unfold atS; rw [hno, HZ.out]; rfl, by unfold atM; rw [hno]; rfl⟩
      rw [HF.out.1, HF.out.2]
      rw [decide_eq_false h512] at hwh
      clear hrl hml hb0 hr0 hin hx hy hxs hys hgd hgm hno h512 H12
      go_enter Tryz.func143, Tryz.ntmps143
      go_wp2_with fail
      refine (hwh _).mono ?_
      rintro e w2 ⟨rfl, rfl⟩
      clear hwh
      go_wp2_with fail
      refine (hz _).mono ?_
      rintro e w3 ⟨rfl, hb3⟩
      have HF2 : Hid (Below w.heap.size w w3) := HB0.out.trans (hb3.mono HB0.out.size)
      clear hb3 hz hw1
      go_wp2
      go_ret2
      exact ⟨rfl, HF2.out⟩
  · have hno : atB raws masks a = false := by
      refine decide_eq_false fun h => hin ⟨h.1, ?_, ?_⟩
      · rw [hrl]; exact h.2.1
      · rw [hml]; exact h.2.2.1
    have HF : Hid (atS raws masks a = z ∧ atM raws masks a = 255) := ⟨by unfold atS; rw [hno, HZ.out]; rfl, by unfold atM; rw [hno]; rfl⟩
    rw [HF.out.1, HF.out.2]
    clear hrl hml hno hb0 hr0
    by_cases ha0 : a < 0
    · clear hin
      go_enter Tryz.func143, Tryz.ntmps143
      go_wp2_with fail
      refine (hz _).mono ?_
      rintro e w2 ⟨rfl, hb2⟩
      have HF2 : Hid (Below w.heap.size w w2) := HB0.out.trans (hb2.mono HB0.out.size)
      clear hb2 hz
      go_wp2
      go_ret2
      exact ⟨rfl, HF2.out⟩
    · have n0 : decide (a < 0) = false := decide_eq_false ha0
      by_cases hr : (rl : Int) ≤ a
      · clear hin
        go_enter Tryz.func143, Tryz.ntmps143
        go_wp2_with fail
        refine (hz _).mono ?_
        rintro e w2 ⟨rfl, hb2⟩
        have HF2 : Hid (Below w.heap.size w w2) := HB0.out.trans (hb2.mono HB0.out.size)
        clear hb2 hz
        go_wp2
        go_ret2
        exact ⟨rfl, HF2.out⟩
      · have n1 : decide ((rl : Int) ≤ a) = false := decide_eq_false hr
        have n2 : (ml : Int) ≤ a := by omega
        clear hin
        go_enter Tryz.func143, Tryz.ntmps143
        go_wp2_with fail
        refine (hz _).mono ?_
        rintro e w2 ⟨rfl, hb2⟩
        have HF2 : Hid (Below w.heap.size w w2) := HB0.out.trans (hb2.mono HB0.out.size)
        clear hb2 hz
        go_wp2
        go_ret2
        exact ⟨rfl, HF2.out⟩
end Go.Proofs.YtoopaigpjefonaaGreatDoor
