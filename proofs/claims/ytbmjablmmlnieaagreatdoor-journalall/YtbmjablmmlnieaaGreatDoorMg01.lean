/- pack.Put, called with any two numbers, tells the bytes putS and the error putE, and changes nothing that was there. · pack.isZero, called with any text, tells whether all its bytes are 0 (by strings.Trim at the cutset of the one byte 0), and changes nothing. · Numbers read out of a text, each in its width, are laid as the text's bytes; nothing of the program. · pack.Get, called with any text and any two numbers, tells the number getN and the error getE, and changes nothing. -/
import Derived.Test.YtbmjablmmlnieaaGreatDoorRows
import Derived.Test.YtbmjablmmlnieaaGreatDoorMg00
import Derived.WalkKit
import Derived.WalkSpells
import Derived.WalkLawsBesides
import Derived.Below
import Derived.BigQuiet
import Derived.Deep.RegionHeld3
import Derived.Deep.QuietTactic
namespace Go.Proofs.YtbmjablmmlnieaaGreatDoor
set_option maxRecDepth 20000
open Go.RowKit
theorem info5 : (Tryz.prog.info? 5).map (fun i => (i.zero, i.size, i.bytes)) = some (some (.int .u8 0), 1, 1) := by kernel_rfl

theorem put_noWidth (n k : Int) (h : k < 1 ∨ 6 < k) (w : World) :
    Calls Tryz.prog 74 #[.int .i64 n, .int .i64 k] w fun e w' => e = .returned (.tuple #[.string ByteArray.empty, .int .i64 1]) ∧ w' = w := by
  rcases h with h | h
  · go_enter Tryz.func74, Tryz.ntmps74
    go_wp2
    go_ret2
    exact ⟨rfl, rfl⟩
  · have h1 : 1 ≤ k := by omega
    have hd : decide (k ≤ 6) = false := by simp; omega
    go_enter Tryz.func74, Tryz.ntmps74
    go_wp2
    go_ret2
    exact ⟨rfl, rfl⟩

theorem put_below (n : Int) (k : Nat) (h1 : 1 ≤ k) (h2 : k ≤ 6) (h : n < 0) (w : World) :
    Calls Tryz.prog 74 #[.int .i64 n, .int .i64 k] w fun e w' => e = .returned (.tuple #[.string ByteArray.empty, .int .i64 2]) ∧ w' = w := by
  have a1 : (1 : Int) ≤ k := by omega
  have a2 : (k : Int) ≤ 6 := by omega
  go_enter Tryz.func74, Tryz.ntmps74
  go_wp2
  go_ret2
  exact ⟨rfl, rfl⟩

theorem put_above (n : Int) (k : Nat) (h1 : 1 ≤ k) (h2 : k ≤ 6) (h0 : 0 ≤ n) (h : 256 ^ k ≤ n) (w : World) :
    Calls Tryz.prog 74 #[.int .i64 n, .int .i64 k] w fun e w' => e = .returned (.tuple #[.string ByteArray.empty, .int .i64 2]) ∧ w' = w := by
  have a1 : (1 : Int) ≤ k := by omega
  have a2 : (k : Int) ≤ 6 := by omega
  have hd : (n / 2 ^ (8 * k) == 0) = false := by
    rw [pow_eq, beq_eq_false_iff_ne]
    intro e
    have hp : (0 : Int) < 256 ^ k := Int.pow_pos (by decide)
    have := (Int.le_ediv_iff_mul_le (c := 256 ^ k) (a := 1) (b := n) hp).2 (by omega)
    omega
  clear h
  go_enter Tryz.func74, Tryz.ntmps74
  go_wp2
  go_ret2
  exact ⟨rfl, rfl⟩

set_option maxHeartbeats 400000 in
theorem put_ok (n : Int) (k : Nat) (h1 : 1 ≤ k) (h2 : k ≤ 6) (h0 : 0 ≤ n) (h : n < 256 ^ k) (w : World) :
    Calls Tryz.prog 74 #[.int .i64 n, .int .i64 k] w fun e w' => e = .returned (.tuple #[.string (strOfNums (leI k n)), .int .i64 0]) ∧ Below w.heap.size w w' := by
  have a1 : (1 : Int) ≤ k := by omega
  have a2 : (k : Int) ≤ 6 := by omega
  have hd : (n / 2 ^ (8 * k) == 0) = true := by
    rw [pow_eq, beq_iff_eq]
    exact Int.ediv_eq_zero_of_lt h0 h
  clear h
  obtain ⟨i0, hi, hz0, hz1, hz2⟩ := info_parts info5
  go_enter Tryz.func74, Tryz.ntmps74
  go_wp2_with (first | (at_make; refine wpList_make_full _ rfl _ _ 92 rfl w.heap.size 5 i0 (.int .u8 0) 1 Tryz.underlying92 hi hz0 hz1 .i64 .i64 _ _ k rfl rfl rfl rfl ?c1 ?c2 (Nat.le_refl _) ?_) | go_in)
  case c1 => rw [hz2]; omega
  case c2 => unfold maxLen; omega
  intro w1 hown1 hgrow1
  have hb1 : Below w.heap.size w w1 := (Below.refl _ _).grown hgrow1 (Nat.le_refl _) (fun k hk => by simp at hk)
  have hown2 : w1.ownsRow w.heap.size 5 1 (.slice (some ⟨w.heap.size, 0, none⟩) k k) k ((putRow k 0 n).map (Value.int .u8)) := by
    rw [putRow_zero]; simpa [toList_madeCells_one, List.map_replicate, Value.cells] using hown1
  clear hown1 hgrow1
  go_wp2
  go_loopw [19] (fun i wr => ∃ j : Nat, j ≤ k ∧ i = .int .i64 j ∧ wr.ownsRow w.heap.size 5 1 (.slice (some ⟨w.heap.size, 0, none⟩) k k) k ((putRow k j n).map (Value.int .u8)) ∧ Below w.heap.size w wr) (fun i _ => k - (intOf i).toNat)
  case atStart => exact ⟨0, Nat.zero_le _, rfl, hown2, hb1⟩
  case round =>
    obtain ⟨j, hj, rfl, hown, hb⟩ := hrel
    clear hown2 hb1
    by_cases hlt : j < k
    · have hf := hown.frozenAt j
      have hc : ∃ v, wr.cell? ⟨w.heap.size, j, none⟩ = some v := by
        rw [hown.cellAt j (by omega)]
        exact ⟨_, List.getElem?_eq_getElem (by simp [putRow_length k j n hj]; omega)⟩
      obtain ⟨v0, hv0⟩ := hc
      go_wp2
      go_roundw
      case rel =>
        have hst := (hown.stored j (.int .u8 (n / 2 ^ (8 * j) % 256))).1
        rw [← List.map_set] at hst
        rw [pow_eq, putRow_set _ _ _ hlt] at hst
        exact ⟨j + 1, by omega, by go_num, by rw [pow_eq]; exact hst, hb.setCell (Nat.le_refl _) _⟩
      case measure => simp [intOf]; omega
    · have hjk : j = k := by omega
      subst hjk
      rw [putRow_full] at hown
      have hcv := run_convert_bytes_arg (P := Tryz.prog) wr 92 5 Tryz.underlying92 Tryz.underlying5 w.heap.size 0 j j (leI j n) (leI_length j n) (fun i hi => by
        rw [Nat.zero_add, hown.cellAt i (by omega)]
        simp [leI_length, hi, List.getD]) 9 Tryz.underlying9
      go_wp2
      go_ret2
      exact ⟨rfl, hb⟩

/-- pack.Put, whatever it is handed. -/
theorem put_any (n k : Int) (w : World) :
    Calls Tryz.prog 74 #[.int .i64 n, .int .i64 k] w fun e w' => e = .returned (.tuple #[.string (putS n k), .int .i64 (putE n k)]) ∧ Below w.heap.size w w' := by
  by_cases hk : k < 1 ∨ 6 < k
  · refine (put_noWidth n k hk w).mono fun e w' ⟨he, hw⟩ => ?_
    rw [putS_noWidth hk, putE_noWidth hk]
    exact ⟨he, hw ▸ Below.refl _ _⟩
  · obtain ⟨m, rfl⟩ := Int.eq_ofNat_of_zero_le (show 0 ≤ k by omega)
    have h1 : 1 ≤ m := by omega
    have h2 : m ≤ 6 := by omega
    by_cases hn : n < 0
    · refine (put_below n m h1 h2 hn w).mono fun e w' ⟨he, hw⟩ => ?_
      rw [putS_noRoom (.inl hn), putE_noRoom h1 h2 (.inl hn)]
      exact ⟨he, hw ▸ Below.refl _ _⟩
    by_cases hn2 : 256 ^ m ≤ n
    · refine (put_above n m h1 h2 (by omega) hn2 w).mono fun e w' ⟨he, hw⟩ => ?_
      rw [putS_noRoom (.inr hn2), putE_noRoom h1 h2 (.inr hn2)]
      exact ⟨he, hw ▸ Below.refl _ _⟩
    · rw [putS_ok h1 h2 (by omega) (by omega), putE_ok h1 h2 (by omega) (by omega)]
      exact put_ok n m h1 h2 (by omega) (by omega) w
end Go.Proofs.YtbmjablmmlnieaaGreatDoor

namespace Go.Proofs.YtbmjablmmlnieaaGreatDoor
set_option maxRecDepth 20000
open Go.RowKit

/-- Are all bytes of a text 0? -/
def allZ (t : ByteArray) : Bool := t.data.toList.all (· == 0)
def strLen : Value → Nat
  | .string t => t.size
  | _ => 0
theorem allZ_cons (t : ByteArray) (h : 0 < t.size) (h0 : t[0].toNat = 0) : allZ (t.extract 1 t.size) = allZ t := by
  have hl : t.data.toList.length = t.size := by simp
  unfold allZ
  rw [Lib.extract_data]
  have e : t.data.toList = t[0] :: t.data.toList.drop 1 := by
    have := List.drop_eq_getElem_cons (l := t.data.toList) (i := 0) (by omega)
    rw [List.drop_zero] at this
    exact this
  have e0 : t[0] = 0 := UInt8.toNat_inj.1 h0
  rw [List.take_of_length_le (by simp)]
  conv => rhs; rw [e]
  simp [e0]
theorem allZ_snoc (t : ByteArray) (n : Nat) (h : t.size = n + 1) (h0 : (t[n]'(by omega)).toNat = 0) : allZ (t.extract 0 n) = allZ t := by
  have hl : t.data.toList.length = t.size := by simp
  unfold allZ
  rw [Lib.extract_data]
  have e : t.data.toList = t.data.toList.take n ++ [t[n]'(by omega)] := by
    have := List.take_succ_eq_append_getElem (l := t.data.toList) (i := n) (by omega)
    rw [List.take_of_length_le (by omega)] at this
    exact this
  have e0 : t[n]'(by omega) = 0 := UInt8.toNat_inj.1 h0
  simp only [List.drop_zero, Nat.sub_zero]
  conv => rhs; rw [e]
  simp [e0]
theorem allZ_first (t : ByteArray) (h : 0 < t.size) (h0 : ¬ t[0].toNat = 0) : allZ t = false := by
  have hl : t.data.toList.length = t.size := by simp
  unfold allZ
  have e : t.data.toList = t[0] :: t.data.toList.drop 1 := by
    have := List.drop_eq_getElem_cons (l := t.data.toList) (i := 0) (by omega)
    rw [List.drop_zero] at this
    exact this
  rw [e]
  have : t[0] ≠ 0 := fun hh => h0 (by rw [hh]; rfl)
  simp [this]
theorem allZ_nil (t : ByteArray) (h : t.size = 0) : allZ t = true := by
  obtain rfl : t = ByteArray.empty := by simpa using h
  rfl

theorem toList_full {s : ByteArray} (h : 0 < s.size) : s.toList.isEmpty = false := by
  rw [ByteArray.toList_eq, ← Bool.not_eq_true, List.isEmpty_iff]
  intro e
  have : s.data.toList.length = s.size := by simp
  rw [e] at this
  simp at this
  omega
theorem toList_void {s : ByteArray} (h : s.size = 0) : s.toList.isEmpty = true := by
  obtain rfl : s = ByteArray.empty := by simpa using h
  rw [ByteArray.toList_eq]
  rfl

set_option maxHeartbeats 400000 in
theorem trimLeft_zero (s : ByteArray) (_hs : s.size ≤ maxLen) (w : World) :
    Calls Tryz.prog 139 #[.string s, .int .u8 0] w fun e w' => (∃ t, e = .returned (.string t) ∧ t.toList.isEmpty = allZ s) ∧ w' = w := by
  unfold maxLen at _hs
  go_enter Tryz.func139, Tryz.ntmps139
  go_wp2
  go_loop [0] (fun v => ∃ t : ByteArray, v = .string t ∧ t.size ≤ s.size ∧ allZ t = allZ s) (fun v => strLen v)
  case atStart => exact ⟨s, rfl, Nat.le_refl _, rfl⟩
  case round =>
    obtain ⟨t, rfl, ht, hz⟩ := hrel
    have HZ : Hid (allZ t = allZ s) := hz
    clear hz
    by_cases h0 : 0 < t.size
    · have h0' : (0 : Int) < t.size := by omega
      by_cases hb : t[0].toNat = 0
      · have hb' : ((t[0].toNat : Int) == 0) = true := by simp [hb]
        have HB : Hid (t[0].toNat = 0) := hb
        clear hb
        go_wp2
        go_round
        case rel => exact ⟨_, rfl, by simp; omega, by rw [allZ_cons t h0 HB.out]; exact HZ.out⟩
        case measure => simp [strLen]; omega
      · have hb' : ((t[0].toNat : Int) == 0) = false := by simp; omega
        have HB : Hid (¬ t[0].toNat = 0) := hb
        clear hb
        go_wp2
        go_ret
        refine ⟨⟨t, rfl, ?_⟩, rfl⟩
        rw [← HZ.out, allZ_first t h0 HB.out]
        exact toList_full h0
    · have h0' : ¬ (0 : Int) < t.size := by omega
      go_wp2
      go_ret
      refine ⟨⟨t, rfl, ?_⟩, rfl⟩
      rw [← HZ.out, allZ_nil t (by omega)]
      exact toList_void (by omega)

set_option maxHeartbeats 400000 in
theorem trimRight_zero (s : ByteArray) (hs : s.size ≤ maxLen) (w : World) :
    Calls Tryz.prog 140 #[.string s, .int .u8 0] w fun e w' => (∃ t : ByteArray, e = .returned (.string t) ∧ t.size ≤ s.size ∧ allZ t = allZ s) ∧ w' = w := by
  unfold maxLen at hs
  go_enter Tryz.func140, Tryz.ntmps140
  go_wp2
  go_loop [0] (fun v => ∃ t : ByteArray, v = .string t ∧ t.size ≤ s.size ∧ allZ t = allZ s) (fun v => strLen v)
  case atStart => exact ⟨s, rfl, Nat.le_refl _, rfl⟩
  case round =>
    obtain ⟨t, rfl, ht, hz⟩ := hrel
    have HZ : Hid (allZ t = allZ s) := hz
    clear hz
    by_cases h0 : 0 < t.size
    · have h0' : (0 : Int) < t.size := by omega
      have hlast : t.size - 1 < t.size := by omega
      by_cases hb : t[t.size - 1].toNat = 0
      · have hb' : ((t[t.size - 1].toNat : Int) == 0) = true := by simp [hb]
        have HB : Hid (t[t.size - 1].toNat = 0) := hb
        clear hb
        go_wp2
        go_round
        case rel => exact ⟨_, rfl, by simp; omega, by rw [allZ_snoc t (t.size - 1) (by omega) HB.out]; exact HZ.out⟩
        case measure => simp [strLen]; omega
      · have hb' : ((t[t.size - 1].toNat : Int) == 0) = false := by simp; omega
        clear hb
        go_wp2
        go_ret
        exact ⟨⟨t, rfl, ht, HZ.out⟩, rfl⟩
    · have h0' : ¬ (0 : Int) < t.size := by omega
      go_wp2
      go_ret
      exact ⟨⟨t, rfl, ht, HZ.out⟩, rfl⟩

set_option maxRecDepth 100000 in
set_option maxHeartbeats 400000 in
theorem trim_zero (s : ByteArray) (hs : s.size ≤ maxLen) (w : World) :
    Calls Tryz.prog 134 #[.string s, .string ⟨#[0]⟩] w fun e w' => (∃ t, e = .returned (.string t) ∧ t.toList.isEmpty = allZ s) ∧ Below w.heap.size w w' := by
  by_cases h0 : s.size = 0
  · have he := toList_void h0
    go_enter Tryz.func134, Tryz.ntmps134
    go_wp2
    go_ret
    exact ⟨⟨s, rfl, by rw [he, allZ_nil s h0]⟩, Below.refl _ _⟩
  · have he := toList_full (show 0 < s.size by omega)
    go_enter Tryz.func134, Tryz.ntmps134
    go_wp2
    go_region_held3 (fun _ => True) (trivial) (first | (go_at_call 140; refine (trimRight_zero s hs _).mono ?_; rintro e w' ⟨⟨t, rfl, ht, hz⟩, rfl⟩) | (go_at_call 139; refine (trimLeft_zero _ (Nat.le_trans (by assumption) hs) _).mono ?_; rintro e w' ⟨⟨t2, rfl, hz2⟩, rfl⟩))
    all_goals
      go_wp2
      go_ret
      exact ⟨⟨_, rfl, hz2.trans hz⟩, by repeat (first | exact Below.refl _ _ | apply Below.drew)⟩

theorem isZero_any (s : ByteArray) (hs : s.size ≤ maxLen) (w : World) :
    Calls Tryz.prog 123 #[.string s] w fun e w' => e = .returned (.bool (allZ s)) ∧ Below w.heap.size w w' := by
  go_enter Tryz.func123, Tryz.ntmps123
  go_wp2_with fail
  refine (trim_zero s hs _).mono ?_
  rintro e w1 ⟨⟨t, rfl, hz⟩, hb⟩
  have HZ : Hid (t.toList.isEmpty = allZ s) := hz
  clear hz
  go_wp2
  go_ret
  exact ⟨by rw [← HZ.out]; rfl, hb⟩
end Go.Proofs.YtbmjablmmlnieaaGreatDoor

namespace Go.Proofs.YtbmjablmmlnieaaGreatDoor
set_option maxRecDepth 20000

theorem leI_cons (k : Nat) (n : Int) : leI (k + 1) n = n % 256 :: leI k (n / 256) := by
  have e : ∀ i : Nat, n / 256 ^ (i + 1) % 256 = n / 256 / 256 ^ i % 256 := fun i => by
    rw [Int.ediv_ediv_of_nonneg (by decide), Int.pow_succ, Int.mul_comm]
  simp only [leI, List.range_succ_eq_map, List.map_cons, List.map_map, Function.comp_def, Nat.succ_eq_add_one, e, Int.pow_zero, Int.ediv_one]
theorem leI_leVal : ∀ l : List UInt8, leI l.length (leVal l) = l.map fun x => (x.toNat : Int)
  | [] => rfl
  | b :: r => by
    have hb : b.toNat < 256 := b.toNat_lt
    rw [List.length_cons, leI_cons, leVal, show ((b.toNat : Int) + 256 * leVal r) % 256 = b.toNat by omega, show ((b.toNat : Int) + 256 * leVal r) / 256 = leVal r by omega, leI_leVal r]
    rfl
theorem put_back (l : List UInt8) (k : Nat) (hl : l.length = k) (h1 : 1 ≤ k) (h6 : k ≤ 6) : putE (leVal l) k = 0 ∧ putS (leVal l) k = ⟨l.toArray⟩ := by
  subst hl
  refine ⟨putE_ok h1 h6 (leVal_nonneg l) (leVal_lt l), ?_⟩
  rw [putS_ok h1 h6 (leVal_nonneg l) (leVal_lt l), leI_leVal, str_map_nums]
/-- The numbers of bytes from a place on, each with its width. -/
def pairsOf (L : List UInt8) : Nat → List Nat → List (Int × Int)
  | _, [] => []
  | a, k :: r => (leVal ((L.drop a).take k), (k : Int)) :: pairsOf L (a + k) r
theorem pairs_laid (L : List UInt8) : ∀ (ws : List Nat) (a : Nat), (∀ k ∈ ws, 1 ≤ k ∧ k ≤ 6) → a + ws.sum ≤ L.length → laidOk (pairsOf L a ws) = true ∧ laidL (pairsOf L a ws) = (L.drop a).take ws.sum
  | [], _, _, _ => ⟨rfl, by simp [pairsOf, laidL]⟩
  | k :: r, a, hk, hl => by
    rw [List.sum_cons] at hl
    obtain ⟨h1, h6⟩ := hk k (List.mem_cons_self ..)
    obtain ⟨i1, i2⟩ := pairs_laid L r (a + k) (fun x hx => hk x (List.mem_cons_of_mem _ hx)) (by omega)
    obtain ⟨p1, p2⟩ := put_back ((L.drop a).take k) k (by rw [List.length_take, List.length_drop]; omega) h1 h6
    refine ⟨?_, ?_⟩
    · rw [pairsOf, laidOk, i1, p1]; rfl
    · rw [pairsOf, laidL, i2, p2, List.sum_cons]
      show (L.drop a).take k ++ _ = _
      rw [← List.drop_drop, List.take_add]
theorem allZ_eq (t : ByteArray) (h : allZ t = true) : t.data.toList = List.replicate t.size 0 := by
  unfold allZ at h
  rw [List.all_eq_true] at h
  refine List.eq_replicate_iff.2 ⟨by simp, fun x hx => ?_⟩
  have := h x hx
  simpa using this
theorem text_cut (s : ByteArray) (a b : Nat) : (s.data.toList.drop a).take (b - a) = (s.extract a b).data.toList := by
  simp
theorem text_zeros (s : ByteArray) (a n : Nat) (hs : s.size = n) (ha : a ≤ n) (h : allZ (s.extract a n) = true) : s.data.toList.drop a = List.replicate (n - a) 0 := by
  have e := allZ_eq _ h
  have hz : (s.extract a n).size = n - a := by simp; omega
  rw [hz, ← text_cut s a n, List.take_of_length_le (by simp; omega)] at e
  exact e
theorem ba_of {s : ByteArray} {l : List UInt8} (h : s.data.toList = l) : (⟨l.toArray⟩ : ByteArray) = s := by
  subst h
  apply ByteArray.ext
  simp
end Go.Proofs.YtbmjablmmlnieaaGreatDoor

namespace Go.Proofs.YtbmjablmmlnieaaGreatDoor
set_option maxRecDepth 20000
open Go.RowKit

theorem get_noWidth (s : ByteArray) (a k : Int) (h : k < 1 ∨ 6 < k) (w : World) :
    Calls Tryz.prog 113 #[.string s, .int .i64 a, .int .i64 k] w fun e w' => e = .returned (.tuple #[.int .i64 0, .int .i64 1]) ∧ w' = w := by
  rcases h with h | h
  · go_enter Tryz.func113, Tryz.ntmps113
    go_wp2
    go_ret2
    exact ⟨rfl, rfl⟩
  · have h1 : 1 ≤ k := by omega
    have hd : decide (k ≤ 6) = false := by simp; omega
    go_enter Tryz.func113, Tryz.ntmps113
    go_wp2
    go_ret2
    exact ⟨rfl, rfl⟩

theorem get_short (s : ByteArray) (a : Int) (k : Nat) (h1 : 1 ≤ k) (h2 : k ≤ 6) (hs : s.size ≤ maxLen) (h : a < 0 ∨ (s.size : Int) - k < a) (w : World) :
    Calls Tryz.prog 113 #[.string s, .int .i64 a, .int .i64 k] w fun e w' => e = .returned (.tuple #[.int .i64 0, .int .i64 3]) ∧ w' = w := by
  unfold maxLen at hs
  have a1 : (1 : Int) ≤ k := by omega
  have a2 : (k : Int) ≤ 6 := by omega
  by_cases hn : a < 0
  · clear h
    go_enter Tryz.func113, Tryz.ntmps113
    go_wp2
    go_ret2
    exact ⟨rfl, rfl⟩
  · have h3 : (s.size : Int) - k < a := by omega
    clear h
    go_enter Tryz.func113, Tryz.ntmps113
    go_wp2
    go_ret2
    exact ⟨rfl, rfl⟩

set_option maxHeartbeats 400000 in
theorem get_ok (s : ByteArray) (a : Nat) (k : Nat) (h1 : 1 ≤ k) (h2 : k ≤ 6) (hs : s.size ≤ maxLen) (h : a + k ≤ s.size) (w : World) :
    Calls Tryz.prog 113 #[.string s, .int .i64 a, .int .i64 k] w fun e w' => e = .returned (.tuple #[.int .i64 (leVal ((s.data.toList.drop a).take k)), .int .i64 0]) ∧ w' = w := by
  unfold maxLen at hs
  have a1 : (1 : Int) ≤ k := by omega
  have a2 : (k : Int) ≤ 6 := by omega
  have a3 : ¬ (s.size : Int) - k < a := by omega
  go_enter Tryz.func113, Tryz.ntmps113
  go_wp2
  go_loop [8, 24] (fun x i => ∃ j : Nat, j ≤ k ∧ i = .int .i64 j ∧ x = .int .i64 (leVal ((s.data.toList.drop a).take j))) (fun _ i => k - (intOf i).toNat)
  case atStart => exact ⟨0, Nat.zero_le _, rfl, by simp [leVal]⟩
  case round =>
    obtain ⟨j, hj, rfl, rfl⟩ := hrel
    by_cases hlt : j < k
    · obtain ⟨q, hq⟩ : ∃ q, q = leVal ((s.data.toList.drop a).take j) := ⟨_, rfl⟩
      have hq0 : 0 ≤ q := by rw [hq]; exact leVal_nonneg _
      rw [← hq]
      have HQ : Hid (q = leVal ((s.data.toList.drop a).take j)) := hq
      clear hq
      have hix : a + j < s.size := by omega
      go_wp2
      go_roundw
      case rel =>
        refine ⟨j + 1, by omega, by go_num, ?_⟩
        have hlt2 : q < 256 ^ j := by rw [HQ.out]; exact numAt_lt s a j
        rw [or_high q _ j (by omega) hq0 hlt2 (by omega) (by have := s[a + j].toNat_lt; omega), numAt_snoc s a j hix, ← HQ.out]
      case measure => simp [intOf]; omega
    · have hjk : j = k := by omega
      subst hjk
      go_wp2
      go_ret2
      exact ⟨rfl, rfl⟩

/-- pack.Get, whatever it is handed. -/
theorem get_any (s : ByteArray) (a k : Int) (hs : s.size ≤ maxLen) (w : World) :
    Calls Tryz.prog 113 #[.string s, .int .i64 a, .int .i64 k] w fun e w' => e = .returned (.tuple #[.int .i64 (getN s a k), .int .i64 (getE s a k)]) ∧ w' = w := by
  by_cases hk : k < 1 ∨ 6 < k
  · rw [getN_no (.inl hk), getE_noWidth hk]
    exact get_noWidth s a k hk w
  · obtain ⟨m, rfl⟩ := Int.eq_ofNat_of_zero_le (show 0 ≤ k by omega)
    have h1 : 1 ≤ m := by omega
    have h2 : m ≤ 6 := by omega
    by_cases ha : a < 0 ∨ (s.size : Int) - m < a
    · rw [getN_no (.inr ha), getE_short (by omega) (by omega) ha]
      exact get_short s a m h1 h2 hs ha w
    · obtain ⟨b, rfl⟩ := Int.eq_ofNat_of_zero_le (show 0 ≤ a by omega)
      have hb : b + m ≤ s.size := by omega
      rw [getN_ok h1 h2 hb, getE_ok h1 h2 hb]
      exact get_ok s b m h1 h2 hs hb w
end Go.Proofs.YtbmjablmmlnieaaGreatDoor
