/- pack.isZero, called with any text, tells whether all its bytes are 0 (by strings.Trim at the cutset of the one byte 0), and changes nothing. -/
import Derived.Test.YtlcadhojfnanfaaDoorPut
import Derived.BigQuiet
import Derived.Deep.RegionHeld3
import Derived.Deep.QuietTactic
namespace Go.Proofs.YtlcadhojfnanfaaDoor
set_option maxRecDepth 20000
open Go.RowKit

/-- Are all bytes of a text 0? -/
def allZ (t : ByteArray) : Bool := t.data.toList.all (· == 0)
def strLen : Value → Nat
  | .string t => t.size
  | _ => 0
theorem allZ_cons (t : ByteArray) (h : 0 < t.size) (h0 : t[0].toNat = 0) : allZ (t.extract 1 t.size) = allZ t := by
  have hl : t.data.toList.length = t.size := by simp
  unfold allZ
  rw [Lib.extract_data]
  have e : t.data.toList = t[0] :: t.data.toList.drop 1 := by
    have := List.drop_eq_getElem_cons (l := t.data.toList) (i := 0) (by omega)
    rw [List.drop_zero] at this
    exact this
  have e0 : t[0] = 0 := UInt8.toNat_inj.1 h0
  rw [List.take_of_length_le (by simp)]
  conv => rhs; rw [e]
  simp [e0]
theorem allZ_snoc (t : ByteArray) (n : Nat) (h : t.size = n + 1) (h0 : (t[n]'(by omega)).toNat = 0) : allZ (t.extract 0 n) = allZ t := by
  have hl : t.data.toList.length = t.size := by simp
  unfold allZ
  rw [Lib.extract_data]
  have e : t.data.toList = t.data.toList.take n ++ [t[n]'(by omega)] := by
    have := List.take_succ_eq_append_getElem (l := t.data.toList) (i := n) (by omega)
    rw [List.take_of_length_le (by omega)] at this
    exact this
  have e0 : t[n]'(by omega) = 0 := UInt8.toNat_inj.1 h0
  simp only [List.drop_zero, Nat.sub_zero]
  conv => rhs; rw [e]
  simp [e0]
theorem allZ_first (t : ByteArray) (h : 0 < t.size) (h0 : ¬ t[0].toNat = 0) : allZ t = false := by
  have hl : t.data.toList.length = t.size := by simp
  unfold allZ
  have e : t.data.toList = t[0] :: t.data.toList.drop 1 := by
    have := List.drop_eq_getElem_cons (l := t.data.toList) (i := 0) (by omega)
    rw [List.drop_zero] at this
    exact this
  rw [e]
  have : t[0] ≠ 0 := fun hh => h0 (by rw [hh]; rfl)
  simp [this]
theorem allZ_nil (t : ByteArray) (h : t.size = 0) : allZ t = true := by
  obtain rfl : t = ByteArray.empty := by simpa using h
  rfl

theorem toList_full {s : ByteArray} (h : 0 < s.size) : s.toList.isEmpty = false := by
  rw [ByteArray.toList_eq, ← Bool.not_eq_true, List.isEmpty_iff]
  intro e
  have : s.data.toList.length = s.size := by simp
  rw [e] at this
  simp at this
  omega
theorem toList_void {s : ByteArray} (h : s.size = 0) : s.toList.isEmpty = true := by
  obtain rfl : s = ByteArray.empty := by simpa using h
  rw [ByteArray.toList_eq]
  rfl

set_option maxHeartbeats 400000 in
theorem trimLeft_zero (s : ByteArray) (_hs : s.size ≤ maxLen) (w : World) :
    Calls Tryd.prog 47 #[.string s, .int .u8 0] w fun e w' => (∃ t, e = .returned (.string t) ∧ t.toList.isEmpty = allZ s) ∧ w' = w := by
  unfold maxLen at _hs
  go_enter Tryd.func47, Tryd.ntmps47
  go_wp2
  go_loop [0] (fun v => ∃ t : ByteArray, v = .string t ∧ t.size ≤ s.size ∧ allZ t = allZ s) (fun v => strLen v)
  case atStart => exact ⟨s, rfl, Nat.le_refl _, rfl⟩
  case round =>
    obtain ⟨t, rfl, ht, hz⟩ := hrel
    have HZ : Hid (allZ t = allZ s) := hz
    clear hz
    by_cases h0 : 0 < t.size
    · have h0' : (0 : Int) < t.size := by omega
      by_cases hb : t[0].toNat = 0
      · have hb' : ((t[0].toNat : Int) == 0) = true := by simp [hb]
        have HB : Hid (t[0].toNat = 0) := hb
        clear hb
        go_wp2
        go_round
        case rel => exact ⟨_, rfl, by simp; omega, by rw [allZ_cons t h0 HB.out]; exact HZ.out⟩
        case measure => simp [strLen]; omega
      · have hb' : ((t[0].toNat : Int) == 0) = false := by simp; omega
        have HB : Hid (¬ t[0].toNat = 0) := hb
        clear hb
        go_wp2
        go_ret
        refine ⟨⟨t, rfl, ?_⟩, rfl⟩
        rw [← HZ.out, allZ_first t h0 HB.out]
        exact toList_full h0
    · have h0' : ¬ (0 : Int) < t.size := by omega
      go_wp2
      go_ret
      refine ⟨⟨t, rfl, ?_⟩, rfl⟩
      rw [← HZ.out, allZ_nil t (by omega)]
      exact toList_void (by omega)

set_option maxHeartbeats 400000 in
theorem trimRight_zero (s : ByteArray) (hs : s.size ≤ maxLen) (w : World) :
    Calls Tryd.prog 48 #[.string s, .int .u8 0] w fun e w' => (∃ t : ByteArray, e = .returned (.string t) ∧ t.size ≤ s.size ∧ allZ t = allZ s) ∧ w' = w := by
  unfold maxLen at hs
  go_enter Tryd.func48, Tryd.ntmps48
  go_wp2
  go_loop [0] (fun v => ∃ t : ByteArray, v = .string t ∧ t.size ≤ s.size ∧ allZ t = allZ s) (fun v => strLen v)
  case atStart => exact ⟨s, rfl, Nat.le_refl _, rfl⟩
  case round =>
    obtain ⟨t, rfl, ht, hz⟩ := hrel
    have HZ : Hid (allZ t = allZ s) := hz
    clear hz
    by_cases h0 : 0 < t.size
    · have h0' : (0 : Int) < t.size := by omega
      have hlast : t.size - 1 < t.size := by omega
      by_cases hb : t[t.size - 1].toNat = 0
      · have hb' : ((t[t.size - 1].toNat : Int) == 0) = true := by simp [hb]
        have HB : Hid (t[t.size - 1].toNat = 0) := hb
        clear hb
        go_wp2
        go_round
        case rel => exact ⟨_, rfl, by simp; omega, by rw [allZ_snoc t (t.size - 1) (by omega) HB.out]; exact HZ.out⟩
        case measure => simp [strLen]; omega
      · have hb' : ((t[t.size - 1].toNat : Int) == 0) = false := by simp; omega
        clear hb
        go_wp2
        go_ret
        exact ⟨⟨t, rfl, ht, HZ.out⟩, rfl⟩
    · have h0' : ¬ (0 : Int) < t.size := by omega
      go_wp2
      go_ret
      exact ⟨⟨t, rfl, ht, HZ.out⟩, rfl⟩

set_option maxRecDepth 100000 in
set_option maxHeartbeats 400000 in
theorem trim_zero (s : ByteArray) (hs : s.size ≤ maxLen) (w : World) :
    Calls Tryd.prog 46 #[.string s, .string ⟨#[0]⟩] w fun e w' => (∃ t, e = .returned (.string t) ∧ t.toList.isEmpty = allZ s) ∧ Below w.heap.size w w' := by
  by_cases h0 : s.size = 0
  · have he := toList_void h0
    go_enter Tryd.func46, Tryd.ntmps46
    go_wp2
    go_ret
    exact ⟨⟨s, rfl, by rw [he, allZ_nil s h0]⟩, Below.refl _ _⟩
  · have he := toList_full (show 0 < s.size by omega)
    go_enter Tryd.func46, Tryd.ntmps46
    go_wp2
    go_region_held3 (fun _ => True) (trivial) (first | (go_at_call 48; refine (trimRight_zero s hs _).mono ?_; rintro e w' ⟨⟨t, rfl, ht, hz⟩, rfl⟩) | (go_at_call 47; refine (trimLeft_zero _ (Nat.le_trans (by assumption) hs) _).mono ?_; rintro e w' ⟨⟨t2, rfl, hz2⟩, rfl⟩))
    all_goals
      go_wp2
      go_ret
      exact ⟨⟨_, rfl, hz2.trans hz⟩, by repeat (first | exact Below.refl _ _ | apply Below.drew)⟩

theorem isZero_any (s : ByteArray) (hs : s.size ≤ maxLen) (w : World) :
    Calls Tryd.prog 42 #[.string s] w fun e w' => e = .returned (.bool (allZ s)) ∧ Below w.heap.size w w' := by
  go_enter Tryd.func42, Tryd.ntmps42
  go_wp2_with fail
  refine (trim_zero s hs _).mono ?_
  rintro e w1 ⟨⟨t, rfl, hz⟩, hb⟩
  have HZ : Hid (t.toList.isEmpty = allZ s) := hz
  clear hz
  go_wp2
  go_ret
  exact ⟨by rw [← HZ.out]; rfl, hb⟩
end Go.Proofs.YtlcadhojfnanfaaDoor
