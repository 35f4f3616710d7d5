/- box.Stream. -/
import Derived.Test.YtolmfhgpdcmhlaaChaStream
import Derived.Test.YtolmfhgpdcmhlaaBoxFit
namespace Go.Proofs.Ytolmfhgpdcmhlaa
open Go.RowKit

/-- What Stream tells where the lengths are right, and the error. -/
def strmB (at_ : Int) (n : Nat) : Prop := at_ < 0 ∨ 4294967295 < at_ ∨ 4294967296 - at_ < ((n + 63) / 64 : Nat)
instance (at_ : Int) (n : Nat) : Decidable (strmB at_ n) := inferInstanceAs (Decidable (_ ∨ _ ∨ _))
def strmE (key nonce : ByteArray) (at_ : Int) (s : ByteArray) : Nat := if ¬ (key.size = 32 ∧ nonce.size = 12) then 1 else if strmB at_ s.size then 2 else 0
def strmS (key nonce : ByteArray) (at_ : Int) (s : ByteArray) : ByteArray := if strmE key nonce at_ s = 0 then strN (chaS (numsOf key) (numsOf nonce) at_.toNat (numsOf s)) else ⟨#[]⟩

theorem st16_ok (key nonce : ByteArray) (n : Nat) (hn : n < 4294967296) : (st16 (numsOf key) (numsOf nonce) n).ok := by
  have hw : ∀ (s : ByteArray) i, wordL (numsOf s) i < 4294967296 := fun s i => by
    have h0 := getD_lt (by decide) (numsOf_bytes s) i
    have h1 := getD_lt (by decide) (numsOf_bytes s) (i + 1)
    have h2 := getD_lt (by decide) (numsOf_bytes s) (i + 2)
    have h3 := getD_lt (by decide) (numsOf_bytes s) (i + 3)
    unfold wordL
    omega
  simp [S16.ok, S16.toL, st16, hw, hn]

set_option maxRecDepth 10000 in
set_option maxHeartbeats 1000000 in
theorem Stream_range (key nonce s : ByteArray) (hk : key.size = 32) (hn : nonce.size = 12) (hs : s.size ≤ 1048576) (at_ : Int) (h : strmB at_ s.size) (w : World) :
    Calls Try.prog 10 #[.string key, .string nonce, .int .i64 at_, .string s] w fun e w' => e = .returned (.tuple #[.string ⟨#[]⟩, .int .i64 2]) ∧ w' = w := by
  have hf := fun w => fit_yes key nonce hk hn w
  by_cases h1 : at_ < 0
  · clear h
    go_enter Try.func10, Try.ntmps10
    go_wp2_with fail
    refine (hf _).mono ?_
    rintro e w' ⟨rfl, rfl⟩
    clear hf
    go_wp2
    go_ret2
    exact ⟨rfl, rfl⟩
  · by_cases h2 : 4294967295 < at_
    · clear h
      go_enter Try.func10, Try.ntmps10
      go_wp2_with fail
      refine (hf _).mono ?_
      rintro e w' ⟨rfl, rfl⟩
      clear hf
      go_wp2
      go_ret2
      exact ⟨rfl, rfl⟩
    · obtain ⟨a, rfl⟩ : ∃ a : Nat, at_ = a := ⟨at_.toNat, by omega⟩
      have h3 : (4294967296 : Int) - a < ((s.size + 63) / 64 : Nat) := by
        rcases h with h | h | h
        · omega
        · omega
        · exact h
      have h4 : (4294967295 : Int) - a + 1 < ((s.size : Int) + 64 - 1) / 64 := by omega
      have ha : (a : Int) ≤ 4294967295 := by omega
      clear h h3
      go_enter Try.func10, Try.ntmps10
      go_wp2_with fail
      refine (hf _).mono ?_
      rintro e w' ⟨rfl, rfl⟩
      clear hf
      go_wp2
      go_ret2
      exact ⟨rfl, rfl⟩

set_option maxRecDepth 10000 in
set_option maxHeartbeats 1000000 in
theorem Stream_ok (key nonce s : ByteArray) (hk : key.size = 32) (hn : nonce.size = 12) (hs : s.size ≤ 1048576) (a : Nat) (h : ¬ strmB a s.size) (w : World) :
    Calls Try.prog 10 #[.string key, .string nonce, .int .i64 a, .string s] w fun e w' => e = .returned (.tuple #[.string (strN (chaS (numsOf key) (numsOf nonce) a (numsOf s))), .int .i64 0]) ∧ Below w.heap.size w w' := by
  have hf := fun w => fit_yes key nonce hk hn w
  have ha : (a : Int) ≤ 4294967295 := by unfold strmB at h; omega
  have h1 : ¬ (a : Int) < 0 := by omega
  have h2 : ¬ (4294967295 : Int) < a := by omega
  have h3 : a + (s.size + 63) / 64 ≤ 4294967296 := by unfold strmB at h; omega
  have h4 : ¬ (4294967295 : Int) - a + 1 < ((s.size : Int) + 64 - 1) / 64 := by omega
  have hSt := fun w => stateOf_any key nonce hk hn w
  have hok := st16_ok key nonce 0 (by decide)
  rw [chaS_strm]
  generalize st16 (numsOf key) (numsOf nonce) 0 = S at *
  obtain ⟨ds, hds⟩ : ∃ ds, ds = (wdV S.toL).toArray := ⟨_, rfl⟩
  rw [← hds] at hSt
  have hsz : ds.size = 16 := by rw [hds]; rfl
  have hone : ds.all (·.oneCell') = true := by rw [hds]; simp [wdV, Value.oneCell']
  have hinfo : (Try.prog.info? 34).map (·.size) = some ds.size := by rw [hsz]; kernel_rfl
  have HDS : Hid (ds = (wdV S.toL).toArray) := hds
  clear hds h
  go_enter Try.func10, Try.ntmps10
  go_wp2_with fail
  refine (hf _).mono ?_
  rintro e w' ⟨rfl, rfl⟩
  clear hf
  go_wp2_with fail
  refine (hSt _).mono ?_
  rintro e w1 ⟨rfl, hb1⟩
  clear hSt
  go_wp2_with (refine wpList_store_row rfl 34 _ _ rfl w1.heap.size ds rfl rfl 34 _ (heap_alloc_new w1 _) hinfo (by rw [hsz]; rfl) hone ?_)
  rw [World.setRow_alloc_new]
  have k2 : Row (w1.alloc (.cells ds 34)) w1.heap.size 34 (wdV S.toL) := by rw [HDS.out]; exact heap_alloc_new w1 _
  have hb2 := hb1.alloc hb1.size (.cells ds 34)
  generalize w1.alloc (.cells ds 34) = w2 at *
  clear hone hinfo hsz HDS
  refine (stream_any S hok a s h3 hs w1.heap.size w2 k2).mono ?_
  rintro e w3 ⟨rfl, hb3⟩
  have hb4 := hb2.trans (hb3.mono hb2.size)
  clear k2 hb2 hb3
  go_wp2
  go_ret2
  exact ⟨rfl, hb4⟩

theorem Stream_any (key nonce s : ByteArray) (hs : s.size ≤ 1048576) (at_ : Int) (w : World) :
    Calls Try.prog 10 #[.string key, .string nonce, .int .i64 at_, .string s] w fun e w' => e = .returned (.tuple #[.string (strmS key nonce at_ s), .int .i64 (strmE key nonce at_ s : Nat)]) ∧ Below w.heap.size w w' := by
  by_cases h : key.size = 32 ∧ nonce.size = 12
  · by_cases hb : strmB at_ s.size
    · have e : strmE key nonce at_ s = 2 := by unfold strmE; rw [if_neg (fun hh => hh h), if_pos hb]
      unfold strmS
      rw [e, if_neg (by decide)]
      refine (Stream_range key nonce s h.1 h.2 hs at_ hb w).mono ?_
      rintro e w' ⟨rfl, rfl⟩
      exact ⟨rfl, Below.refl _ _⟩
    · have e : strmE key nonce at_ s = 0 := by unfold strmE; rw [if_neg (fun hh => hh h), if_neg hb]
      unfold strmS
      rw [e, if_pos rfl]
      obtain ⟨a, rfl⟩ : ∃ a : Nat, at_ = a := ⟨at_.toNat, by unfold strmB at hb; omega⟩
      exact Stream_ok key nonce s h.1 h.2 hs a hb w
  · have e : strmE key nonce at_ s = 1 := by unfold strmE; rw [if_pos h]
    unfold strmS
    rw [e, if_neg (by decide)]
    refine (Stream_bad key nonce s at_ h w).mono ?_
    rintro e w' ⟨rfl, rfl⟩
    exact ⟨rfl, Below.refl _ _⟩
end Go.Proofs.Ytolmfhgpdcmhlaa
