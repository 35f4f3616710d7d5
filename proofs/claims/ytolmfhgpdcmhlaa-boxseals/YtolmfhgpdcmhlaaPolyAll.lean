/- box.Tag; the laws' awake. -/
import Derived.Test.YtolmfhgpdcmhlaaPolyTake
namespace Go.Proofs.Ytolmfhgpdcmhlaa
open Go.RowKit

theorem tag_told (key : List Nat) (hl : key.length = 32) (hk : Bytes key) (B : Nat) (l : List Nat) (w : World) (hT : TagIn w B key l) :
    Calls Try.prog 26 #[.pointer (some ⟨B, 0, none⟩)] w fun e w' => e = .returned (.string (strN (polyT key l))) ∧ Below w.heap.size w w' := by
  obtain ⟨h0, h1, h2, l0, l1, l2, e, hr⟩ := hT
  have h := tag_any B _ _ _ _ h0 h1 h2 l0 l1 l2 (wordAt_lt _ (hk.drop 16) 0) w hr
  rw [e, ← leN_words (key.drop 16) (by simp [hl])] at h
  exact h
/-- Poly1305's tag of a text under a key, and the error. -/
def tagS (key s : ByteArray) : ByteArray := if key.size = 32 then strN (polyT (numsOf key) (numsOf s)) else ⟨#[]⟩
def tagE (key : ByteArray) : Nat := if key.size = 32 then 0 else 1

set_option maxRecDepth 10000 in
set_option maxHeartbeats 1000000 in
theorem Tag_bad (key s : ByteArray) (hk : key.size ≠ 32) (w : World) :
    Calls Try.prog 13 #[.string key, .string s] w fun e w' => e = .returned (.tuple #[.string ⟨#[]⟩, .int .i64 1]) ∧ w' = w := by
  have h1 : ((key.size : Int) != 32) = true := by simp; omega
  go_enter Try.func13, Try.ntmps13
  go_wp2
  go_ret2
  exact ⟨rfl, rfl⟩

set_option maxRecDepth 10000 in
set_option maxHeartbeats 1000000 in
theorem Tag_ok (key s : ByteArray) (hk : key.size = 32) (w : World) :
    Calls Try.prog 13 #[.string key, .string s] w fun e w' => e = .returned (.tuple #[.string (strN (polyT (numsOf key) (numsOf s))), .int .i64 0]) ∧ Below w.heap.size w w' := by
  have hkl : (numsOf key).length = 32 := by rw [numsOf_length, hk]
  have hOf := fun w => taggerOf_any key hk w
  obtain ⟨ds, hds⟩ : ∃ ds, ds = (tagC (wordAt (clampL (numsOf key)) 0) (wordAt (clampL (numsOf key)) 8) (wordAt ((numsOf key).drop 16) 0) (wordAt ((numsOf key).drop 16) 8) 0 0 0).toArray := ⟨_, rfl⟩
  rw [← hds] at hOf
  have hsz : ds.size = 7 := by rw [hds]; rfl
  have hone : ds.all (·.oneCell') = true := by rw [hds]; simp [tagC, Value.oneCell']
  have hinfo : (Try.prog.info? 44).map (·.size) = some ds.size := by rw [hsz]; kernel_rfl
  have HDS : Hid (ds = (tagC (wordAt (clampL (numsOf key)) 0) (wordAt (clampL (numsOf key)) 8) (wordAt ((numsOf key).drop 16) 0) (wordAt ((numsOf key).drop 16) 8) 0 0 0).toArray) := hds
  clear hds
  go_enter Try.func13, Try.ntmps13
  go_wp2_with fail
  refine (hOf _).mono ?_
  rintro e w1 ⟨rfl, hb1⟩
  clear hOf
  go_wp2_with (refine wpList_store_row rfl 44 _ _ rfl w1.heap.size ds rfl rfl 44 _ (heap_alloc_new w1 _) hinfo (by rw [hsz]; rfl) hone ?_)
  rw [World.setRow_alloc_new]
  have hT : TagIn (w1.alloc (.cells ds 44)) w1.heap.size (numsOf key) [] := ⟨0, 0, 0, by decide, by decide, by decide, rfl, by rw [HDS.out]; exact heap_alloc_new w1 _⟩
  have hb2 := hb1.alloc hb1.size (.cells ds 44)
  generalize w1.alloc (.cells ds 44) = w2 at *
  clear hone hinfo hsz HDS
  refine (take_any (numsOf key) (numsOf_bytes key) w1.heap.size [] rfl s w2 hT).mono ?_
  rintro e w3 ⟨rfl, hT3, ho3⟩
  have hb3 : Below w.heap.size w w3 := hb2.trans ((ho3.below (Nat.le_of_lt hT.lt)).mono hb1.size)
  rw [List.nil_append] at hT3
  clear hT hb2 ho3 hb1
  go_wp2_with fail
  refine (tag_told (numsOf key) hkl (numsOf_bytes key) w1.heap.size (numsOf s) w3 hT3).mono ?_
  rintro e w4 ⟨rfl, hb4⟩
  have hb5 := hb3.trans (hb4.mono hb3.size)
  clear hb3 hb4 hT3
  go_wp2
  go_ret2
  exact ⟨rfl, hb5⟩

theorem Tag_any (key s : ByteArray) (w : World) :
    Calls Try.prog 13 #[.string key, .string s] w fun e w' => e = .returned (.tuple #[.string (tagS key s), .int .i64 (tagE key : Nat)]) ∧ Below w.heap.size w w' := by
  unfold tagS tagE
  by_cases h : key.size = 32
  · rw [if_pos h, if_pos h]
    exact Tag_ok key s h w
  · rw [if_neg h, if_neg h]
    refine (Tag_bad key s h w).mono ?_
    rintro e w' ⟨rfl, rfl⟩
    exact ⟨rfl, Below.refl _ _⟩

/-- What the tag of the empty text is, for the laws' own question. -/
theorem awake_facts : tagS ⟨#[97, 98, 99, 100, 101, 102, 103, 104, 105, 106, 107, 108, 109, 110, 111, 112, 113, 114, 115, 116, 117, 118, 119, 120, 121, 122, 48, 49, 50, 51, 52, 53]⟩ ⟨#[]⟩ = ⟨#[113, 114, 115, 116, 117, 118, 119, 120, 121, 122, 48, 49, 50, 51, 52, 53]⟩ := by
  decide +kernel

set_option maxRecDepth 10000 in
set_option maxHeartbeats 1000000 in
theorem awake_any (w : World) :
    Calls Try.prog 12 #[] w fun e w' => e = .returned (.bool true) ∧ Below w.heap.size w w' := by
  have hc := Tag_any ⟨#[97, 98, 99, 100, 101, 102, 103, 104, 105, 106, 107, 108, 109, 110, 111, 112, 113, 114, 115, 116, 117, 118, 119, 120, 121, 122, 48, 49, 50, 51, 52, 53]⟩ ⟨#[]⟩ w
  rw [awake_facts, show tagE ⟨#[97, 98, 99, 100, 101, 102, 103, 104, 105, 106, 107, 108, 109, 110, 111, 112, 113, 114, 115, 116, 117, 118, 119, 120, 121, 122, 48, 49, 50, 51, 52, 53]⟩ = 0 by decide] at hc
  go_enter Try.func12, Try.ntmps12
  go_wp2_with fail
  refine hc.mono ?_
  rintro e w1 ⟨rfl, hb1⟩
  clear hc
  go_wp2
  go_ret
  exact ⟨rfl, hb1⟩
end Go.Proofs.Ytolmfhgpdcmhlaa
