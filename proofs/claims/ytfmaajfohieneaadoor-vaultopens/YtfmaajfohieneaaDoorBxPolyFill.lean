/- box's tagger.takeFilled and takeLengths. -/
import Derived.Test.YtfmaajfohieneaaDoorMg48
namespace Go.Proofs.YtfmaajfohieneaaDoor.Bx
set_option maxRecDepth 20000
open Go.RowKit

/-- Bytes, and the bytes 0 that make them a multiple of sixteen. -/
def fill16 (l : List Nat) : List Nat := l ++ List.replicate ((16 - l.length % 16) % 16) 0
theorem fill16_length (l : List Nat) : (fill16 l).length % 16 = 0 := by simp [fill16]; omega
theorem fill16_whole (l : List Nat) (h : l.length % 16 = 0) : fill16 l = l := by simp [fill16, h]
theorem fill16_part (l : List Nat) (h : l.length % 16 ≠ 0) : fill16 l = l.take (l.length - l.length % 16) ++ (l.drop (l.length - l.length % 16) ++ List.replicate (16 - l.length % 16) 0) := by
  rw [← List.append_assoc, List.take_append_drop, fill16, Nat.mod_eq_of_lt (a := 16 - l.length % 16) (by omega)]
theorem fill16_bytes (l : List Nat) (h : Bytes l) : Bytes (fill16 l) := h.append (Bytes.zeros _)

set_option maxRecDepth 10000 in
set_option maxHeartbeats 1000000 in
theorem takeFilled_any (key : List Nat) (hk : Bytes key) (B : Nat) (l : List Nat) (hl : l.length % 16 = 0) (s : ByteArray) (hs : s.size < 1099511627776) (w : World) (hT : TagIn w B key l) :
    Calls Tryd.prog 70 #[.pointer (some ⟨B, 0, none⟩), .string s] w fun e w' => e = .returned (.tuple #[]) ∧ TagIn w' B key (l ++ fill16 (numsOf s)) ∧ Only B w w' := by
  have hsl := numsOf_length s
  obtain ⟨p, hp⟩ : ∃ p, p = s.size - s.size % 16 := ⟨_, rfl⟩
  have hps : p ≤ s.size := by omega
  have hp16 : p % 16 = 0 := by omega
  have v1 : IntKind.i64.wrap ((s.size : Int) - (s.size : Int) % 16) = p := by rw [IntKind.wrap_i64]; omega
  have v2 : (s.size : Int) - (s.size : Int) % 16 = p := by omega
  have HTk := take_any key hk B l hl (s.extract 0 p) w hT
  have hn1 : numsOf (s.extract 0 p) = (numsOf s).take p := by rw [numsOf_extract, Nat.sub_zero, List.drop_zero]
  rw [hn1] at HTk
  have i1 : (p : Int) ≤ s.size := by omega
  by_cases h : s.size % 16 = 0
  · have hpz : p = s.size := by omega
    have e : (numsOf s).take p = fill16 (numsOf s) := by rw [fill16_whole _ (by rw [hsl]; exact h), List.take_of_length_le (by omega)]
    rw [e] at HTk
    have i2 : ¬ (p : Int) < s.size := by omega
    have HP : Hid (p = s.size - s.size % 16 ∧ p = s.size) := ⟨hp, hpz⟩
    clear hp hpz hn1 e hT
    go_enter Tryd.func70, Tryd.ntmps70
    go_wp2_with fail
    refine HTk.mono ?_
    rintro e w1 ⟨rfl, hT1, ho1⟩
    clear HTk
    go_wp2
    go_end0
    exact ⟨rfl, hT1, ho1⟩
  · have i2 : (p : Int) < s.size := by omega
    obtain ⟨u, hu⟩ : ∃ u, u = s.extract p s.size := ⟨_, rfl⟩
    have hus : u.size = s.size % 16 := by rw [hu]; simp; omega
    have hun : numsOf u = (numsOf s).drop p := by rw [hu, numsOf_extract, List.take_of_length_le (by simp [numsOf_length])]
    have hul := numsOf_length u
    have hub := numsOf_bytes u
    have hlp : (l ++ (numsOf s).take p).length % 16 = 0 := by rw [List.length_append, List.length_take, hsl]; omega
    have hfin : l ++ (numsOf s).take p ++ (numsOf u ++ List.replicate (16 - u.size) 0) = l ++ fill16 (numsOf s) := by
      rw [fill16_part _ (by rw [hsl]; exact h), hsl, ← hp, hun, hus, List.append_assoc]
    have HP : Hid (p = s.size - s.size % 16) := hp
    have hu' : s.extract p s.size = u := hu.symm
    clear hp hn1 hT hun hu
    go_enter Tryd.func70, Tryd.ntmps70
    go_wp2_with fail
    refine HTk.mono ?_
    rintro e w1 ⟨rfl, hT1, ho1⟩
    clear HTk
    obtain ⟨w2, hw2⟩ : ∃ w2, w1.alloc (.cells #[.int .u8 0, .int .u8 0, .int .u8 0, .int .u8 0, .int .u8 0, .int .u8 0, .int .u8 0, .int .u8 0, .int .u8 0, .int .u8 0, .int .u8 0, .int .u8 0, .int .u8 0, .int .u8 0, .int .u8 0, .int .u8 0] 127) = w2 := ⟨_, rfl⟩
    have a2 : Row w2 w1.heap.size 127 (byV (List.replicate 16 0)) := by
      rw [← hw2]
      have := heap_alloc_new w1 (.cells #[.int .u8 0, .int .u8 0, .int .u8 0, .int .u8 0, .int .u8 0, .int .u8 0, .int .u8 0, .int .u8 0, .int .u8 0, .int .u8 0, .int .u8 0, .int .u8 0, .int .u8 0, .int .u8 0, .int .u8 0, .int .u8 0] 127)
      simpa [Row, byV] using this
    have ab : Below w1.heap.size w1 w2 := by rw [← hw2]; exact (Below.refl _ _).alloc (Nat.le_refl _) _
    obtain ⟨w3, hcp, b3, o3⟩ := copy_row w2.drew w1.heap.size 127 16 _ rfl a2 u
    have hB3 : Below w1.heap.size w1 w3 := ab.drew.trans (o3.below (Nat.le_of_lt a2.lt))
    rw [show min u.size 16 = u.size by omega] at hcp b3
    rw [List.take_of_length_le (by omega)] at b3
    have b3' : Row w3 w1.heap.size 127 (byV (numsOf u ++ List.replicate (16 - u.size) 0)) := b3.congr (by rw [byV_append, byV_zeros, byV_zeros, List.drop_replicate])
    have hm : (numsOf u ++ List.replicate (16 - u.size) 0).length = 16 := by rw [List.length_append, List.length_replicate]; omega
    have HA := add_step key hk _ (numsOf u ++ List.replicate (16 - u.size) 0) _ 1 (by decide) hlp (by omega) (by omega) hm (hub.append (Bytes.zeros _)) (piece_full _ hm) B w1.heap.size _ w3 (hT1.below hB3 hT1.lt) b3'
    rw [hfin] at HA
    have HO : Hid (Only B w w3) := ho1.trans (Only.of_below hB3)
    clear b3 b3' a2 ab o3 hB3 hm hlp hfin hT1 ho1 hul hub hus
    go_wp2_with fail
    go_region_held3 (fun _ => True) (simp [go_sem, *]) (fail)
    go_wp2_with fail
    refine HA.mono ?_
    rintro e w4 ⟨rfl, hT4, ho4⟩
    clear HA hcp hw2
    go_wp2_with fail
    go_end0
    exact ⟨rfl, hT4, HO.out.trans ho4⟩

set_option maxRecDepth 10000 in
set_option maxHeartbeats 1000000 in
theorem takeLengths_any (key : List Nat) (hk : Bytes key) (B : Nat) (l : List Nat) (hl : l.length % 16 = 0) (m n : Nat) (hm : m < 1099511627776) (hn : n < 1099511627776) (w : World) (hT : TagIn w B key l) :
    Calls Tryd.prog 71 #[.pointer (some ⟨B, 0, none⟩), .int .i64 m, .int .i64 n] w fun e w' => e = .returned (.tuple #[]) ∧ TagIn w' B key (l ++ (leB 8 m ++ leB 8 n)) ∧ Only B w w' := by
  have v1 : IntKind.u64.wrap (m : Int) = m := by rw [IntKind.wrap_u64]; omega
  have v2 : IntKind.u64.wrap (n : Int) = n := by rw [IntKind.wrap_u64]; omega
  have hp := fun w => put_any m n w
  have hl16 : (leB 8 m ++ leB 8 n).length = 16 := by simp [leB]
  have hbb : Bytes (leB 8 m ++ leB 8 n) := Bytes.append (leB_bytes _ _) (leB_bytes _ _)
  have hA := fun w g hT hg => add_step key hk l (leB 8 m ++ leB 8 n) _ 1 (by decide) hl (by omega) (by omega) hl16 hbb (piece_full _ hl16) B g 127 w hT hg
  obtain ⟨ds, hds⟩ : ∃ ds, ds = (byV (leB 8 m ++ leB 8 n)).toArray := ⟨_, rfl⟩
  rw [← hds] at hp
  have hsz : ds.size = 16 := by rw [hds]; simp [byV, leB]
  have hone : ds.all (·.oneCell') = true := by rw [hds]; simp [byV, Value.oneCell']
  have hinfo : (Tryd.prog.info? 127).map (·.size) = some ds.size := by rw [hsz]; kernel_rfl
  have HDS : Hid (ds = (byV (leB 8 m ++ leB 8 n)).toArray) := hds
  have HT : Hid (TagIn w B key l) := hT
  clear hds hT
  go_enter Tryd.func71, Tryd.ntmps71
  go_wp2_with fail
  refine (hp _).mono ?_
  rintro e w1 ⟨rfl, hb1⟩
  clear hp
  go_wp2_with (refine wpList_store_row rfl 127 _ _ rfl w1.heap.size ds rfl rfl 127 _ (heap_alloc_new w1 _) hinfo (by rw [hsz]; rfl) hone ?_)
  rw [World.setRow_alloc_new]
  have k2 : Row (w1.alloc (.cells ds 127)) w1.heap.size 127 (byV (leB 8 m ++ leB 8 n)) := by rw [HDS.out]; exact heap_alloc_new w1 _
  have hb2 := hb1.alloc hb1.size (.cells ds 127)
  generalize w1.alloc (.cells ds 127) = w2 at *
  clear hone hinfo hsz HDS
  refine (hA w2 w1.heap.size (HT.out.below hb2 HT.out.lt) k2).mono ?_
  rintro e w3 ⟨rfl, hT3, ho3⟩
  have hO := (Only.of_below (b := B) hb2).trans ho3
  clear hA k2 hb2 ho3
  go_wp2_with fail
  go_end0
  exact ⟨rfl, hT3, hO⟩
end Go.Proofs.YtfmaajfohieneaaDoor.Bx
