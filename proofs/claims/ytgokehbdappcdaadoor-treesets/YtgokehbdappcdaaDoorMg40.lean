/- sum.Stretch: of any pass phrase, salt and numbers the bytes, or the error. · The document's low and right: a number's word; a word turned to the right; and its 64 numbers k. -/
import Derived.Test.YtgokehbdappcdaaDoorMg38
import Derived.Test.YtgokehbdappcdaaDoorMg39
import Derived.Test.YtgokehbdappcdaaDoorMg24
import Derived.Test.YtgokehbdappcdaaDoorMg28
import Derived.WalkKit
import Derived.Laws.BitsAllLaws
import Derived.Laws.BitsLemmas
namespace Go.Proofs.YtgokehbdappcdaaDoor.Sm
set_option maxRecDepth 20000
open Go.RowKit

def strS (pass salt : ByteArray) (rounds n : Nat) : ByteArray := strOfNums (((catD (fun i => strB (keyP (numsOf pass)) (numsOf salt) rounds (i + 1)) ((n + 31) / 32)).take n).map fun (x : Nat) => (x : Int))

set_option maxRecDepth 10000 in
set_option maxHeartbeats 1000000 in
theorem pieceS_any (KB SB RB : Nat) (K : List Nat) (hKl : K.length = 64) (hKb : Bytes K) (R1 R2 : List Value) (hR1 : RestOk R1) (hR2 : RestOk R2) (salt : ByteArray) (hl : salt.size ≤ 1048576) (rounds i : Nat) (hr1 : 1 ≤ rounds) (hr2 : rounds ≤ 1000) (hi2 : i < 65536) (w : World) (hq : Cubes w)
    (hr : Row w KB 98 (keyV K R1 R2)) (hS : Row w SB 9 [.string salt]) (hR : Row w RB 3 [.int .i64 (rounds : Nat)]) :
    Calls Tryd.prog 48 #[.int .i64 i, .pointer (some ⟨KB, 0, none⟩), .pointer (some ⟨SB, 0, none⟩), .pointer (some ⟨RB, 0, none⟩)] w fun e w' => e = .returned (.agg (byV (strB K (numsOf salt) rounds i)).toArray) ∧ Below w.heap.size w w' := by
  obtain ⟨zd, hzd⟩ : ∃ zd : Array Value, zd = (digV []).toArray := ⟨_, rfl⟩
  have hdv : ∀ w, (zeroValue 102).run Tryd.prog w = .ok (.agg zd) w := by rw [hzd]; exact (zero_of_info (n := 32) (by kernel_rfl)).1
  have hb0 : Below w.heap.size w (w.alloc (.cells zd 102)) := (Below.refl _ _).alloc (Nat.le_refl _) _
  have hd0 : Row (w.alloc (.cells zd 102)) w.heap.size 102 (digV []) := by rw [hzd]; exact heap_alloc_new w _
  obtain ⟨w0, hw0⟩ : ∃ w0, w.alloc (.cells zd 102) = w0 := ⟨_, rfl⟩
  rw [hw0] at hb0 hd0
  have hr0 := hr.below hb0 hr.lt
  have hS0 := hS.below hb0 hS.lt
  have hR0 := hR.below hb0 hR.lt
  have hq0 : Cubes w0 := hq.below hb0 hq.1
  have cS : w0.cell? ⟨SB, 0, none⟩ = some (.string salt) := hS0.cell 0
  have cR : w0.cell? ⟨RB, 0, none⟩ = some (.int .i64 (rounds : Nat)) := hR0.cell 0
  have H0 : Hid (Row w0 KB 98 (keyV K R1 R2) ∧ Cubes w0 ∧ Below w.heap.size w w0 ∧ Row w0 w.heap.size 102 (digV [])) := ⟨hr0, hq0, hb0, hd0⟩
  clear hzd hr hS hR hq hr0 hS0 hR0 hq0 hb0 hd0
  go_enter Tryd.func48, Tryd.ntmps48
  go_wp2_with fail
  refine (stretched_any KB K hKl hKb R1 R2 hR1 hR2 salt hl rounds i hr1 hr2 hi2 w0 H0.out.2.1 H0.out.1).mono ?_
  rintro e w1 ⟨rfl, hb1⟩
  obtain ⟨ds, hds⟩ : ∃ ds, ds = (byV (strB K (numsOf salt) rounds i)).toArray := ⟨_, rfl⟩
  have hsz2 : ds.size = 32 := by rw [hds]; simp [byV, strB_length]
  have hone : ds.all (·.oneCell') = true := by rw [hds]; simp [byV, Value.oneCell']
  have hinfo : (Tryd.prog.info? 102).map (·.size) = some ds.size := by rw [hsz2]; kernel_rfl
  have hd9 : w1.heap[w.heap.size]? = some (.cells (digV []).toArray 102 (0, 0)) := H0.out.2.2.2.below hb1 H0.out.2.2.2.lt
  have hs0 : (digV []).toArray.size = ds.size := by rw [hsz2]; rfl
  have hl0 := run_loadVar_row (P := Tryd.prog) (w1.setRow w.heap.size ds) w.heap.size 102 102 ds (0, 0) _ (setRow_heap _ _ _ _ _ _ hd9) Tryd.underlying102 rfl hinfo
  have HF : Hid (ds = (byV (strB K (numsOf salt) rounds i)).toArray ∧ Below w.heap.size w (w1.setRow w.heap.size ds)) := ⟨hds, below_rowH (H0.out.2.2.1.trans (hb1.mono H0.out.2.2.1.size)) (Nat.le_refl _) ds⟩
  rw [← hds]
  clear hds hb1
  go_wp2_with (refine wpList_store_row rfl 102 _ _ rfl w.heap.size ds rfl rfl 102 _ hd9 hinfo hs0 hone ?_)
  exact bodyPost_ret (v := .agg ds) (by simp [results, Tryd.results48, asAddr, Act.put, hl0]) rfl ⟨by rw [HF.out.1], HF.out.2⟩

set_option maxRecDepth 10000 in
set_option maxHeartbeats 1000000 in
theorem Stretch_in (pass salt : ByteArray) (rounds n : Nat) (hr1 : 1 ≤ rounds) (hr2 : rounds ≤ 1000) (hn : n ≤ 1024) (hk : pass.size < 1099511627776) (hi : salt.size ≤ 1048576) (w : World) (hf : First w) (hq : Cubes w) :
    Calls Tryd.prog 33 #[.string pass, .string salt, .int .i64 rounds, .int .i64 n] w fun e w' => e = .returned (.tuple #[.string (strS pass salt rounds n), .int .i64 0]) ∧ Below w.heap.size w w' := by
  have h1 : ¬ (n : Int) < 0 := by omega
  have h2 : ¬ (1024 : Int) < n := by omega
  have h3 : ¬ (rounds : Int) < 1 := by omega
  have h4 : ¬ (1000 : Int) < rounds := by omega
  obtain ⟨zk, hzk⟩ : ∃ zk : Array Value, zk = (mixZ ++ mixZ).toArray := ⟨_, rfl⟩
  have hkv : ∀ w, (zeroValue 98).run Tryd.prog w = .ok (.agg zk) w := by rw [hzk]; exact (zero_of_info (n := 150) (by kernel_rfl)).1
  have hkn : zk.size = 150 := by rw [hzk]; rfl
  clear hzk
  have hmf : ∀ (fn : Fn) (first cap : Array Value) (w : World), (Instr.makeFunc fn first cap).run Tryd.prog w = .ok (.func fn first cap) w := fun _ _ _ _ => rfl
  have hb0 : Below w.heap.size w ((w.alloc (.cells #[.string salt] 9)).alloc (.cells #[.int .i64 (rounds : Nat)] 3)) := ((Below.refl _ _).alloc (Nat.le_refl _) _).alloc (by simp) _
  have hS0 : Row ((w.alloc (.cells #[.string salt] 9)).alloc (.cells #[.int .i64 (rounds : Nat)] 3)) w.heap.size 9 [.string salt] := heap_alloc2_old w _ _
  have hR0 : Row ((w.alloc (.cells #[.string salt] 9)).alloc (.cells #[.int .i64 (rounds : Nat)] 3)) (w.heap.size + 1) 3 [.int .i64 (rounds : Nat)] := heap_alloc2_new w _ _
  obtain ⟨w0, hw0⟩ : ∃ w0, (w.alloc (.cells #[.string salt] 9)).alloc (.cells #[.int .i64 (rounds : Nat)] 3) = w0 := ⟨_, rfl⟩
  rw [hw0] at hb0 hS0 hR0
  have HK : Hid (First w0 ∧ Cubes w0 ∧ Below w.heap.size w w0 ∧ Row w0 w.heap.size 9 [.string salt] ∧ Row w0 (w.heap.size + 1) 3 [.int .i64 (rounds : Nat)]) := ⟨hf.below hb0 hf.1, hq.below hb0 hq.1, hb0, hS0, hR0⟩
  have cR : w0.cell? ⟨w.heap.size + 1, 0, none⟩ = some (.int .i64 (rounds : Nat)) := hR0.cell 0
  clear hf hq hb0 hS0 hR0
  go_enter Tryd.func33, Tryd.ntmps33
  go_wp2_with fail
  refine (keyOf_any pass hk w0 HK.out.1 HK.out.2.1).mono ?_
  rintro e w1 ⟨R1, R2, hR1, hR2, rfl, hb1⟩
  obtain ⟨cs, hcs⟩ : ∃ cs, cs = (keyV (keyP (numsOf pass)) R1 R2).toArray := ⟨_, rfl⟩
  have hcn : cs.size = 150 := by rw [hcs]; simp [keyV, mixV, mixA, mixT, hR1.1, hR2.1]
  have hone : cs.all (·.oneCell') = true := by
    rw [hcs]
    refine all_oneCell_toArray fun v hv => ?_
    rcases List.mem_append.1 hv with h | h
    · exact mixV_one _ _ _ _ hR1.2 v h
    · exact mixV_one _ _ _ _ hR2.2 v h
  have hinfo : (Tryd.prog.info? 98).map (·.size) = some cs.size := by rw [hcn]; kernel_rfl
  have hs0 : zk.size = cs.size := by rw [hkn, hcn]
  rw [← hcs]
  have HCS : Hid (cs = (keyV (keyP (numsOf pass)) R1 R2).toArray) := hcs
  clear hcs
  go_wp2_with (refine wpList_store_row rfl 98 _ _ rfl w1.heap.size cs rfl rfl 98 _ (heap_alloc_new w1 _) hinfo hs0 hone ?_)
  rw [World.setRow_alloc_new]
  have hle : w0.heap.size ≤ w1.heap.size := hb1.size
  have hSlt := HK.out.2.2.2.1.lt
  have hRlt := HK.out.2.2.2.2.lt
  have hb2 : Below w1.heap.size w1 (w1.alloc (.cells cs 98)) := (Below.refl _ _).alloc (Nat.le_refl _) _
  have kK : Row (w1.alloc (.cells cs 98)) w1.heap.size 98 (keyV (keyP (numsOf pass)) R1 R2) := by rw [HCS.out]; exact heap_alloc_new w1 _
  have hw2s : (w1.alloc (.cells cs 98)).heap.size = w1.heap.size + 1 := by simp
  obtain ⟨w2, hw2⟩ : ∃ w2, w1.alloc (.cells cs 98) = w2 := ⟨_, rfl⟩
  rw [hw2] at hb2 kK hw2s
  rw [hw2]
  have hb2' : Below w0.heap.size w0 w2 := hb1.trans (hb2.mono hle)
  have kS : Row w2 w.heap.size 9 [.string salt] := HK.out.2.2.2.1.below hb2' hSlt
  have kR : Row w2 (w.heap.size + 1) 3 [.int .i64 (rounds : Nat)] := HK.out.2.2.2.2.below hb2' hRlt
  have hq2 : Cubes w2 := HK.out.2.1.below hb2' HK.out.2.1.1
  have hKb : Bytes (keyP (numsOf pass)) := keyP_bytes (numsOf_bytes pass)
  have hKl := keyP_length (numsOf pass)
  have HX : Hid (strS pass salt rounds n = strOfNums (((catD (fun i => strB (keyP (numsOf pass)) (numsOf salt) rounds (i + 1)) ((n + 31) / 32)).take n).map fun (x : Nat) => (x : Int))) := rfl
  generalize keyP (numsOf pass) = K at *
  have hg := gatherS n (by omega) (.pointer (some ⟨w1.heap.size, 0, none⟩)) (.pointer (some ⟨w.heap.size, 0, none⟩)) (.pointer (some ⟨w.heap.size + 1, 0, none⟩)) w1.heap.size (fun i => strB K (numsOf salt) rounds (i + 1)) (fun i => strB_length _ _ _ _)
    (fun _ W => Row W w1.heap.size 98 (keyV K R1 R2) ∧ Row W w.heap.size 9 [.string salt] ∧ Row W (w.heap.size + 1) 3 [.int .i64 (rounds : Nat)] ∧ Cubes W) w2 (by omega) ⟨kK, kS, kR, hq2⟩
    (fun j W1 W2 hI hB => ⟨hI.1.below hB (by omega), hI.2.1.below hB (by omega), hI.2.2.1.below hB (by omega), hI.2.2.2.below hB (by have := HK.out.2.1.1; omega)⟩)
    (fun j W1 hj hI hle => by
      have hp := pieceS_any w1.heap.size w.heap.size (w.heap.size + 1) K hKl hKb R1 R2 hR1 hR2 salt hi rounds (j + 1) hr1 hr2 (by omega) W1 hI.2.2.2 hI.1 hI.2.1 hI.2.2.1
      rw [show ((j : Int) + 1) = ((j + 1 : Nat) : Int) by omega]
      refine hp.mono fun e W2 ⟨he, hB⟩ => ⟨he, ⟨hI.1.below hB hI.1.lt, hI.2.1.below hB hI.2.1.lt, hI.2.2.1.below hB hI.2.2.1.lt, hI.2.2.2.below hB hI.2.2.2.1⟩, Only.of_below hB⟩)
  rw [← HX.out] at hg
  clear hone hinfo hs0 hcn HCS hw2 hb1 hb2 kK kS kR hq2
  go_wp2_with fail
  refine hg.mono ?_
  rintro e w3 ⟨rfl, _, ho3⟩
  have hb3 : Below w.heap.size w w3 := HK.out.2.2.1.trans ((hb2'.mono HK.out.2.2.1.size).trans ((ho3.below (by omega)).mono (by omega)))
  clear ho3 hb2' hg
  go_wp2
  go_ret2
  exact ⟨rfl, hb3⟩

theorem Stretch_out (pass salt : ByteArray) (rounds n : Int) (h : rounds < 1 ∨ 1000 < rounds ∨ n < 0 ∨ 1024 < n) (w : World) :
    Calls Tryd.prog 33 #[.string pass, .string salt, .int .i64 rounds, .int .i64 n] w fun e w' => e = .returned (.tuple #[.string ⟨#[]⟩, .int .i64 1]) ∧ Below w.heap.size w w' := by
  have hb0 : Below w.heap.size w ((w.alloc (.cells #[.string salt] 9)).alloc (.cells #[.int .i64 rounds] 3)) := ((Below.refl _ _).alloc (Nat.le_refl _) _).alloc (by simp) _
  by_cases h1 : rounds < 1
  · go_enter Tryd.func33, Tryd.ntmps33
    go_wp2
    go_ret2
    exact ⟨rfl, hb0⟩
  by_cases h2 : 1000 < rounds
  · go_enter Tryd.func33, Tryd.ntmps33
    go_wp2
    go_ret2
    exact ⟨rfl, hb0⟩
  by_cases h3 : n < 0
  · go_enter Tryd.func33, Tryd.ntmps33
    go_wp2
    go_ret2
    exact ⟨rfl, hb0⟩
  · have h4 : 1024 < n := by omega
    go_enter Tryd.func33, Tryd.ntmps33
    go_wp2
    go_ret2
    exact ⟨rfl, hb0⟩
end Go.Proofs.YtgokehbdappcdaaDoor.Sm

namespace Go.Proofs.YtgokehbdappcdaaDoor.Sm
set_option maxRecDepth 20000
open Go.RowKit

theorem wraps_i64 (n : Int) (h0 : 0 ≤ n) (h1 : n < 2 ^ 63) : IntKind.i64.wrap n = n := by rw [IntKind.wrap_i64]; omega
theorem i64_and_nat (a b : Nat) (ha : a < 9223372036854775808) (hb : b < 9223372036854775808) : bits .and .i64 (a : Int) (b : Int) = ((a &&& b : Nat) : Int) := (bits_nat .i64 63 (by decide) wraps_i64 a b ha hb).1
theorem i64_or_nat (a b : Nat) (ha : a < 9223372036854775808) (hb : b < 9223372036854775808) : bits .or .i64 (a : Int) (b : Int) = ((a ||| b : Nat) : Int) := (bits_nat .i64 63 (by decide) wraps_i64 a b ha hb).2
theorem i64_xor_nat (a b : Nat) (ha : a < 9223372036854775808) (hb : b < 9223372036854775808) : bits .xor .i64 (a : Int) (b : Int) = ((a ^^^ b : Nat) : Int) := by
  have hx : a ^^^ b < 2 ^ 63 := Nat.xor_lt_two_pow ha hb
  show IntKind.i64.wrap ((BitVec.ofInt 64 (a : Int) ^^^ BitVec.ofInt 64 (b : Int)).toNat : Int) = _
  rw [BitVec.toNat_xor, ofInt_u64 a (by omega), ofInt_u64 b (by omega)]
  exact wraps_i64 _ (Int.natCast_nonneg _) (by exact_mod_cast hx)

theorem low_any (n : Nat) (h : n < 9223372036854775808) (w : World) :
    Calls Tryd.prog 63 #[.int .i64 n] w fun e w' => e = .returned (.int .i64 ((n % 4294967296 : Nat) : Int)) ∧ w' = w := by
  have hb : bits .and .i64 (n : Int) 4294967295 = ((n % 4294967296 : Nat) : Int) := by
    rw [show (4294967295 : Int) = ((4294967295 : Nat) : Int) from rfl, i64_and_nat n _ h (by decide), nat_mask32]
  go_enter Tryd.func63, Tryd.ntmps63
  go_wp2
  go_ret
  exact ⟨congrArg (fun z => Ending.returned (.int .i64 z)) (by first | rfl | exact hb), rfl⟩

theorem low_z (z : Int) (n : Nat) (hz : z = (n : Int)) (h : n < 9223372036854775808) (w : World) :
    Calls Tryd.prog 63 #[.int .i64 z] w fun e w' => e = .returned (.int .i64 ((n % 4294967296 : Nat) : Int)) ∧ w' = w := by
  subst hz
  exact low_any n h w
theorem turn_lt (x n : Nat) (hx : x < 4294967296) (h1 : 2 ≤ n) : x * 2 ^ (32 - n) < 4611686018427387904 := by
  have h2 : 2 ^ (32 - n) ≤ 2 ^ 30 := Nat.pow_le_pow_right (by decide) (by omega)
  have h3 : x * 2 ^ (32 - n) ≤ x * 2 ^ 30 := Nat.mul_le_mul_left x h2
  have h4 : (2 : Nat) ^ 30 = 1073741824 := by decide
  rw [h4] at h3
  omega
theorem turn_bits (x n : Nat) (hx : x < 4294967296) (h1 : 2 ≤ n) : bits .or .i64 ((x : Int) / 2 ^ n) (IntKind.i64.wrap ((x : Int) * 2 ^ (32 - n))) = ((x / 2 ^ n ||| x * 2 ^ (32 - n) : Nat) : Int) := by
  have hl := turn_lt x n hx h1
  have e1 : (x : Int) / 2 ^ n = ((x / 2 ^ n : Nat) : Int) := by rw [Int.natCast_ediv, Int.natCast_pow]; rfl
  have e2 : (x : Int) * 2 ^ (32 - n) = ((x * 2 ^ (32 - n) : Nat) : Int) := by rw [Int.natCast_mul, Int.natCast_pow]; rfl
  have hd : x / 2 ^ n ≤ x := Nat.div_le_self _ _
  rw [e1, e2, wraps_i64 _ (Int.natCast_nonneg _) (by omega), i64_or_nat _ _ (by omega) (by omega)]

set_option maxHeartbeats 400000 in
theorem rright_any (x n : Nat) (hx : x < 4294967296) (h1 : 2 ≤ n) (h2 : n ≤ 31) (w : World) :
    Calls Tryd.prog 62 #[.int .i64 x, .int .i64 n] w fun e w' => e = .returned (.int .i64 (rotr x n : Nat)) ∧ w' = w.drew := by
  have hlt : x / 2 ^ n ||| x * 2 ^ (32 - n) < 9223372036854775808 := by
    have h1' := turn_lt x n hx h1
    have hd : x / 2 ^ n ≤ x := Nat.div_le_self _ _
    exact Nat.or_lt_two_pow (n := 63) (by omega) (by omega)
  have e1 : IntKind.i64.wrap (32 - (n : Int)) = ((32 - n : Nat) : Int) := by rw [IntKind.wrap_i64]; omega
  have e2 : ¬ (n : Int) < 0 := by omega
  have e3 : ¬ ((32 - n : Nat) : Int) < 0 := by omega
  have e4 : (0 : Int) ≤ ((32 - n : Nat) : Int) := by omega
  go_enter Tryd.func62, Tryd.ntmps62
  go_wp2_with fail
  go_region_held3 (fun _ => True) (simp [go_sem, *]) (first | (go_at_call 63; refine (low_z _ (x / 2 ^ n ||| x * 2 ^ (32 - n)) (turn_bits x n hx h1) hlt _).mono ?_; rintro e w1 ⟨rfl, rfl⟩))
  go_wp2
  go_ret
  exact ⟨rfl, rfl⟩

theorem keys_any (w : World) :
    Calls Tryd.prog 60 #[] w fun e w' => e = .returned (.slice (some ⟨w.heap.size, 0, none⟩) 64 64) ∧ Row w' w.heap.size 3 (keyL.map fun (x : Nat) => Value.int .i64 (x : Int)) ∧ Below w.heap.size w w' := by
  go_enter Tryd.func60, Tryd.ntmps60
  go_wp2
  go_ret
  exact ⟨rfl, heap_alloc_new w _, (Below.refl _ _).alloc (Nat.le_refl _) _⟩
end Go.Proofs.YtgokehbdappcdaaDoor.Sm
