/- sum.Stretch: of any pass phrase, salt and numbers the bytes, or the error. · sum.gather over the closure grapnel/sum.Expand$1: the first n bytes of its pieces. · Expand's closure: the next piece. · sum.Expand: of any key, purpose and number the bytes, or the error. · sum.Mac and sum.Extract: of any key and text the HMAC. -/
import Derived.Test.YtoopaigpjefonaaGreatDoorMg33
namespace Go.Proofs.YtoopaigpjefonaaGreatDoor.Sm
set_option maxRecDepth 20000
open Go.RowKit

def strS (pass salt : ByteArray) (rounds n : Nat) : ByteArray := strOfNums (((catD (fun i => strB (keyP (numsOf pass)) (numsOf salt) rounds (i + 1)) ((n + 31) / 32)).take n).map fun (x : Nat) => (x : Int))

set_option maxRecDepth 10000 in
set_option maxHeartbeats 1000000 in
theorem pieceS_any (KB SB RB : Nat) (K : List Nat) (hKl : K.length = 64) (hKb : Bytes K) (R1 R2 : List Value) (hR1 : RestOk R1) (hR2 : RestOk R2) (salt : ByteArray) (hl : salt.size ≤ 1048576) (rounds i : Nat) (hr1 : 1 ≤ rounds) (hr2 : rounds ≤ 1000) (hi2 : i < 65536) (w : World) (hq : Cubes w)
    (hr : Row w KB 168 (keyV K R1 R2)) (hS : Row w SB 9 [.string salt]) (hR : Row w RB 3 [.int .i64 (rounds : Nat)]) :
    Calls Tryz.prog 86 #[.int .i64 i, .pointer (some ⟨KB, 0, none⟩), .pointer (some ⟨SB, 0, none⟩), .pointer (some ⟨RB, 0, none⟩)] w fun e w' => e = .returned (.agg (byV (strB K (numsOf salt) rounds i)).toArray) ∧ Below w.heap.size w w' := by
  obtain ⟨zd, hzd⟩ : ∃ zd : Array Value, zd = (digV []).toArray := ⟨_, rfl⟩
  have hdv : ∀ w, (zeroValue 172).run Tryz.prog w = .ok (.agg zd) w := by rw [hzd]; exact (zero_of_info (n := 32) (by kernel_rfl)).1
  have hb0 : Below w.heap.size w (w.alloc (.cells zd 172)) := (Below.refl _ _).alloc (Nat.le_refl _) _
  have hd0 : Row (w.alloc (.cells zd 172)) w.heap.size 172 (digV []) := by rw [hzd]; exact heap_alloc_new w _
  obtain ⟨w0, hw0⟩ : ∃ w0, w.alloc (.cells zd 172) = w0 := ⟨_, rfl⟩
  rw [hw0] at hb0 hd0
  have hr0 := hr.below hb0 hr.lt
  have hS0 := hS.below hb0 hS.lt
  have hR0 := hR.below hb0 hR.lt
  have hq0 : Cubes w0 := hq.below hb0 hq.1
  have cS : w0.cell? ⟨SB, 0, none⟩ = some (.string salt) := hS0.cell 0
  have cR : w0.cell? ⟨RB, 0, none⟩ = some (.int .i64 (rounds : Nat)) := hR0.cell 0
  have H0 : Hid (Row w0 KB 168 (keyV K R1 R2) ∧ Cubes w0 ∧ Below w.heap.size w w0 ∧ Row w0 w.heap.size 172 (digV [])) := ⟨hr0, hq0, hb0, hd0⟩
  clear hzd hr hS hR hq hr0 hS0 hR0 hq0 hb0 hd0
  go_enter Tryz.func86, Tryz.ntmps86
  go_wp2_with fail
  refine (stretched_any KB K hKl hKb R1 R2 hR1 hR2 salt hl rounds i hr1 hr2 hi2 w0 H0.out.2.1 H0.out.1).mono ?_
  rintro e w1 ⟨rfl, hb1⟩
  obtain ⟨ds, hds⟩ : ∃ ds, ds = (byV (strB K (numsOf salt) rounds i)).toArray := ⟨_, rfl⟩
  have hsz2 : ds.size = 32 := by rw [hds]; simp [byV, strB_length]
  have hone : ds.all (·.oneCell') = true := by rw [hds]; simp [byV, Value.oneCell']
  have hinfo : (Tryz.prog.info? 172).map (·.size) = some ds.size := by rw [hsz2]; kernel_rfl
  have hd9 : w1.heap[w.heap.size]? = some (.cells (digV []).toArray 172 (0, 0)) := H0.out.2.2.2.below hb1 H0.out.2.2.2.lt
  have hs0 : (digV []).toArray.size = ds.size := by rw [hsz2]; rfl
  have hl0 := run_loadVar_row (P := Tryz.prog) (w1.setRow w.heap.size ds) w.heap.size 172 172 ds (0, 0) _ (setRow_heap _ _ _ _ _ _ hd9) Tryz.underlying172 rfl hinfo
  have HF : Hid (ds = (byV (strB K (numsOf salt) rounds i)).toArray ∧ Below w.heap.size w (w1.setRow w.heap.size ds)) := ⟨hds, below_rowH (H0.out.2.2.1.trans (hb1.mono H0.out.2.2.1.size)) (Nat.le_refl _) ds⟩
  rw [← hds]
  clear hds hb1
  go_wp2_with (refine wpList_store_row rfl 172 _ _ rfl w.heap.size ds rfl rfl 172 _ hd9 hinfo hs0 hone ?_)
  exact bodyPost_ret (v := .agg ds) (by simp [results, Tryz.results86, asAddr, Act.put, hl0]) rfl ⟨by rw [HF.out.1], HF.out.2⟩

set_option maxRecDepth 10000 in
set_option maxHeartbeats 1000000 in
theorem Stretch_in (pass salt : ByteArray) (rounds n : Nat) (hr1 : 1 ≤ rounds) (hr2 : rounds ≤ 1000) (hn : n ≤ 1024) (hk : pass.size < 1099511627776) (hi : salt.size ≤ 1048576) (w : World) (hf : First w) (hq : Cubes w) :
    Calls Tryz.prog 48 #[.string pass, .string salt, .int .i64 rounds, .int .i64 n] w fun e w' => e = .returned (.tuple #[.string (strS pass salt rounds n), .int .i64 0]) ∧ Below w.heap.size w w' := by
  have h1 : ¬ (n : Int) < 0 := by omega
  have h2 : ¬ (1024 : Int) < n := by omega
  have h3 : ¬ (rounds : Int) < 1 := by omega
  have h4 : ¬ (1000 : Int) < rounds := by omega
  obtain ⟨zk, hzk⟩ : ∃ zk : Array Value, zk = (mixZ ++ mixZ).toArray := ⟨_, rfl⟩
  have hkv : ∀ w, (zeroValue 168).run Tryz.prog w = .ok (.agg zk) w := by rw [hzk]; exact (zero_of_info (n := 150) (by kernel_rfl)).1
  have hkn : zk.size = 150 := by rw [hzk]; rfl
  clear hzk
  have hmf : ∀ (fn : Fn) (first cap : Array Value) (w : World), (Instr.makeFunc fn first cap).run Tryz.prog w = .ok (.func fn first cap) w := fun _ _ _ _ => rfl
  have hb0 : Below w.heap.size w ((w.alloc (.cells #[.string salt] 9)).alloc (.cells #[.int .i64 (rounds : Nat)] 3)) := ((Below.refl _ _).alloc (Nat.le_refl _) _).alloc (by simp) _
  have hS0 : Row ((w.alloc (.cells #[.string salt] 9)).alloc (.cells #[.int .i64 (rounds : Nat)] 3)) w.heap.size 9 [.string salt] := heap_alloc2_old w _ _
  have hR0 : Row ((w.alloc (.cells #[.string salt] 9)).alloc (.cells #[.int .i64 (rounds : Nat)] 3)) (w.heap.size + 1) 3 [.int .i64 (rounds : Nat)] := heap_alloc2_new w _ _
  obtain ⟨w0, hw0⟩ : ∃ w0, (w.alloc (.cells #[.string salt] 9)).alloc (.cells #[.int .i64 (rounds : Nat)] 3) = w0 := ⟨_, rfl⟩
  rw [hw0] at hb0 hS0 hR0
  have HK : Hid (First w0 ∧ Cubes w0 ∧ Below w.heap.size w w0 ∧ Row w0 w.heap.size 9 [.string salt] ∧ Row w0 (w.heap.size + 1) 3 [.int .i64 (rounds : Nat)]) := ⟨hf.below hb0 hf.1, hq.below hb0 hq.1, hb0, hS0, hR0⟩
  have cR : w0.cell? ⟨w.heap.size + 1, 0, none⟩ = some (.int .i64 (rounds : Nat)) := hR0.cell 0
  clear hf hq hb0 hS0 hR0
  go_enter Tryz.func48, Tryz.ntmps48
  go_wp2_with fail
  refine (keyOf_any pass hk w0 HK.out.1 HK.out.2.1).mono ?_
  rintro e w1 ⟨R1, R2, hR1, hR2, rfl, hb1⟩
  obtain ⟨cs, hcs⟩ : ∃ cs, cs = (keyV (keyP (numsOf pass)) R1 R2).toArray := ⟨_, rfl⟩
  have hcn : cs.size = 150 := by rw [hcs]; simp [keyV, mixV, mixA, mixT, hR1.1, hR2.1]
  have hone : cs.all (·.oneCell') = true := by
    rw [hcs]
    refine all_oneCell_toArray fun v hv => ?_
    rcases List.mem_append.1 hv with h | h
    · exact mixV_one _ _ _ _ hR1.2 v h
    · exact mixV_one _ _ _ _ hR2.2 v h
  have hinfo : (Tryz.prog.info? 168).map (·.size) = some cs.size := by rw [hcn]; kernel_rfl
  have hs0 : zk.size = cs.size := by rw [hkn, hcn]
  rw [← hcs]
  have HCS : Hid (cs = (keyV (keyP (numsOf pass)) R1 R2).toArray) := hcs
  clear hcs
  go_wp2_with (refine wpList_store_row rfl 168 _ _ rfl w1.heap.size cs rfl rfl 168 _ (heap_alloc_new w1 _) hinfo hs0 hone ?_)
  rw [World.setRow_alloc_new]
  have hle : w0.heap.size ≤ w1.heap.size := hb1.size
  have hSlt := HK.out.2.2.2.1.lt
  have hRlt := HK.out.2.2.2.2.lt
  have hb2 : Below w1.heap.size w1 (w1.alloc (.cells cs 168)) := (Below.refl _ _).alloc (Nat.le_refl _) _
  have kK : Row (w1.alloc (.cells cs 168)) w1.heap.size 168 (keyV (keyP (numsOf pass)) R1 R2) := by rw [HCS.out]; exact heap_alloc_new w1 _
  have hw2s : (w1.alloc (.cells cs 168)).heap.size = w1.heap.size + 1 := by simp
  obtain ⟨w2, hw2⟩ : ∃ w2, w1.alloc (.cells cs 168) = w2 := ⟨_, rfl⟩
  rw [hw2] at hb2 kK hw2s
  rw [hw2]
  have hb2' : Below w0.heap.size w0 w2 := hb1.trans (hb2.mono hle)
  have kS : Row w2 w.heap.size 9 [.string salt] := HK.out.2.2.2.1.below hb2' hSlt
  have kR : Row w2 (w.heap.size + 1) 3 [.int .i64 (rounds : Nat)] := HK.out.2.2.2.2.below hb2' hRlt
  have hq2 : Cubes w2 := HK.out.2.1.below hb2' HK.out.2.1.1
  have hKb : Bytes (keyP (numsOf pass)) := keyP_bytes (numsOf_bytes pass)
  have hKl := keyP_length (numsOf pass)
  have HX : Hid (strS pass salt rounds n = strOfNums (((catD (fun i => strB (keyP (numsOf pass)) (numsOf salt) rounds (i + 1)) ((n + 31) / 32)).take n).map fun (x : Nat) => (x : Int))) := rfl
  generalize keyP (numsOf pass) = K at *
  have hg := gatherS n (by omega) (.pointer (some ⟨w1.heap.size, 0, none⟩)) (.pointer (some ⟨w.heap.size, 0, none⟩)) (.pointer (some ⟨w.heap.size + 1, 0, none⟩)) w1.heap.size (fun i => strB K (numsOf salt) rounds (i + 1)) (fun i => strB_length _ _ _ _)
    (fun _ W => Row W w1.heap.size 168 (keyV K R1 R2) ∧ Row W w.heap.size 9 [.string salt] ∧ Row W (w.heap.size + 1) 3 [.int .i64 (rounds : Nat)] ∧ Cubes W) w2 (by omega) ⟨kK, kS, kR, hq2⟩
    (fun j W1 W2 hI hB => ⟨hI.1.below hB (by omega), hI.2.1.below hB (by omega), hI.2.2.1.below hB (by omega), hI.2.2.2.below hB (by have := HK.out.2.1.1; omega)⟩)
    (fun j W1 hj hI hle => by
      have hp := pieceS_any w1.heap.size w.heap.size (w.heap.size + 1) K hKl hKb R1 R2 hR1 hR2 salt hi rounds (j + 1) hr1 hr2 (by omega) W1 hI.2.2.2 hI.1 hI.2.1 hI.2.2.1
      rw [show ((j : Int) + 1) = ((j + 1 : Nat) : Int) by omega]
      refine hp.mono fun e W2 ⟨he, hB⟩ => ⟨he, ⟨hI.1.below hB hI.1.lt, hI.2.1.below hB hI.2.1.lt, hI.2.2.1.below hB hI.2.2.1.lt, hI.2.2.2.below hB hI.2.2.2.1⟩, Only.of_below hB⟩)
  rw [← HX.out] at hg
  clear hone hinfo hs0 hcn HCS hw2 hb1 hb2 kK kS kR hq2
  go_wp2_with fail
  refine hg.mono ?_
  rintro e w3 ⟨rfl, _, ho3⟩
  have hb3 : Below w.heap.size w w3 := HK.out.2.2.1.trans ((hb2'.mono HK.out.2.2.1.size).trans ((ho3.below (by omega)).mono (by omega)))
  clear ho3 hb2' hg
  go_wp2
  go_ret2
  exact ⟨rfl, hb3⟩

theorem Stretch_out (pass salt : ByteArray) (rounds n : Int) (h : rounds < 1 ∨ 1000 < rounds ∨ n < 0 ∨ 1024 < n) (w : World) :
    Calls Tryz.prog 48 #[.string pass, .string salt, .int .i64 rounds, .int .i64 n] w fun e w' => e = .returned (.tuple #[.string ⟨#[]⟩, .int .i64 1]) ∧ Below w.heap.size w w' := by
  have hb0 : Below w.heap.size w ((w.alloc (.cells #[.string salt] 9)).alloc (.cells #[.int .i64 rounds] 3)) := ((Below.refl _ _).alloc (Nat.le_refl _) _).alloc (by simp) _
  by_cases h1 : rounds < 1
  · go_enter Tryz.func48, Tryz.ntmps48
    go_wp2
    go_ret2
    exact ⟨rfl, hb0⟩
  by_cases h2 : 1000 < rounds
  · go_enter Tryz.func48, Tryz.ntmps48
    go_wp2
    go_ret2
    exact ⟨rfl, hb0⟩
  by_cases h3 : n < 0
  · go_enter Tryz.func48, Tryz.ntmps48
    go_wp2
    go_ret2
    exact ⟨rfl, hb0⟩
  · have h4 : 1024 < n := by omega
    go_enter Tryz.func48, Tryz.ntmps48
    go_wp2
    go_ret2
    exact ⟨rfl, hb0⟩
end Go.Proofs.YtoopaigpjefonaaGreatDoor.Sm

namespace Go.Proofs.YtoopaigpjefonaaGreatDoor.Sm
set_option maxRecDepth 20000
open Go.RowKit

set_option maxRecDepth 10000 in
set_option maxHeartbeats 1000000 in
theorem gatherE (n : Nat) (hn : n ≤ 8160) (c0 c1 c2 : Value) (LB : Nat) (D : Nat → List Nat) (hD : ∀ i, (D i).length = 32) (Inv : Nat → World → Prop) (w : World) (hLB : LB < w.heap.size) (h0 : Inv 0 w)
    (hst : ∀ i w1 w2, Inv i w1 → Below w.heap.size w1 w2 → Inv i w2)
    (hcall : ∀ i w1, i < (n + 31) / 32 → Inv i w1 → w.heap.size ≤ w1.heap.size → Calls Tryz.prog 274 #[.int .i64 ((i : Int) + 1), c0, c1, c2] w1 fun e w2 => e = .returned (.agg (byV (D i)).toArray) ∧ Inv (i + 1) w2 ∧ Only LB w1 w2) :
    Calls Tryz.prog 85 #[.int .i64 n, .func (.func 274) #[] #[c0, c1, c2]] w fun e w' => e = .returned (.string (strOfNums (((catD D ((n + 31) / 32)).take n).map fun (x : Nat) => (x : Int)))) ∧ Inv ((n + 31) / 32) w' ∧ Only LB w w' := by
  obtain ⟨i0, hi, hz0, hz1, hz2⟩ := info_parts info_b8
  obtain ⟨m, hm⟩ : ∃ m, m = (n + 31) / 32 := ⟨_, rfl⟩
  have hm1 : m ≤ 255 := by omega
  have hmn : n ≤ 32 * m := by omega
  have hnm : 32 * m ≤ n + 31 := by omega
  have q1 : IntKind.i64.wrap ((n : Int) + 32) = n + 32 := by rw [IntKind.wrap_i64]; omega
  have q2 : IntKind.i64.wrap ((n : Int) + 32 - 1) = n + 31 := by rw [IntKind.wrap_i64]; omega
  have q3 : ((n : Int) + 31) / 32 = m := by omega
  rw [← hm] at hcall
  rw [← hm]
  obtain ⟨zd, hzd⟩ : ∃ zd : Array Value, zd = (digV []).toArray := ⟨_, rfl⟩
  have hdv : ∀ w, (zeroValue 172).run Tryz.prog w = .ok (.agg zd) w := by rw [hzd]; exact (zero_of_info (n := 32) (by kernel_rfl)).1
  have hzd32 : zd.size = 32 := by rw [hzd]; rfl
  have HC : Hid (∀ i w1, i < m → Inv i w1 → w.heap.size ≤ w1.heap.size → Calls Tryz.prog 274 #[.int .i64 ((i : Int) + 1), c0, c1, c2] w1 fun e w2 => e = .returned (.agg (byV (D i)).toArray) ∧ Inv (i + 1) w2 ∧ Only LB w1 w2) := hcall
  have HST : Hid (∀ i w1 w2, Inv i w1 → Below w.heap.size w1 w2 → Inv i w2) := hst
  have HD : Hid (∀ i, (D i).length = 32) := hD
  have HM : Hid (m = (n + 31) / 32) := hm
  clear hcall hst hzd hm hD
  go_enter Tryz.func85, Tryz.ntmps85
  go_wp2_with fail
  rw [q3]
  go_loopw [5, 12] (fun v i wr => ∃ j : Nat, j ≤ m ∧ i = .int .i64 j ∧ wr.ownsRow w.heap.size 5 1 v (32 * j) (byV (catD D j)) ∧ Inv j wr ∧ Only LB w wr) (fun _ i _ => m - (intOf i).toNat)
  case atStart => exact ⟨0, Nat.zero_le _, rfl, World.ownsRow_nil _ _ _ _, h0, Only.refl _ _⟩
  case round =>
    clear h0
    obtain ⟨j, hj, rfl, hown, hinv, ho⟩ := hrel
    by_cases hlt : j < m
    · have j1 : (j : Int) < m := by omega
      have HR : Hid (wr.ownsRow w.heap.size 5 1 u5 (32 * j) (byV (catD D j)) ∧ Inv j wr ∧ Only LB w wr) := ⟨hown, hinv, ho⟩
      clear hown hinv ho
      go_wp2_with fail
      refine (HC.out j wr hlt HR.out.2.1 HR.out.2.2.size).mono ?_
      rintro e w3 ⟨rfl, hinv3, ho3⟩
      obtain ⟨ds, hds⟩ : ∃ ds, ds = (byV (D j)).toArray := ⟨_, rfl⟩
      have hsz2 : ds.size = 32 := by rw [hds]; simp [byV, HD.out]
      have hone : ds.all (·.oneCell') = true := by rw [hds]; simp [byV, Value.oneCell']
      have hinfo : (Tryz.prog.info? 172).map (·.size) = some ds.size := by rw [hsz2]; kernel_rfl
      have hz32 : zd.size = ds.size := by rw [hzd32, hsz2]
      rw [← hds]
      have hown3 : w3.ownsRow w.heap.size 5 1 u5 (32 * j) (byV (catD D j)) := owns_only HR.out.1 ho3 (fun k hk => by have := (HR.out.1.lt k hk).1; omega)
      have HDS : Hid (ds = (byV (D j)).toArray) := hds
      clear hds
      have hset : (w3.alloc (.cells zd 172)).setRow w3.heap.size ds = w3.alloc (.cells ds 172) := World.setRow_alloc_new _ _ _ _
      have hrow4 : Row (w3.alloc (.cells ds 172)) w3.heap.size 172 (byV (D j)) := by rw [HDS.out]; exact heap_alloc_new w3 _
      have hown4 := hown3.alloc (.cells ds 172)
      have hle3 : w.heap.size ≤ w3.heap.size := Nat.le_trans HR.out.2.2.size ho3.size
      have hb4 : Below w.heap.size w3 (w3.alloc (.cells ds 172)) := (Below.refl _ _).alloc hle3 _
      obtain ⟨w4, hw4⟩ : ∃ w4, w4 = w3.alloc (.cells ds 172) := ⟨_, rfl⟩
      rw [← hw4] at hset hrow4 hown4 hb4
      clear hw4
      have hl32 : (byV (D j)).length = 32 := by simp [byV, HD.out]
      have H4 : Hid (w4.ownsRow w.heap.size 5 1 u5 (32 * j) (byV (catD D j)) ∧ Row w4 w3.heap.size 172 (byV (D j)) ∧ Below w.heap.size w3 w4 ∧ Inv (j + 1) w3 ∧ Only LB w w3 ∧ w.heap.size ≤ w4.heap.size) := ⟨hown4, hrow4, hb4, hinv3, HR.out.2.2.trans ho3, Nat.le_trans hle3 hb4.size⟩
      clear hown3 hown4 hrow4 hb4 hinv3 ho3 HDS HR
      go_wp2_with (first | (at_builtin; refine wpList_append_own _ rfl _ _ 143 rfl w.heap.size 5 i0 (.int .u8 0) 1 1 Tryz.underlying143 hi hz0 hz1 hz2 rfl (by decide) u5 (32 * j) _ rfl H4.out.1 ⟨w3.heap.size, 0, none⟩ 32 32 (byV (D j)) rfl ?c1 (World.news_of_block H4.out.2.1) (byV_one _) ?c3 ?c4 H4.out.2.2.2.2.2 ?_) | (refine wpList_store_row rfl 172 _ _ rfl w3.heap.size ds rfl rfl 172 _ (heap_alloc_new w3 _) hinfo hz32 hone ?_; rw [hset]))
      case c1 => rw [hl32]
      case c3 => unfold maxLen; omega
      case c4 => omega
      intro v' w5 hown5 hgrow5 _
      have hb5 : Below w.heap.size w3 w5 := H4.out.2.2.1.grown hgrow5 H4.out.2.2.2.2.2 (fun k hk => (H4.out.1.lt k hk).1)
      have HF : Hid (w5.ownsRow w.heap.size 5 1 v' (32 * (j + 1)) (byV (catD D (j + 1))) ∧ Inv (j + 1) w5 ∧ Only LB w w5) := ⟨by
        rw [catD, byV_append]; exact hown5, HST.out _ _ _ H4.out.2.2.2.1 hb5, only_below H4.out.2.2.2.2.1 hb5⟩
      clear hown5 hgrow5 hb5 H4 hl32
      go_wp2
      go_roundw
      case rel => exact ⟨j + 1, by omega, by go_num, HF.out.1, HF.out.2.1, HF.out.2.2⟩
      case measure => simp [intOf]; omega
    · obtain rfl : j = m := by omega
      by_cases hn0 : n = 0
      · subst hn0
        obtain rfl : j = 0 := by omega
        have hv : u5 = .slice none 0 0 ∨ ∃ g cap, u5 = .slice (some ⟨g, 0, none⟩) 0 cap := by
          rcases hown.2 with ⟨h, _⟩ | ⟨g, cap, cur, h, _⟩
          · exact .inl h
          · exact .inr ⟨g, cap, h⟩
        have HF : Hid (Inv 0 wr ∧ Only LB w wr ∧ strOfNums (((catD D 0).take 0).map fun (x : Nat) => (x : Int)) = ByteArray.empty) := ⟨hinv, ho, rfl⟩
        clear hown hinv ho
        rcases hv with rfl | ⟨g, cap, rfl⟩
        · have hcv := fun W => run_convert_bytes_nil (P := Tryz.prog) W 143 5 Tryz.underlying143 Tryz.underlying5 0 0 9 Tryz.underlying9
          go_wp2
          first
            | (rw [hcv]; go_wp2)
            | skip
          go_ret
          exact ⟨rfl, HF.out.1, HF.out.2.1⟩
        · have hcv := fun W => run_convert_bytes_arg (P := Tryz.prog) W 143 5 Tryz.underlying143 Tryz.underlying5 g 0 0 cap [] rfl (fun i hi => absurd hi (Nat.not_lt_zero i)) 9 Tryz.underlying9
          have hc0 : (0 : Int) ≤ cap := by omega
          go_wp2
          first
            | (rw [hcv]; go_wp2)
            | skip
          go_ret
          exact ⟨rfl, HF.out.1, HF.out.2.1⟩
      · obtain ⟨g, cap, rfl, _, _⟩ := hown.form (by omega)
        have hcl : 32 * j ≤ cap := by
          rcases hown.2 with ⟨h, _⟩ | ⟨g', cap', cur, h, _, _, hc, _⟩
          · simp at h
          · simp only [Value.slice.injEq, Option.some.injEq, Addr.mk.injEq, and_true, true_and] at h
            omega
        have hnc : (n : Int) ≤ cap := by omega
        have hcl2 : (catD D j).length = 32 * j := catD_length D HD.out j
        have hcv := run_convert_bytes_arg (P := Tryz.prog) wr 143 5 Tryz.underlying143 Tryz.underlying5 g 0 n cap (((catD D j).take n).map fun (x : Nat) => (x : Int)) (by simp; omega) (fun i hi => by
          rw [Nat.zero_add, hown.cellAt i (by omega), byV_get _ _ (by omega), getD_at _ _ (by omega)]
          have h1 : i < ((catD D j).take n).length := by simp; omega
          rw [List.getD_eq_getElem?_getD, List.getElem?_map, List.getElem?_eq_getElem h1, List.getElem_take]; rfl) 9 Tryz.underlying9
        have HF : Hid (Inv j wr ∧ Only LB w wr) := ⟨hinv, ho⟩
        clear hown hinv ho
        obtain ⟨X, hX⟩ : ∃ X, X = strOfNums (((catD D j).take n).map fun (x : Nat) => (x : Int)) := ⟨_, rfl⟩
        rw [← hX] at hcv
        have HX : Hid (X = strOfNums (((catD D j).take n).map fun (x : Nat) => (x : Int))) := hX
        clear hX
        go_wp2
        first
          | (rw [hcv]; go_wp2)
          | skip
        go_ret
        exact ⟨by first | (rw [HX.out]; rfl) | (rw [HX.out, List.map_take]; rfl), HF.out.1, HF.out.2⟩
end Go.Proofs.YtoopaigpjefonaaGreatDoor.Sm

namespace Go.Proofs.YtoopaigpjefonaaGreatDoor.Sm
set_option maxRecDepth 20000
open Go.RowKit

/-- Three texts. -/
def three (a b c : ByteArray) : Nat → ByteArray
  | 0 => a
  | 1 => b
  | _ => c
theorem three_size (a b c : ByteArray) (ha : a.size ≤ 1048576) (hb : b.size ≤ 1048576) (hc : c.size = 1) : ∀ j, j ≤ 3 → (catS (three a b c) j).length < 549755813888 := by
  intro j hj
  have h : j = 0 ∨ j = 1 ∨ j = 2 ∨ j = 3 := by omega
  rcases h with rfl | rfl | rfl | rfl
  all_goals simp [catS, three, numsOf_length]
  all_goals omega

set_option maxRecDepth 10000 in
set_option maxHeartbeats 1000000 in
theorem piece_any (KB LB IB : Nat) (K : List Nat) (hKl : K.length = 64) (hKb : Bytes K) (R1 R2 : List Value) (hR1 : RestOk R1) (hR2 : RestOk R2) (last info : ByteArray) (hl : last.size ≤ 1048576) (hi : info.size ≤ 1048576) (i : Nat) (hi2 : i < 256) (w : World) (hq : Cubes w)
    (hr : Row w KB 168 (keyV K R1 R2)) (hL : Row w LB 9 [.string last]) (hI : Row w IB 9 [.string info]) :
    Calls Tryz.prog 274 #[.int .i64 i, .pointer (some ⟨KB, 0, none⟩), .pointer (some ⟨LB, 0, none⟩), .pointer (some ⟨IB, 0, none⟩)] w fun e w' => e = .returned (.agg (byV (macL K (numsOf last ++ numsOf info ++ [i]))).toArray) ∧ Row w' LB 9 [.string (strOfNums ((macL K (numsOf last ++ numsOf info ++ [i])).map fun (x : Nat) => (x : Int)))] ∧ Only LB w w' := by
  obtain ⟨zd, hzd⟩ : ∃ zd : Array Value, zd = (digV []).toArray := ⟨_, rfl⟩
  have hdv : ∀ w, (zeroValue 172).run Tryz.prog w = .ok (.agg zd) w := by rw [hzd]; exact (zero_of_info (n := 32) (by kernel_rfl)).1
  have hzd32 : zd.size = 32 := by rw [hzd]; rfl
  have hb0 : Below w.heap.size w (w.alloc (.cells zd 172)) := (Below.refl _ _).alloc (Nat.le_refl _) _
  have hd0 : Row (w.alloc (.cells zd 172)) w.heap.size 172 (digV []) := by rw [hzd]; exact heap_alloc_new w _
  obtain ⟨w0, hw0⟩ : ∃ w0, w.alloc (.cells zd 172) = w0 := ⟨_, rfl⟩
  have hw0s : w0.heap.size = w.heap.size + 1 := by rw [← hw0]; simp
  rw [hw0] at hb0 hd0
  have hr0 := hr.below hb0 hr.lt
  have hL0 := hL.below hb0 hL.lt
  have hI0 := hI.below hb0 hI.lt
  have hq0 : Cubes w0 := hq.below hb0 hq.1
  have cL : w0.cell? ⟨LB, 0, none⟩ = some (.string last) := hL0.cell 0
  have cI : w0.cell? ⟨IB, 0, none⟩ = some (.string info) := hI0.cell 0
  have zi : IntKind.u8.wrap (i : Int) = i := by rw [IntKind.wrap_u8]; omega
  have hIlt := hI0.lt
  have cI2 : ∀ o, (w0.alloc o).cell? ⟨IB, 0, none⟩ = some (.string info) := fun o => (World.cell?_of_block (Below.heap_alloc w0 o IB (by omega))).trans cI
  have hcv := run_convert_bytes_arg (P := Tryz.prog) (w0.alloc (.cells #[.int .u8 (i : Int)] 5)) 143 5 Tryz.underlying143 Tryz.underlying5 w0.heap.size 0 1 1 [(i : Int)] rfl (fun j hj => by
    obtain rfl : j = 0 := by omega
    exact (cell_of_row _ _ _ _ _ _ (heap_alloc_new w0 _))) 9 Tryz.underlying9
  obtain ⟨bs, hbs⟩ : ∃ bs, bs = strOfNums [(i : Int)] := ⟨_, rfl⟩
  rw [← hbs, hw0s] at hcv
  have hbn : numsOf bs = [i] := by rw [hbs]; exact numsOf_str [i] (fun x hx => by rw [List.mem_singleton] at hx; omega)
  have H0 : Hid (Row w0 KB 168 (keyV K R1 R2) ∧ Row w0 LB 9 [.string last] ∧ Row w0 IB 9 [.string info] ∧ Cubes w0 ∧ Below w.heap.size w w0 ∧ Row w0 w.heap.size 172 (digV []) ∧ numsOf bs = [i] ∧ LB < w.heap.size) := ⟨hr0, hL0, hI0, hq0, hb0, hd0, hbn, hL.lt⟩
  clear hzd hr hL hI hq hr0 hL0 hI0 hq0 hb0 hd0 hbn hbs
  go_enter Tryz.func274, Tryz.ntmps274
  go_wp2_with fail
  first
    | (rw [hcv]; go_wp2_with fail)
    | skip
  have hst : Strs ((w0.alloc (.cells #[.int .u8 (i : Int)] 5)).alloc (.cells #[.string last, .string info, .string bs] 9)) (.slice (some ⟨w.heap.size + 1 + 1, 0, none⟩) 3 3) 3 (three last info bs) := by
    refine ⟨_, _, rfl, by unfold maxLen; decide, .inr ⟨w.heap.size + 1 + 1, 0, rfl, by simp; omega, fun j hj => ?_⟩⟩
    have h2 := heap_alloc2_new w0 (.cells #[.int .u8 (i : Int)] 5) (.cells #[.string last, .string info, .string bs] 9)
    rw [hw0s] at h2
    rw [cell_of_row _ _ _ _ _ _ h2, Nat.zero_add]
    match j, hj with
    | 0, _ => rfl
    | 1, _ => rfl
    | 2, _ => rfl
  have hcat : catS (three last info bs) 3 = numsOf last ++ numsOf info ++ [i] := by
    rw [← H0.out.2.2.2.2.2.2.1]; rfl
  have hb2 : Below w0.heap.size w0 ((w0.alloc (.cells #[.int .u8 (i : Int)] 5)).alloc (.cells #[.string last, .string info, .string bs] 9)) := ((Below.refl _ _).alloc (Nat.le_refl _) _).alloc (by simp) _
  obtain ⟨w2, hw2⟩ : ∃ w2, (w0.alloc (.cells #[.int .u8 (i : Int)] 5)).alloc (.cells #[.string last, .string info, .string bs] 9) = w2 := ⟨_, rfl⟩
  rw [hw2] at hst hb2
  rw [hw2]
  have hbl : bs.size = 1 := by rw [← numsOf_length, H0.out.2.2.2.2.2.2.1]; rfl
  have hmc := mac_any KB K hKl hKb R1 R2 hR1 hR2 _ 3 (three last info bs) w2 hst (three_size last info bs hl hi hbl) (H0.out.2.2.2.1.below hb2 H0.out.2.2.2.1.1) (H0.out.1.below hb2 H0.out.1.lt)
  rw [hcat] at hmc
  have HMC : Hid (Calls Tryz.prog 128 #[.pointer (some ⟨KB, 0, none⟩), .slice (some ⟨w.heap.size + 1 + 1, 0, none⟩) 3 3] w2 fun e w' => e = .returned (.agg (byV (macL K (numsOf last ++ numsOf info ++ [i]))).toArray) ∧ Below w2.heap.size w2 w') := hmc
  clear hmc hst hw2 hcat
  refine HMC.out.mono ?_
  rintro e w3 ⟨rfl, hb3⟩
  have hb3' := hb2.trans (hb3.mono hb2.size)
  clear HMC hb2 hb3 hcv cI2
  obtain ⟨M, hM⟩ : ∃ M, M = macL K (numsOf last ++ numsOf info ++ [i]) := ⟨_, rfl⟩
  have hMl : M.length = 32 := by rw [hM]; exact macL_length _ _
  have HMM : Hid (M = macL K (numsOf last ++ numsOf info ++ [i])) := hM
  rw [← hM]
  clear hM
  obtain ⟨ds, hds⟩ : ∃ ds, ds = (byV M).toArray := ⟨_, rfl⟩
  have hsz2 : ds.size = 32 := by rw [hds]; simp [byV, hMl]
  have hone : ds.all (·.oneCell') = true := by rw [hds]; simp [byV, Value.oneCell']
  have hinfo : (Tryz.prog.info? 172).map (·.size) = some ds.size := by rw [hsz2]; kernel_rfl
  have hz32 : zd.size = ds.size := by rw [hzd32, hsz2]
  rw [← hds]
  have HDS : Hid (ds = (byV M).toArray) := hds
  clear hds
  have hset : (w3.alloc (.cells zd 172)).setRow w3.heap.size ds = w3.alloc (.cells ds 172) := World.setRow_alloc_new _ _ _ _
  have k4 : Row (w3.alloc (.cells ds 172)) w3.heap.size 172 (byV M) := by rw [HDS.out]; exact heap_alloc_new w3 _
  have hb4 := hb3'.alloc hb3'.size (.cells ds 172)
  obtain ⟨w4, hw4⟩ : ∃ w4, w4 = w3.alloc (.cells ds 172) := ⟨_, rfl⟩
  rw [← hw4] at hset k4 hb4
  clear hw4
  have hcv2 := run_convert_bytes_arg (P := Tryz.prog) w4 143 5 Tryz.underlying143 Tryz.underlying5 w3.heap.size 0 32 32 (M.map fun (x : Nat) => (x : Int)) (by simp [hMl]) (fun i hi => by
    rw [Nat.zero_add, k4.cell, byV_get _ _ (by rw [hMl]; exact hi)]
    simp [List.getD, hMl, hi]) 9 Tryz.underlying9
  obtain ⟨X, hX⟩ : ∃ X, X = strOfNums (M.map fun (x : Nat) => (x : Int)) := ⟨_, rfl⟩
  rw [← hX] at hcv2
  have HX : Hid (X = strOfNums (M.map fun (x : Nat) => (x : Int))) := hX
  clear hX
  have hL4 := H0.out.2.1.below hb4 H0.out.2.1.lt
  have cL4 : w4.cell? ⟨LB, 0, none⟩ = some (.string last) := hL4.cell 0
  have fL4 : w4.frozen? ⟨LB, 0, none⟩ = false := hL4.frozen 0
  have hlt3 : w0.heap.size ≤ w3.heap.size := hb3'.size
  have hL5 : Row (w4.setCell ⟨LB, 0, none⟩ (.string X)) LB 9 [.string X] := Row.set (A := []) (C := []) (q := .string last) hL4 (.string X) rfl
  have ho5 : Only LB w4 (w4.setCell ⟨LB, 0, none⟩ (.string X)) := (Only.refl _ _).setCell _ _
  obtain ⟨w5, hw5⟩ : ∃ w5, w4.setCell ⟨LB, 0, none⟩ (.string X) = w5 := ⟨_, rfl⟩
  rw [hw5] at hL5 ho5
  have k5 : w5.heap[w3.heap.size]? = some (.cells ds 172 (0, 0)) := by rw [HDS.out]; exact k4.only ho5 (by have := H0.out.2.2.2.2.2.2.2; omega)
  have hd5 : w5.heap[w.heap.size]? = some (.cells (digV []).toArray 172 (0, 0)) := (H0.out.2.2.2.2.2.1.below hb4 H0.out.2.2.2.2.2.1.lt).only ho5 (by have := H0.out.2.2.2.2.2.2.2; omega)
  have hs0 : (digV []).toArray.size = ds.size := by rw [hsz2]; rfl
  have hl0 := run_loadVar_row (P := Tryz.prog) (w5.setRow w.heap.size ds) w.heap.size 172 172 ds (0, 0) _ (setRow_heap _ _ _ _ _ _ hd5) Tryz.underlying172 rfl hinfo
  have HF : Hid (Row (w5.setRow w.heap.size ds) LB 9 [.string X] ∧ Only LB w (w5.setRow w.heap.size ds)) := by
    have hLlt := H0.out.2.2.2.2.2.2.2
    have hbw : Below w.heap.size w w4 := H0.out.2.2.2.2.1.trans (hb4.mono H0.out.2.2.2.2.1.size)
    refine ⟨(setRow_other _ _ _ _ (by omega)).trans hL5, ?_⟩
    exact only_below ((Only.of_below hbw).trans ho5) (below_rowH (Below.refl _ _) (Nat.le_refl _) ds)
  clear hL4 hL5 ho5 k4 hb4 hb3'
  go_wp2_with (first | refine wpList_load_row rfl 172 _ rfl w3.heap.size rfl 172 _ (0, 0) _ k5 Tryz.underlying172 rfl hinfo ?_ | (refine wpList_store_row rfl 172 _ _ rfl w3.heap.size ds rfl rfl 172 _ (heap_alloc_new w3 _) hinfo hz32 hone ?_; rw [hset]) | refine wpList_store_row rfl 172 _ _ rfl w.heap.size ds rfl rfl 172 _ hd5 hinfo hs0 hone ?_)
  exact bodyPost_ret (v := .agg ds) (by simp [results, Tryz.results274, asAddr, Act.put, hl0]) rfl ⟨by rw [HDS.out, HMM.out], by rw [← HMM.out, ← HX.out]; exact HF.out.1, HF.out.2⟩
end Go.Proofs.YtoopaigpjefonaaGreatDoor.Sm

namespace Go.Proofs.YtoopaigpjefonaaGreatDoor.Sm
set_option maxRecDepth 20000
open Go.RowKit

/-- HKDF's pieces: the i-th; the one ahead of the first is empty. -/
def expT (K info : List Nat) : Nat → List Nat
  | 0 => []
  | i + 1 => macL K (expT K info i ++ info ++ [(i + 1) % 256])
def expL (K info : List Nat) (n : Nat) : List Nat := (catD (fun i => expT K info (i + 1)) ((n + 31) / 32)).take n
def expS (key info : ByteArray) (n : Nat) : ByteArray := strOfNums ((expL (keyP (numsOf key)) (numsOf info) n).map fun (x : Nat) => (x : Int))
def tS (K info : List Nat) (i : Nat) : ByteArray := strOfNums ((expT K info i).map fun (x : Nat) => (x : Int))
theorem expT_bytes (K info : List Nat) (i : Nat) : Bytes (expT K info i) := by
  cases i with
  | zero => intro x hx; simp [expT] at hx
  | succ i => exact macL_bytes _ _
theorem expT_length (K info : List Nat) (i : Nat) : (expT K info (i + 1)).length = 32 := macL_length _ _
theorem tS_nums (K info : List Nat) (i : Nat) : numsOf (tS K info i) = expT K info i := numsOf_str _ (expT_bytes K info i)
theorem tS_size (K info : List Nat) (i : Nat) : (tS K info i).size ≤ 32 := by
  rw [← numsOf_length, tS_nums]
  cases i with
  | zero => exact Nat.zero_le _
  | succ i => rw [expT_length]; exact Nat.le_refl _

set_option maxRecDepth 10000 in
set_option maxHeartbeats 1000000 in
theorem Expand_in (key info : ByteArray) (n : Nat) (hn : n ≤ 8160) (hk : key.size < 1099511627776) (hi : info.size ≤ 1048576) (w : World) (hf : First w) (hq : Cubes w) :
    Calls Tryz.prog 266 #[.string key, .string info, .int .i64 n] w fun e w' => e = .returned (.tuple #[.string (expS key info n), .int .i64 0]) ∧ Below w.heap.size w w' := by
  have h1 : ¬ (n : Int) < 0 := by omega
  have h2 : ¬ (8160 : Int) < n := by omega
  obtain ⟨zk, hzk⟩ : ∃ zk : Array Value, zk = (mixZ ++ mixZ).toArray := ⟨_, rfl⟩
  have hkv : ∀ w, (zeroValue 168).run Tryz.prog w = .ok (.agg zk) w := by rw [hzk]; exact (zero_of_info (n := 150) (by kernel_rfl)).1
  have hkn : zk.size = 150 := by rw [hzk]; rfl
  clear hzk
  have hb0 : Below w.heap.size w (w.alloc (.cells #[.string info] 9)) := (Below.refl _ _).alloc (Nat.le_refl _) _
  have hI0 : Row (w.alloc (.cells #[.string info] 9)) w.heap.size 9 [.string info] := heap_alloc_new w _
  have hmf : ∀ (fn : Fn) (first cap : Array Value) (w : World), (Instr.makeFunc fn first cap).run Tryz.prog w = .ok (.func fn first cap) w := fun _ _ _ _ => rfl
  obtain ⟨w0, hw0⟩ : ∃ w0, w.alloc (.cells #[.string info] 9) = w0 := ⟨_, rfl⟩
  rw [hw0] at hb0 hI0
  have HK : Hid (First w0 ∧ Cubes w0 ∧ Below w.heap.size w w0 ∧ Row w0 w.heap.size 9 [.string info]) := ⟨hf.below hb0 hf.1, hq.below hb0 hq.1, hb0, hI0⟩
  clear hf hq hb0 hI0
  go_enter Tryz.func266, Tryz.ntmps266
  go_wp2_with fail
  refine (keyOf_any key hk w0 HK.out.1 HK.out.2.1).mono ?_
  rintro e w1 ⟨R1, R2, hR1, hR2, rfl, hb1⟩
  obtain ⟨cs, hcs⟩ : ∃ cs, cs = (keyV (keyP (numsOf key)) R1 R2).toArray := ⟨_, rfl⟩
  have hcn : cs.size = 150 := by rw [hcs]; simp [keyV, mixV, mixA, mixT, hR1.1, hR2.1]
  have hone : cs.all (·.oneCell') = true := by
    rw [hcs]
    refine all_oneCell_toArray fun v hv => ?_
    rcases List.mem_append.1 hv with h | h
    · exact mixV_one _ _ _ _ hR1.2 v h
    · exact mixV_one _ _ _ _ hR2.2 v h
  have hinfo : (Tryz.prog.info? 168).map (·.size) = some cs.size := by rw [hcn]; kernel_rfl
  have hs0 : zk.size = cs.size := by rw [hkn, hcn]
  rw [← hcs]
  have HCS : Hid (cs = (keyV (keyP (numsOf key)) R1 R2).toArray) := hcs
  clear hcs
  go_wp2_with (refine wpList_store_row rfl 168 _ _ rfl w1.heap.size cs rfl rfl 168 _ (heap_alloc_new w1 _) hinfo hs0 hone ?_)
  rw [World.setRow_alloc_new]
  have hle : w0.heap.size ≤ w1.heap.size := hb1.size
  have hIlt := HK.out.2.2.2.lt
  have hb2 : Below w1.heap.size w1 ((w1.alloc (.cells cs 168)).alloc (.cells #[.string ⟨#[]⟩] 9)) := ((Below.refl _ _).alloc (Nat.le_refl _) _).alloc (by simp) _
  have kK : Row ((w1.alloc (.cells cs 168)).alloc (.cells #[.string ⟨#[]⟩] 9)) w1.heap.size 168 (keyV (keyP (numsOf key)) R1 R2) := by
    have := heap_alloc2_old w1 (.cells cs 168) (.cells #[.string ⟨#[]⟩] 9)
    rw [Row, this, HCS.out]
  have kL : Row ((w1.alloc (.cells cs 168)).alloc (.cells #[.string ⟨#[]⟩] 9)) (w1.heap.size + 1) 9 [.string ⟨#[]⟩] := heap_alloc2_new w1 _ _
  have hw2s : ((w1.alloc (.cells cs 168)).alloc (.cells #[.string ⟨#[]⟩] 9)).heap.size = w1.heap.size + 1 + 1 := by simp
  obtain ⟨w2, hw2⟩ : ∃ w2, (w1.alloc (.cells cs 168)).alloc (.cells #[.string ⟨#[]⟩] 9) = w2 := ⟨_, rfl⟩
  rw [hw2] at hb2 kK kL hw2s
  rw [hw2]
  have hb2' : Below w0.heap.size w0 w2 := hb1.trans (hb2.mono hle)
  have kI : Row w2 w.heap.size 9 [.string info] := HK.out.2.2.2.below hb2' hIlt
  have hq2 : Cubes w2 := HK.out.2.1.below hb2' HK.out.2.1.1
  have hKb : Bytes (keyP (numsOf key)) := keyP_bytes (numsOf_bytes key)
  have hKl := keyP_length (numsOf key)
  have HX : Hid (expS key info n = strOfNums (((catD (fun i => expT (keyP (numsOf key)) (numsOf info) (i + 1)) ((n + 31) / 32)).take n).map fun (x : Nat) => (x : Int))) := rfl
  generalize keyP (numsOf key) = K at *
  have hg := gatherE n hn (.pointer (some ⟨w1.heap.size, 0, none⟩)) (.pointer (some ⟨w1.heap.size + 1, 0, none⟩)) (.pointer (some ⟨w.heap.size, 0, none⟩)) (w1.heap.size + 1) (fun i => expT K (numsOf info) (i + 1)) (fun i => expT_length _ _ _)
    (fun j W => Row W w1.heap.size 168 (keyV K R1 R2) ∧ Row W (w1.heap.size + 1) 9 [.string (tS K (numsOf info) j)] ∧ Row W w.heap.size 9 [.string info] ∧ Cubes W) w2 (by omega) ⟨kK, kL, kI, hq2⟩
    (fun j W1 W2 hI hB => ⟨hI.1.below hB (by omega), hI.2.1.below hB (by omega), hI.2.2.1.below hB (by omega), hI.2.2.2.below hB (by have := HK.out.2.1.1; omega)⟩)
    (fun j W1 hj hI hle => by
      have hp := piece_any w1.heap.size (w1.heap.size + 1) w.heap.size K hKl hKb R1 R2 hR1 hR2 (tS K (numsOf info) j) info (Nat.le_trans (tS_size _ _ _) (by decide)) hi (j + 1) (by omega) W1 hI.2.2.2 hI.1 hI.2.1 hI.2.2.1
      rw [tS_nums] at hp
      have e1 : macL K (expT K (numsOf info) j ++ numsOf info ++ [j + 1]) = expT K (numsOf info) (j + 1) := by
        rw [expT, Nat.mod_eq_of_lt (by omega)]
      rw [e1] at hp
      rw [show ((j : Int) + 1) = ((j + 1 : Nat) : Int) by omega]
      refine hp.mono fun e W2 ⟨he, hL, ho⟩ => ⟨he, ⟨hI.1.only ho (by omega), hL, hI.2.2.1.only ho (by omega), hI.2.2.2.only ho (by have := HK.out.2.1.1; omega)⟩, ho⟩)
  rw [← HX.out] at hg
  clear hone hinfo hs0 hcn HCS hw2 hb1 hb2 kK kL kI hq2
  refine hg.mono ?_
  rintro e w3 ⟨rfl, _, ho3⟩
  have hb3 : Below w.heap.size w w3 := HK.out.2.2.1.trans ((hb2'.mono HK.out.2.2.1.size).trans ((ho3.below (by omega)).mono (by omega)))
  clear ho3 hb2' hg
  go_wp2
  go_ret2
  exact ⟨rfl, hb3⟩

theorem Expand_out (key info : ByteArray) (n : Int) (hn : n < 0 ∨ 8160 < n) (w : World) :
    Calls Tryz.prog 266 #[.string key, .string info, .int .i64 n] w fun e w' => e = .returned (.tuple #[.string ⟨#[]⟩, .int .i64 1]) ∧ Below w.heap.size w w' := by
  have hb0 : Below w.heap.size w (w.alloc (.cells #[.string info] 9)) := (Below.refl _ _).alloc (Nat.le_refl _) _
  rcases hn with h | h
  · go_enter Tryz.func266, Tryz.ntmps266
    go_wp2
    go_ret2
    exact ⟨rfl, hb0⟩
  · have h1 : ¬ n < 0 := by omega
    go_enter Tryz.func266, Tryz.ntmps266
    go_wp2
    go_ret2
    exact ⟨rfl, hb0⟩
end Go.Proofs.YtoopaigpjefonaaGreatDoor.Sm

namespace Go.Proofs.YtoopaigpjefonaaGreatDoor.Sm
set_option maxRecDepth 20000
open Go.RowKit

end Go.Proofs.YtoopaigpjefonaaGreatDoor.Sm
