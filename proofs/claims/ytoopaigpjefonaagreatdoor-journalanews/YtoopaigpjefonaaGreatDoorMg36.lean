/- box.word and stateOf: the words of a key and a nonce. · append onto a row that the call owns, elements of one cell: what stood in the old row stands there still. · A slice that the call owns, told by its cells alone (the row of []byte(s) bears a mark behind its end); append onto it; []byte(s). -/
import Derived.Test.YtoopaigpjefonaaGreatDoorMg35
import Derived.Test.YtoopaigpjefonaaGreatDoorProg
import Derived.Deep.AppendLies
import Derived.Lib.ConvBytes
import Derived.Laws.IdiomCopy
import Derived.Deep.Upon
namespace Go.Proofs.YtoopaigpjefonaaGreatDoor.Bx
set_option maxRecDepth 20000
open Go.RowKit

theorem or_step32 (i n x k : Nat) (hk : k = 2 ^ i) (hn : n < 2 ^ i) (hx : x < 256) (hi : i ≤ 24) : bits .or .u32 (n : Int) ((x : Int) * (k : Int)) = ((n + x * k : Nat) : Int) := by
  subst hk
  have h1 : 2 ^ i ≤ 2 ^ 24 := Nat.pow_le_pow_right (by decide) hi
  have h2 : x * 2 ^ i ≤ 255 * 2 ^ i := Nat.mul_le_mul_right _ (by omega)
  rw [← Int.natCast_mul, u32_or_nat _ _ (by omega) (by omega), Nat.or_comm, nat_join i _ _ (Nat.mul_mod_left _ _) hn, Nat.add_comm]
theorem word_bits (x0 x1 x2 x3 : Nat) (h0 : x0 < 256) (h1 : x1 < 256) (h2 : x2 < 256) (h3 : x3 < 256) :
    ∃ n1 n2 : Nat, bits .or .u32 (x0 : Int) ((x1 : Int) * 256) = (n1 : Int) ∧ bits .or .u32 (n1 : Int) ((x2 : Int) * 65536) = (n2 : Int) ∧ bits .or .u32 (n2 : Int) ((x3 : Int) * 16777216) = ((x0 + x1 * 256 + x2 * 65536 + x3 * 16777216 : Nat) : Int) :=
  ⟨x0 + x1 * 256, x0 + x1 * 256 + x2 * 65536, or_step32 8 _ x1 256 rfl (by omega) h1 (by decide), or_step32 16 _ x2 65536 rfl (by omega) h2 (by decide), or_step32 24 _ x3 16777216 rfl (by omega) h3 (by decide)⟩
theorem nums_at (s : ByteArray) (i : Nat) (h : i < s.size) : (numsOf s).getD i 0 = s[i].toNat := by
  rw [getD_at _ _ (by rw [numsOf_length]; exact h)]
  simp [numsOf]
  rfl

set_option maxHeartbeats 1000000 in
theorem word_any (s : ByteArray) (hs : 4 ≤ s.size) (w : World) :
    Calls Tryz.prog 259 #[.string s] w fun e w' => e = .returned (.int .u32 (wordL (numsOf s) 0 : Nat)) ∧ ∃ n, w' = w.drewN n := by
  obtain ⟨n1, n2, v1, v2, v3⟩ := word_bits s[0].toNat s[1].toNat s[2].toNat s[3].toNat s[0].toNat_lt s[1].toNat_lt s[2].toNat_lt s[3].toNat_lt
  have e : wordL (numsOf s) 0 = s[0].toNat + s[1].toNat * 256 + s[2].toNat * 65536 + s[3].toNat * 16777216 := by
    unfold wordL
    rw [nums_at s 0 (by omega), nums_at s (0 + 1) (by omega), nums_at s (0 + 2) (by omega), nums_at s (0 + 3) (by omega)]
  rw [← e] at v3
  generalize wordL (numsOf s) 0 = W at *
  clear e
  have b0 := s[0].toNat_lt
  have b1 := s[1].toNat_lt
  have b2 := s[2].toNat_lt
  have b3 := s[3].toNat_lt
  have i0 : (0 : Int) < s.size := by omega
  have i1 : (1 : Int) < s.size := by omega
  have i2 : (2 : Int) < s.size := by omega
  have i3 : (3 : Int) < s.size := by omega
  have j0 : 0 < s.size := by omega
  have j1 : 1 < s.size := by omega
  have j2 : 2 < s.size := by omega
  have j3 : 3 < s.size := by omega
  go_enter Tryz.func259, Tryz.ntmps259
  go_wp2_with fail
  go_quiet (fail)
  go_wp2
  go_ret
  exact ⟨rfl, _, rfl⟩

/-- The sixteen words, of which some are laid. -/
def stF (K N : List Nat) (i j k : Nat) : Nat := if k = 0 then 0x61707865 else if k = 1 then 0x3320646e else if k = 2 then 0x79622d32 else if k = 3 then 0x6b206574 else if 4 ≤ k ∧ k < 4 + i then wordL K (4 * (k - 4)) else if 13 ≤ k ∧ k < 13 + j then wordL N (4 * (k - 13)) else 0
theorem stF_key (K N : List Nat) (i k : Nat) (h : i < 8) : (if k = 4 + i then wordL K (4 * i) else stF K N i 0 k) = stF K N (i + 1) 0 k := by
  unfold stF
  by_cases e : k = 4 + i
  · subst e
    rw [if_pos rfl, if_neg (by omega), if_neg (by omega), if_neg (by omega), if_neg (by omega), if_pos (by omega), show 4 + i - 4 = i by omega]
  · rw [if_neg e]
    have h1 : (4 ≤ k ∧ k < 4 + (i + 1)) = (4 ≤ k ∧ k < 4 + i) := propext ⟨fun h => by omega, fun h => by omega⟩
    simp only [h1]
theorem stF_nonce (K N : List Nat) (j k : Nat) : (if k = 13 + j then wordL N (4 * j) else stF K N 8 j k) = stF K N 8 (j + 1) k := by
  unfold stF
  by_cases e : k = 13 + j
  · subst e
    rw [if_pos rfl, if_neg (by omega), if_neg (by omega), if_neg (by omega), if_neg (by omega), if_neg (by omega), if_pos (by omega), show 13 + j - 13 = j by omega]
  · rw [if_neg e]
    have h1 : (13 ≤ k ∧ k < 13 + (j + 1)) = (13 ≤ k ∧ k < 13 + j) := propext ⟨fun h => by omega, fun h => by omega⟩
    simp only [h1]
theorem stF_all (K N : List Nat) : (rowF 16 fun k => .int .u32 (stF K N 8 3 k : Nat)) = wdV (st16 K N 0).toL := rfl
theorem wordL_drop (l : List Nat) (p : Nat) : wordL (l.drop p) 0 = wordL l p := by
  unfold wordL
  have h : ∀ i, (l.drop p).getD i 0 = l.getD (p + i) 0 := fun i => by rw [List.getD_eq_getElem?_getD, List.getD_eq_getElem?_getD, List.getElem?_drop]
  rw [h, h, h, h]
  rfl
theorem wordL_extract (s : ByteArray) (p : Nat) : wordL (numsOf (s.extract p s.size)) 0 = wordL (numsOf s) p := by
  rw [numsOf_extract, List.take_of_length_le (by simp [numsOf_length]), wordL_drop]

set_option maxRecDepth 10000 in
set_option maxHeartbeats 2000000 in
theorem stateOf_any (key nonce : ByteArray) (hk : key.size = 32) (hn : nonce.size = 12) (w : World) :
    Calls Tryz.prog 253 #[.string key, .string nonce] w fun e w' => e = .returned (.agg (wdV (st16 (numsOf key) (numsOf nonce) 0).toL).toArray) ∧ Below w.heap.size w w' := by
  have HK : Hid (∀ i, i < 8 → 4 ≤ (key.extract (4 * i) key.size).size ∧ wordL (numsOf (key.extract (4 * i) key.size)) 0 = wordL (numsOf key) (4 * i)) := fun i hi => ⟨by simp; omega, wordL_extract _ _⟩
  have HN : Hid (∀ i, i < 3 → 4 ≤ (nonce.extract (4 * i) nonce.size).size ∧ wordL (numsOf (nonce.extract (4 * i) nonce.size)) 0 = wordL (numsOf nonce) (4 * i)) := fun i hi => ⟨by simp; omega, wordL_extract _ _⟩
  have HB : Hid (∀ o1 o2, Below w.heap.size w ((w.alloc o1).alloc o2)) := fun o1 o2 => ((Below.refl _ _).alloc (Nat.le_refl _) _).alloc (by simp) _
  generalize numsOf key = K at *
  generalize numsOf nonce = N at *
  go_enter Tryz.func253, Tryz.ntmps253
  go_wp2_with fail
  go_loopw [9] (fun i wr => ∃ j : Nat, j ≤ 8 ∧ i = .int .i64 j ∧ Row wr (w.heap.size + 1) 343 (rowF 16 fun k => .int .u32 (stF K N j 0 k : Nat)) ∧ Row wr w.heap.size 343 (wdV (List.replicate 16 0)) ∧ Below w.heap.size w wr) (fun i _ => 8 - (intOf i).toNat)
  case atStart => exact ⟨0, Nat.zero_le _, rfl, heap_alloc2_new w _ _, heap_alloc2_old w _ _, HB.out _ _⟩
  case round =>
    clear HB
    obtain ⟨j, hj, rfl, k1, k0, hbw⟩ := hrel
    by_cases hlt : j < 8
    · obtain ⟨hsz, hwd⟩ := HK.out j hlt
      have hW := fun w => word_any (key.extract (4 * j) key.size) hsz w
      rw [hwd] at hW
      rw [hk] at hW
      have hst : (rowF 16 fun k => if k = 4 + j then Value.int .u32 (wordL K (4 * j) : Nat) else .int .u32 (stF K N j 0 k : Nat)) = rowF 16 fun k => .int .u32 (stF K N (j + 1) 0 k : Nat) := rowF_congr fun k _ => by rw [← stF_key K N j k hlt]; split <;> rfl
      have q0 : IntKind.i64.wrap (4 * (j : Int)) = 4 * j := by rw [IntKind.wrap_i64]; omega
      have q1 : IntKind.i64.wrap (4 + (j : Int)) = 4 + j := by rw [IntKind.wrap_i64]; omega
      have t0 : (4 * (j : Int)).toNat = 4 * j := by omega
      have t1 : (4 + (j : Int)).toNat = 4 + j := by omega
      have r0 : (0 : Int) ≤ 4 * (j : Int) := by omega
      have r1 : (0 : Int) ≤ 4 + (j : Int) := by omega
      have s0 : 4 * (j : Int) ≤ 32 := by omega
      have s1 : 4 + (j : Int) < 16 := by omega
      have d1 := k1.cellF (4 + j) (by omega)
      have d2 : wr.frozen? ⟨w.heap.size + 1, 4 + j, none⟩ = false := k1.frozen _
      have k3 := k1.setF (4 + j) (.int .u32 (wordL K (4 * j) : Nat))
      rw [hst] at k3
      have k0' : Row (wr.setCell ⟨w.heap.size + 1, 4 + j, none⟩ (.int .u32 (wordL K (4 * j) : Nat))) w.heap.size 343 (wdV (List.replicate 16 0)) := (Below.heap_setCell _ _ _ _ (by simp)).trans k0
      have hbw' := hbw.setCell (p := ⟨w.heap.size + 1, 4 + j, none⟩) (by simp) (.int .u32 (wordL K (4 * j) : Nat))
      have HR : Hid (∀ n, Row ((wr.setCell ⟨w.heap.size + 1, 4 + j, none⟩ (.int .u32 (wordL K (4 * j) : Nat))).drewN n) (w.heap.size + 1) 343 (rowF 16 fun k => .int .u32 (stF K N (j + 1) 0 k : Nat)) ∧ Row ((wr.setCell ⟨w.heap.size + 1, 4 + j, none⟩ (.int .u32 (wordL K (4 * j) : Nat))).drewN n) w.heap.size 343 (wdV (List.replicate 16 0)) ∧ Below w.heap.size w ((wr.setCell ⟨w.heap.size + 1, 4 + j, none⟩ (.int .u32 (wordL K (4 * j) : Nat))).drewN n)) := fun n => ⟨k3, k0', hbw'.trans ⟨rfl, rfl, rfl, Nat.le_refl _, fun _ _ => rfl⟩⟩
      clear hst k3 k0' hbw' k1 k0 hbw hwd hsz HK HN
      generalize wordL K (4 * j) = W at *
      go_wp2_with fail
      refine (hW _).mono ?_
      rintro e w' ⟨rfl, n, rfl⟩
      clear hW
      go_wp2
      go_roundw
      case rel => exact ⟨j + 1, by omega, by go_num, HR.out _⟩
      case measure => simp [intOf]; omega
    · obtain rfl : j = 8 := by omega
      have HL : Hid (Row wr (w.heap.size + 1) 343 (rowF 16 fun k => .int .u32 (stF K N 8 0 k : Nat)) ∧ Row wr w.heap.size 343 (wdV (List.replicate 16 0)) ∧ Below w.heap.size w wr) := ⟨k1, k0, hbw⟩
      clear k1 k0 hbw HK
      rw [show ((8 : Nat) : Int) = 8 from rfl]
      go_wp2_with fail
      go_loopw [21] (fun i wr => ∃ j : Nat, j ≤ 3 ∧ i = .int .i64 j ∧ Row wr (w.heap.size + 1) 343 (rowF 16 fun k => .int .u32 (stF K N 8 j k : Nat)) ∧ Row wr w.heap.size 343 (wdV (List.replicate 16 0)) ∧ Below w.heap.size w wr) (fun i _ => 3 - (intOf i).toNat)
      case atStart => exact ⟨0, Nat.zero_le _, rfl, HL.out⟩
      case round =>
        clear HL
        obtain ⟨j, hj, rfl, k1, k0, hbw⟩ := hrel
        by_cases hlt : j < 3
        · obtain ⟨hsz, hwd⟩ := HN.out j hlt
          have hW := fun w => word_any (nonce.extract (4 * j) nonce.size) hsz w
          rw [hwd] at hW
          rw [hn] at hW
          have hst : (rowF 16 fun k => if k = 13 + j then Value.int .u32 (wordL N (4 * j) : Nat) else .int .u32 (stF K N 8 j k : Nat)) = rowF 16 fun k => .int .u32 (stF K N 8 (j + 1) k : Nat) := rowF_congr fun k _ => by rw [← stF_nonce K N j k]; split <;> rfl
          have q0 : IntKind.i64.wrap (4 * (j : Int)) = 4 * j := by rw [IntKind.wrap_i64]; omega
          have q1 : IntKind.i64.wrap (13 + (j : Int)) = 13 + j := by rw [IntKind.wrap_i64]; omega
          have t0 : (4 * (j : Int)).toNat = 4 * j := by omega
          have t1 : (13 + (j : Int)).toNat = 13 + j := by omega
          have r0 : (0 : Int) ≤ 4 * (j : Int) := by omega
          have r1 : (0 : Int) ≤ 13 + (j : Int) := by omega
          have s0 : 4 * (j : Int) ≤ 12 := by omega
          have s1 : 13 + (j : Int) < 16 := by omega
          have d1 := k1.cellF (13 + j) (by omega)
          have d2 : wr.frozen? ⟨w.heap.size + 1, 13 + j, none⟩ = false := k1.frozen _
          have k3 := k1.setF (13 + j) (.int .u32 (wordL N (4 * j) : Nat))
          rw [hst] at k3
          have k0' : Row (wr.setCell ⟨w.heap.size + 1, 13 + j, none⟩ (.int .u32 (wordL N (4 * j) : Nat))) w.heap.size 343 (wdV (List.replicate 16 0)) := (Below.heap_setCell _ _ _ _ (by simp)).trans k0
          have hbw' := hbw.setCell (p := ⟨w.heap.size + 1, 13 + j, none⟩) (by simp) (.int .u32 (wordL N (4 * j) : Nat))
          have HR : Hid (∀ n, Row ((wr.setCell ⟨w.heap.size + 1, 13 + j, none⟩ (.int .u32 (wordL N (4 * j) : Nat))).drewN n) (w.heap.size + 1) 343 (rowF 16 fun k => .int .u32 (stF K N 8 (j + 1) k : Nat)) ∧ Row ((wr.setCell ⟨w.heap.size + 1, 13 + j, none⟩ (.int .u32 (wordL N (4 * j) : Nat))).drewN n) w.heap.size 343 (wdV (List.replicate 16 0)) ∧ Below w.heap.size w ((wr.setCell ⟨w.heap.size + 1, 13 + j, none⟩ (.int .u32 (wordL N (4 * j) : Nat))).drewN n)) := fun n => ⟨k3, k0', hbw'.trans ⟨rfl, rfl, rfl, Nat.le_refl _, fun _ _ => rfl⟩⟩
          clear hst k3 k0' hbw' k1 k0 hbw hwd hsz HN
          generalize wordL N (4 * j) = W at *
          go_wp2_with fail
          refine (hW _).mono ?_
          rintro e w' ⟨rfl, n, rfl⟩
          clear hW
          go_wp2
          go_roundw
          case rel => exact ⟨j + 1, by omega, by go_num, HR.out _⟩
          case measure => simp [intOf]; omega
        · obtain rfl : j = 3 := by omega
          rw [stF_all] at k1
          obtain ⟨ds, hds⟩ : ∃ ds, ds = (wdV (st16 K N 0).toL).toArray := ⟨_, rfl⟩
          have hsz : ds.size = 16 := by rw [hds]; rfl
          have hone : ds.all (·.oneCell') = true := by rw [hds]; simp [wdV, Value.oneCell']
          have k1' : wr.heap[w.heap.size + 1]? = some (.cells ds 343 (0, 0)) := by rw [hds]; exact k1
          have HDS : Hid (ds = (wdV (st16 K N 0).toL).toArray) := hds
          clear hds k1 HN
          have k0' : wr.heap[w.heap.size]? = some (.cells (wdV (List.replicate 16 0)).toArray 343 (0, 0)) := k0
          have hs0 : (wdV (List.replicate 16 0)).toArray.size = ds.size := by rw [hsz]; rfl
          have hinfo : (Tryz.prog.info? 343).map (·.size) = some ds.size := by rw [hsz]; kernel_rfl
          have hba := below_rowH hbw (Nat.le_refl _) ds
          have hl0 := run_loadVar_row (P := Tryz.prog) (wr.setRow w.heap.size ds) w.heap.size 343 343 ds (0, 0) _ (setRow_heap _ _ _ _ _ _ k0') Tryz.underlying343 rfl hinfo
          go_wp2_with (first | refine wpList_load_row rfl 343 _ rfl (w.heap.size + 1) rfl 343 _ (0, 0) _ k1' Tryz.underlying343 rfl hinfo ?_ | refine wpList_store_row rfl 343 _ _ rfl w.heap.size ds rfl rfl 343 _ k0' hinfo hs0 hone ?_)
          exact bodyPost_ret (v := .agg ds) (by simp [results, Tryz.results253, asAddr, Act.put, hl0]) rfl ⟨by rw [HDS.out], hba⟩
end Go.Proofs.YtoopaigpjefonaaGreatDoor.Bx

namespace Go.Proofs.YtoopaigpjefonaaGreatDoor.Bx
set_option maxRecDepth 20000

theorem append_keeps {P : Program} (w : World) (base : Nat) (t ty e : TypeId) (i : TypeInfo) (z : Value) (bytes : Nat) (ht : P.underlying t = some (.slice e)) (hi : P.info? e = some i) (hz : i.zero = some z)
    (hsize : i.size = 1) (hby : i.bytes = bytes)
    (v : Value) (n : Nat) (xs : List Value) (hown : w.ownsRow base e 1 v n xs)
    (a : Addr) (m c : Nat) (news : List Value) (hl : news.length = m) (hnews : ∀ j u, news[j]? = some u → w.cell? (a.add j) = some u) (h1 : ∀ u ∈ news, u.oneCell' = true)
    (h63 : n + m ≤ maxLen) (hbytes : (n + m) * bytes ≤ 140737488355328) (v' : Value) (w' : World)
    (hr : (Builtin.append_ #[t, t] ty #[v, .slice (some a) m c]).run P w = .ok v' w') :
    ∀ g, v.ownBlock = some g → ∀ j u, xs[j]? = some u → w'.cell? ⟨g, j, none⟩ = some u := by
  subst hby
  intro g hg j u hu
  rcases hown.2 with ⟨rfl, _⟩ | ⟨g', cap, cur, rfl, hbg, hgg, hnc, hcm, hcs, htake⟩
  · simp [Value.ownBlock] at hg
  · obtain rfl : g' = g := by simpa [Value.ownBlock] using hg
    have hlx := hown.1
    simp only [Nat.mul_one] at hlx hcs htake
    have hjn : j < n := by have := (List.getElem?_eq_some_iff.1 hu).1; omega
    have hcur : cur.toList[j]? = some u := by
      rw [← htake, List.getElem?_take, if_pos hjn] at hu
      exact hu
    by_cases hroom : n + m ≤ cap
    · have h := run_append_room (P := P) w t ty e i ht hi g' n cap cur hgg a m c news (by rw [hsize]; omega) hnews h1 hroom (by rw [hsize]; omega)
      rw [hr] at h
      injection h with _ hw
      rw [hw, hsize, cell_of_row _ _ _ _ _ _ (setRow_heap w g' cur _ e _ hgg)]
      have hlt : (cur.toList.take (n * 1)).length = n := by simp; omega
      rw [List.getElem?_toArray, List.append_assoc, List.getElem?_append_left (by omega), List.getElem?_take, if_pos (by omega)]
      exact hcur
    · have holds : ∀ j u, xs[j]? = some u → w.cell? ((⟨g', 0, none⟩ : Addr).add j) = some u := hown.cells (g := g') rfl
      have h := run_append_grow (P := P) w t ty e i z ht hi hz ⟨g', 0, none⟩ n cap xs (by rw [hsize]; omega) holds a m c news (by rw [hsize]; omega) hnews (by omega) (by unfold maxLen at h63; omega) (growslice_fits (by omega) hbytes)
      rw [hr] at h
      injection h with _ hw
      rw [hw]
      have hlt : g' < w.heap.size := (Array.getElem?_eq_some_iff.1 hgg).1
      have h2 : (w.drew.alloc (.cells (xs.toArray ++ news.toArray ++ Builtin.zeroCells z.cells (grownCap w (n + m) cap e - (n + m))) e)).heap[g']? = some (.cells cur e (0, 0)) := by first | exact (heap_alloc_old w.drew _ g' hlt).trans hgg | exact (heap_alloc_old w.drew _ hlt).trans hgg
      rw [cell_of_row _ _ _ _ _ _ h2]
      simpa using hcur

theorem wp_append_kept {P : Program} (w : World) {o : Oper} {a : Act} {K : Act → World → Prop} {Q : Exit → Act → World → Prop} (s x : Operand) (t : TypeId)
    (ho : o.op = .call { callee := .builtin .append, args := #[s, x], argTypes := #[t, t] })
    (base : Nat) (e : TypeId) (i : TypeInfo) (z : Value) (bytes : Nat) (ht : P.underlying t = some (.slice e)) (hi : P.info? e = some i) (hz : i.zero = some z)
    (hsize : i.size = 1) (hby : i.bytes = bytes) (hzs : z.cells.size = 1)
    (v : Value) (n : Nat) (xs : List Value) (hs : a.eval s = v) (hown : w.ownsRow base e 1 v n xs)
    (ad : Addr) (m c : Nat) (news : List Value) (hx : a.eval x = .slice (some ad) m c) (hl : news.length = m) (hnews : ∀ j u, news[j]? = some u → w.cell? (ad.add j) = some u) (h1 : ∀ u ∈ news, u.oneCell' = true)
    (hm : 0 < m) (h63 : n + m ≤ maxLen) (hbytes : (n + m) * bytes ≤ 140737488355328) (hbase : base ≤ w.heap.size)
    (h : ∀ g cap w', w'.ownsRow base e 1 (.slice (some ⟨g, 0, none⟩) (n + m) cap) (n + m) (xs ++ news) → w.grownBy w' v.ownBlock → (v.ownBlock = some g ∨ g = w.heap.size) → (∀ g0, v.ownBlock = some g0 → ∀ j u, xs[j]? = some u → w'.cell? ⟨g0, j, none⟩ = some u) → K (a.put o.dst (.slice (some ⟨g, 0, none⟩) (n + m) cap)) w') : o.wp P a w K Q := by
  obtain ⟨g, cap, w', hr, h2, h3, h4, _⟩ := run_append_lies (P := P) w t o.type base e i z 1 bytes ht hi hz hsize hby hzs (by decide) v n xs hown ad m c news (by omega) hnews h1 hm h63 hbytes hbase _ rfl
  have h5 := append_keeps w base t o.type e i z bytes ht hi hz hsize hby v n xs hown ad m c news hl hnews h1 h63 hbytes _ _ hr
  unfold Oper.wp execOp
  simp only [ho, resolve, invoke, builtin, Sem.run_bind, Sem.run_pure, Result.andThen_ok, List.map_toArray, List.map_cons, List.map_nil, hs, hx, hr]
  exact h g cap w' h2 h3 h4 h5

theorem step_append_kept {P : Program} (w : World) {ops : Array Oper} {o : Oper} {a : Act} {K : Act → World → Prop} {Q : Exit → Act → World → Prop} {E : Prop} (hgd : o.guard = none) (s x : Operand) (t : TypeId)
    (ho : o.op = .call { callee := .builtin .append, args := #[s, x], argTypes := #[t, t] })
    (base : Nat) (e : TypeId) (i : TypeInfo) (z : Value) (bytes : Nat) (ht : P.underlying t = some (.slice e)) (hi : P.info? e = some i) (hz : i.zero = some z)
    (hsize : i.size = 1) (hby : i.bytes = bytes) (hzs : z.cells.size = 1)
    (v : Value) (n : Nat) (xs : List Value) (hs : a.eval s = v) (hown : w.ownsRow base e 1 v n xs)
    (ad : Addr) (m c : Nat) (news : List Value) (hx : a.eval x = .slice (some ad) m c) (hl : news.length = m) (hnews : ∀ j u, news[j]? = some u → w.cell? (ad.add j) = some u) (h1 : ∀ u ∈ news, u.oneCell' = true)
    (hm : 0 < m) (h63 : n + m ≤ maxLen) (hbytes : (n + m) * bytes ≤ 140737488355328) (hbase : base ≤ w.heap.size)
    (h : ∀ g cap w', w'.ownsRow base e 1 (.slice (some ⟨g, 0, none⟩) (n + m) cap) (n + m) (xs ++ news) → w.grownBy w' v.ownBlock → (v.ownBlock = some g ∨ g = w.heap.size) → (∀ g0, v.ownBlock = some g0 → ∀ j u, xs[j]? = some u → w'.cell? ⟨g0, j, none⟩ = some u) → K (a.put o.dst (.slice (some ⟨g, 0, none⟩) (n + m) cap)) w') :
    if Region.wanted o (yielded ops a.tmps) = true then Oper.wp P o a w K Q else E := by
  have hw : Region.wanted o (yielded ops a.tmps) = true := by simp [Region.wanted, hgd]
  rw [if_pos hw]
  exact wp_append_kept w s x t ho base e i z bytes ht hi hz hsize hby hzs v n xs hs hown ad m c news hx hl hnews h1 hm h63 hbytes hbase h
end Go.Proofs.YtoopaigpjefonaaGreatDoor.Bx

namespace Go.Proofs.YtoopaigpjefonaaGreatDoor.Bx
set_option maxRecDepth 20000
open Go.RowKit

structure OwnC (w : World) (base g n cap : Nat) (xs : List Value) : Prop where
  len : xs.length = n
  low : base ≤ g
  lt : g < w.heap.size
  room : n ≤ cap
  most : cap ≤ maxLen
  there : ∀ i, i < cap → (w.cell? ⟨g, i, none⟩).isSome = true
  free : ∀ i, i < cap → w.frozen? ⟨g, i, none⟩ = false
  cells : ∀ i u, xs[i]? = some u → w.cell? ⟨g, i, none⟩ = some u

theorem OwnC.drew {w : World} {base g n cap : Nat} {xs : List Value} (h : OwnC w base g n cap xs) : OwnC w.drew base g n cap xs := ⟨h.len, h.low, h.lt, h.room, h.most, h.there, h.free, h.cells⟩
theorem OwnC.kept {w w' : World} {base g n cap : Nat} {xs : List Value} (h : OwnC w base g n cap xs) (hb : w'.heap[g]? = w.heap[g]?) (hs : w.heap.size ≤ w'.heap.size) : OwnC w' base g n cap xs :=
  ⟨h.len, h.low, Nat.lt_of_lt_of_le h.lt hs, h.room, h.most, fun i hi => by rw [World.cell?_of_block (a := ⟨g, i, none⟩) hb]; exact h.there i hi, fun i hi => by rw [World.frozen?_of_block (a := ⟨g, i, none⟩) hb]; exact h.free i hi, fun i u hu => by rw [World.cell?_of_block (a := ⟨g, i, none⟩) hb]; exact h.cells i u hu⟩
theorem OwnC.alloc {w : World} {base g n cap : Nat} {xs : List Value} (h : OwnC w base g n cap xs) (o : Obj) : OwnC (w.alloc o) base g n cap xs := h.kept (Below.heap_alloc w o g (by have := h.lt; omega)) (by simp)
theorem OwnC.below {w w' : World} {base g n cap B : Nat} {xs : List Value} (h : OwnC w base g n cap xs) (hb : Below B w w') (hg : g < B) : OwnC w' base g n cap xs := h.kept (hb.block g hg) hb.size
/-- A row that is owned in the kit's sense, and not nil. -/
theorem OwnC.of {w : World} {base n : Nat} {e : TypeId} {v : Value} {xs : List Value} (h : w.ownsRow base e 1 v n xs) (hn : 0 < n) : ∃ g cap, v = .slice (some ⟨g, 0, none⟩) n cap ∧ OwnC w base g n cap xs := by
  rcases h.2 with ⟨_, h0⟩ | ⟨g, cap, cur, hv, hb, hg, hnc, hcm, hcs, htake⟩
  · omega
  · have hl := h.1
    simp only [Nat.mul_one] at hcs htake hl
    refine ⟨g, cap, hv, hl, hb, (Array.getElem?_eq_some_iff.1 hg).1, hnc, hcm, fun i hi => ?_, fun i _ => by simp [World.frozen?, hg], fun i u hu => ?_⟩
    · rw [cell_of_row w g i cur e (0, 0) hg, Array.getElem?_eq_getElem (by omega)]; rfl
    · rw [cell_of_row w g i cur e (0, 0) hg]
      rw [← htake, List.getElem?_take] at hu
      split at hu
      · simpa using hu
      · cases hu

theorem OwnC.append {P : Program} (w : World) (base : Nat) (t ty e : TypeId) (i : TypeInfo) (z : Value) (bytes : Nat) (ht : P.underlying t = some (.slice e)) (hi : P.info? e = some i) (hz : i.zero = some z)
    (hsize : i.size = 1) (hby : i.bytes = bytes) (hzs : z.cells.size = 1)
    (g n cap : Nat) (xs : List Value) (hown : OwnC w base g n cap xs)
    (a : Addr) (m c : Nat) (news : List Value) (hl : news.length = m) (hnews : ∀ j u, news[j]? = some u → w.cell? (a.add j) = some u) (h1 : ∀ u ∈ news, u.oneCell' = true)
    (h63 : n + m ≤ maxLen) (hbytes : (n + m) * bytes ≤ 140737488355328) (hbase : base ≤ w.heap.size) :
    ∃ g' cap' w', (Builtin.append_ #[t, t] ty #[.slice (some ⟨g, 0, none⟩) n cap, .slice (some a) m c]).run P w = .ok (.slice (some ⟨g', 0, none⟩) (n + m) cap') w' ∧ OwnC w' base g' (n + m) cap' (xs ++ news) ∧ w.grownBy w' (some g) ∧ (g' = g ∨ g' = w.heap.size) := by
  subst hby
  have hlx := hown.len
  have hlen : (xs ++ news).length = n + m := by rw [List.length_append]; omega
  by_cases hroom : n + m ≤ cap
  · have hf := run_firstCells_some (P := P) w i.size m a m c news (by rw [hsize]; omega) hnews
    have hst := run_storeCells_cells (P := P) g n news 0 w (fun j hj => by simpa using hown.there (n + j) (by omega)) (fun j hj => by simpa using hown.free (n + j) (by omega)) h1
    rw [Nat.add_zero] at hst
    have hcin := World.cell?_setCells_in g news n w (fun j hj => hown.there (n + j) (by omega))
    refine ⟨g, cap, w.setCells g n news, ?_, ⟨hlen, hown.low, ?_, hroom, hown.most, fun i hi => ?_, fun i hi => ?_, fun i u hu => ?_⟩, ⟨World.os_setCells _ _ _ _, ?_, World.output_setCells _ _ _ _, ?_, fun k hk hne => ?_⟩, .inl rfl⟩
    · rw [hsize] at hf
      simp [Builtin.append_, run_underlying ht, sizeOf, typeInfo, hi, Builtin.lenOf, hroom, hf, Addr.add_lit, hst, hsize]
    · exact Nat.lt_of_lt_of_le hown.lt (Only.setCells news n w (Only.refl g w)).size
    · by_cases hin : n ≤ i ∧ i < n + news.length
      · have := hcin (i - n) (by omega)
        rw [show n + (i - n) = i by omega] at this
        rw [this]; rfl
      · rw [World.cell?_setCells_out g news n w ⟨g, i, none⟩ (fun _ _ => by show i < n ∨ n + news.length ≤ i; omega)]
        exact hown.there i hi
    · rw [World.frozen?_setCells]; exact hown.free i hi
    · by_cases hin : i < n
      · rw [World.cell?_setCells_out g news n w ⟨g, i, none⟩ (fun _ _ => by show i < n ∨ _; omega)]
        rw [List.getElem?_append_left (by omega)] at hu
        exact hown.cells i u hu
      · rw [List.getElem?_append_right (by omega)] at hu
        have hlt := (List.getElem?_eq_some_iff.1 hu).1
        have := hcin (i - n) (by omega)
        rw [show n + (i - n) = i by omega] at this
        rw [this, ← hu, hlx, List.getElem?_eq_getElem]
    · exact (Only.setCells news n w (Only.refl g w)).1.tape
    · exact (Only.setCells news n w (Only.refl g w)).size
    · exact (Only.setCells news n w (Only.refl g w)).2 k hk (fun e => hne (by rw [e]))
  · have holds : ∀ j u, xs[j]? = some u → w.cell? ((⟨g, 0, none⟩ : Addr).add j) = some u := fun j u hu => by
      have hadd : (⟨g, 0, none⟩ : Addr).add j = ⟨g, j, none⟩ := by unfold Addr.add; split <;> simp_all
      rw [hadd]; exact hown.cells j u hu
    have h := run_append_grow (P := P) w t ty e i z ht hi hz ⟨g, 0, none⟩ n cap xs (by rw [hsize]; omega) holds a m c news (by rw [hsize]; omega) hnews (by omega) (by unfold maxLen at h63; omega) (growslice_fits (by omega) hbytes)
    have hge := grownCap_ge w (n + m) cap e
    have hcm : grownCap w (n + m) cap e ≤ maxLen := grownCap_le_maxLen w (n + m) cap e h63
    have hnew : (w.drew.alloc (.cells (xs.toArray ++ news.toArray ++ Builtin.zeroCells z.cells (grownCap w (n + m) cap e - (n + m))) e)).heap[w.heap.size]? = some (.cells (xs.toArray ++ news.toArray ++ Builtin.zeroCells z.cells (grownCap w (n + m) cap e - (n + m))) e (0, 0)) := heap_alloc_new w.drew _
    have hsz : (xs.toArray ++ news.toArray ++ Builtin.zeroCells z.cells (grownCap w (n + m) cap e - (n + m))).size = grownCap w (n + m) cap e := by
      rw [Array.size_append, Array.size_append, List.size_toArray, List.size_toArray, size_zeroCells, hzs]; omega
    refine ⟨w.heap.size, _, _, h, ⟨hlen, hbase, by simp, hge, hcm, fun i hi => ?_, fun i _ => ?_, fun i u hu => ?_⟩, ⟨rfl, rfl, rfl, by simp, fun k hk _ => Below.heap_alloc w.drew _ k (by have : w.drew.heap.size = w.heap.size := rfl; omega)⟩, .inr rfl⟩
    · rw [cell_of_row _ _ _ _ _ _ hnew, Array.getElem?_eq_getElem (by omega)]; rfl
    · simp only [World.frozen?, hnew]; simp
    · rw [cell_of_row _ _ _ _ _ _ hnew, Array.getElem?_append_left (by have := (List.getElem?_eq_some_iff.1 hu).1; simp at this ⊢; omega)]
      simpa using hu

theorem wpList_appendC {P : Program} (w : World) {ops : Array Oper} {rest : List Oper} {o : Oper} {a : Act} {Q : Exit → Act → World → Prop} (hgd : o.guard = none) (s x : Operand) (t : TypeId)
    (ho : o.op = .call { callee := .builtin .append, args := #[s, x], argTypes := #[t, t] })
    (base : Nat) (e : TypeId) (i : TypeInfo) (z : Value) (bytes : Nat) (ht : P.underlying t = some (.slice e)) (hi : P.info? e = some i) (hz : i.zero = some z)
    (hsize : i.size = 1) (hby : i.bytes = bytes) (hzs : z.cells.size = 1)
    (g n cap : Nat) (xs : List Value) (hs : a.eval s = .slice (some ⟨g, 0, none⟩) n cap) (hown : OwnC w base g n cap xs)
    (ad : Addr) (m c : Nat) (news : List Value) (hx : a.eval x = .slice (some ad) m c) (hl : news.length = m) (hnews : ∀ j u, news[j]? = some u → w.cell? (ad.add j) = some u) (h1 : ∀ u ∈ news, u.oneCell' = true)
    (h63 : n + m ≤ maxLen) (hbytes : (n + m) * bytes ≤ 140737488355328) (hbase : base ≤ w.heap.size)
    (h : ∀ g' cap' w', OwnC w' base g' (n + m) cap' (xs ++ news) → w.grownBy w' (some g) → (g' = g ∨ g' = w.heap.size) → wpList P ops Q rest (a.put o.dst (.slice (some ⟨g', 0, none⟩) (n + m) cap')) w') : wpList P ops Q (o :: rest) a w := by
  refine wpList_plain hgd fun K hK => ?_
  obtain ⟨g', cap', w', hr, h2, h3, h4⟩ := OwnC.append (P := P) w base t o.type e i z bytes ht hi hz hsize hby hzs g n cap xs hown ad m c news hl hnews h1 h63 hbytes hbase
  unfold Oper.wp execOp
  simp only [ho, resolve, invoke, builtin, Sem.run_bind, Sem.run_pure, Result.andThen_ok, List.map_toArray, List.map_cons, List.map_nil, hs, hx, hr]
  exact hK _ _ (h g' cap' w' h2 h3 h4)

theorem bytesWorld_below (w : World) (e : TypeId) (s : ByteArray) : Below w.heap.size w (Lib.bytesWorld w e s) :=
  ⟨rfl, rfl, rfl, by rw [Lib.bytesWorld_size]; omega, fun k hk => Lib.bytesWorld_at_old w e s k hk⟩
theorem bytesWorld_own (w : World) (e : TypeId) (s : ByteArray) (hs : s.size ≤ maxLen) : OwnC (Lib.bytesWorld w e s) w.heap.size w.heap.size s.size (grownCap w s.size 0 e) (s.data.toList.map fun x => Value.int .u8 (x.toNat : Int)) := by
  have hge := grownCap_ge w s.size 0 e
  have hnew := Lib.bytesWorld_at_new w e s
  have hsz : (Lib.bytesCells w e s).size = grownCap w s.size 0 e := by simp [Lib.bytesCells]; omega
  refine ⟨by simp, Nat.le_refl _, by rw [Lib.bytesWorld_size]; omega, hge, grownCap_le_maxLen w s.size 0 e hs, fun i hi => ?_, fun i hi => ?_, fun i u hu => ?_⟩
  · rw [cell_of_row _ _ _ _ _ _ hnew, Array.getElem?_eq_getElem (by omega)]; rfl
  · simp [World.frozen?, hnew, hsz]; omega
  · have hlt := (List.getElem?_eq_some_iff.1 hu).1
    simp only [List.length_map, Array.length_toList] at hlt
    have h2 : i < s.size := by simpa using hlt
    rw [Lib.bytesWorld_cell w e s i h2, ← hu]
    simp [List.getD, h2]
end Go.Proofs.YtoopaigpjefonaaGreatDoor.Bx
