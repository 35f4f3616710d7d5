/- strings.Builder: Grow of a new one, String, and Write to one that has been used. · copy of a text into a row of bytes, from its beginning on. · A text xor blocks, piece by piece; lists of bytes as a builder's. -/
import Derived.Test.YtfmaajfohieneaaDoorBxChaWord
import Derived.Test.YtfmaajfohieneaaDoorMg39
import Derived.Shelf.Strings.Builder1
import Derived.Shelf.Strings.Builder2
import Derived.Test.YtfmaajfohieneaaDoorMg35
import Derived.Deep.RegionWith
namespace Go.Proofs.YtfmaajfohieneaaDoor.Bx
set_option maxRecDepth 20000
open Go.Shelf Go.RowKit

def bx169_ren : Go.Shelf.Ren := ⟨fun | 169 => 75 | n => n, fun | 70 => 117 | 9 => 9 | 0 => 0 | 72 => 119 | 37 => 61 | 127 => 94 | 3 => 3 | 5 => 5 | n => n, fun | n => n⟩
theorem bx169 : Go.Proofs.Lays.n169 Tryd.prog bx169_ren := {
  mixed := by kernel_rfl
  f169 := Tryd.func75.trans (congrArg some (by kernel_rfl))
  t0 := Tryd.underlying0
  a0 := Tryd.isAgg0
  z0 := Tryd.sizeOf0
  v0 := Tryd.zeroValue0
  t3 := Tryd.underlying3
  a3 := Tryd.isAgg3
  z3 := Tryd.sizeOf3
  v3 := Tryd.zeroValue3
  t9 := Tryd.underlying9
  a9 := Tryd.isAgg9
  z9 := Tryd.sizeOf9
  v9 := Tryd.zeroValue9
  t37 := Tryd.underlying61
  a37 := Tryd.isAgg61
  z37 := Tryd.sizeOf61
  v37 := Tryd.zeroValue61
  t70 := Tryd.underlying117
  a70 := Tryd.isAgg117
  z70 := Tryd.sizeOf117
  v70 := Tryd.zeroValue117
  t72 := Tryd.underlying119
  a72 := Tryd.isAgg119
  z72 := Tryd.sizeOf119
  v72 := Tryd.zeroValue119
  t127 := Tryd.underlying94
  a127 := Tryd.isAgg94
  z127 := Tryd.sizeOf94
  v127 := Tryd.zeroValue94 }
theorem bx169_extra : Builder.Extra Tryd.prog bx169_ren := {
  sizeBuilder := by kernel_rfl
  liesBuilder := by kernel_rfl
  t5 := Tryd.underlying5
  a5 := Tryd.isAgg5
  z5 := Tryd.sizeOf5
  v5 := Tryd.zeroValue5
  infoByte := by kernel_rfl
  cellsByte := by kernel_rfl
  sizeByte := by kernel_rfl
  neB5 := by decide }
theorem bString_any (B b : Nat) (l : List UInt8) (w : World) (h : Lib.IsBuilder 119 5 B b (Lib.byteCells l) w) (hBw : B ≤ w.heap.size) :
    Calls Tryd.prog 75 #[.pointer (some ⟨b, 0, none⟩)] w fun e w' => e = .returned (.string ⟨l.toArray⟩) ∧ Below B w w' := Any.Builder_String_any bx169 bx169_extra B b l w h hBw
def bx165_ren : Go.Shelf.Ren := ⟨fun | 165 => 73 | 240 => 84 | 241 => 85 | 276 => 92 | 277 => 93 | n => n, fun | 70 => 117 | 3 => 3 | 0 => 0 | 4 => 4 | 9 => 9 | 20 => 20 | 72 => 119 | 37 => 61 | 164 => 143 | 5 => 5 | n => n, fun | n => n⟩
theorem bx165 : Go.Proofs.Lays.n165 Tryd.prog bx165_ren := {
  mixed := by kernel_rfl
  f165 := Tryd.func73.trans (congrArg some (by kernel_rfl))
  f240 := Tryd.func84.trans (congrArg some (by kernel_rfl))
  f241 := Tryd.func85.trans (congrArg some (by kernel_rfl))
  f276 := Tryd.func92.trans (congrArg some (by kernel_rfl))
  f277 := Tryd.func93.trans (congrArg some (by kernel_rfl))
  t0 := Tryd.underlying0
  a0 := Tryd.isAgg0
  z0 := Tryd.sizeOf0
  v0 := Tryd.zeroValue0
  t3 := Tryd.underlying3
  a3 := Tryd.isAgg3
  z3 := Tryd.sizeOf3
  v3 := Tryd.zeroValue3
  t4 := Tryd.underlying4
  a4 := Tryd.isAgg4
  z4 := Tryd.sizeOf4
  v4 := Tryd.zeroValue4
  t9 := Tryd.underlying9
  a9 := Tryd.isAgg9
  z9 := Tryd.sizeOf9
  v9 := Tryd.zeroValue9
  t20 := Tryd.underlying20
  a20 := Tryd.isAgg20
  z20 := Tryd.sizeOf20
  v20 := Tryd.zeroValue20
  t37 := Tryd.underlying61
  a37 := Tryd.isAgg61
  z37 := Tryd.sizeOf61
  v37 := Tryd.zeroValue61
  t70 := Tryd.underlying117
  a70 := Tryd.isAgg117
  z70 := Tryd.sizeOf117
  v70 := Tryd.zeroValue117
  t72 := Tryd.underlying119
  a72 := Tryd.isAgg119
  z72 := Tryd.sizeOf119
  v72 := Tryd.zeroValue119
  t164 := Tryd.underlying143
  a164 := Tryd.isAgg143
  z164 := Tryd.sizeOf143
  v164 := Tryd.zeroValue143 }
theorem bx165_extra : Builder.Extra Tryd.prog bx165_ren := {
  sizeBuilder := by kernel_rfl
  liesBuilder := by kernel_rfl
  t5 := Tryd.underlying5
  a5 := Tryd.isAgg5
  z5 := Tryd.sizeOf5
  v5 := Tryd.zeroValue5
  infoByte := by kernel_rfl
  cellsByte := by kernel_rfl
  sizeByte := by kernel_rfl
  neB5 := by decide }
theorem bGrow_fresh (B b n : Nat) (w : World) (hB : B ≤ b) (hbk : w.heap[b]? = some (.cells #[.pointer none, .slice none 0 0] 119 (0, 0))) (hBw : B ≤ w.heap.size) (hn : n ≤ 281474976710656) :
    Calls Tryd.prog 73 #[.pointer (some ⟨b, 0, none⟩), .int .i64 n] w fun e w' => e = .returned (.tuple #[]) ∧ (Lib.BuilderAt 119 5 B b (.pointer (some ⟨b, 0, none⟩)) [] w' ∧ Below B w w') := Any.Builder_Grow_fresh bx165 bx165_extra B b n w hB hbk hBw hn

theorem bCheck_used (b : Nat) (w : World) (h0 : w.cell? ⟨b, 0, none⟩ = some (.pointer (some ⟨b, 0, none⟩))) :
    Calls Tryd.prog 84 #[.pointer (some ⟨b, 0, none⟩)] w fun e w' => e = .returned (.tuple #[]) ∧ w' = w := by
  obtain ⟨j, hj, _⟩ := Option.map_eq_some_iff.1 (show (Tryd.prog.info? 119).map (·.size) = some 2 by kernel_rfl)
  go_enter Tryd.func84, Tryd.ntmps84
  go_wp2
  rw [Lib.run_neq_ptr_same w _ Tryd.underlying117 hj]
  go_wp2
  go_end0
  exact ⟨rfl, rfl⟩

set_option maxHeartbeats 1000000 in
set_option maxRecDepth 100000 in
theorem bWrite_used (B b : Nat) (bs : List Value) (ad : Addr) (m c : Nat) (news : List Value) (w : World) (h : Lib.BuilderAt 119 5 B b (.pointer (some ⟨b, 0, none⟩)) bs w)
    (hl : news.length = m) (hnews : ∀ j u, news[j]? = some u → w.cell? (ad.add j) = some u) (h1 : ∀ u ∈ news, u.oneCell' = true) (hlen : bs.length + m ≤ 140737488355328) (hBw : B ≤ w.heap.size) :
    Calls Tryd.prog 74 #[.pointer (some ⟨b, 0, none⟩), .slice (some ad) m c] w fun e w' => e = .returned (.tuple #[.int .i64 m, .nilIface]) ∧ (Lib.BuilderAt 119 5 B b (.pointer (some ⟨b, 0, none⟩)) (bs ++ news) w' ∧ Below B w w') := by
  obtain ⟨i0, hi, hz0, hz1, hz2⟩ := info_parts info_u8
  have hcc := bCheck_used b w h.cell0
  obtain ⟨hB, v, hbk, hown, hne⟩ := h
  have c0 : w.cell? ⟨b, 0, none⟩ = some (.pointer (some ⟨b, 0, none⟩)) := by rw [Lib.cell_of_heap hbk]; rfl
  have c1 : w.cell? ⟨b, 1, none⟩ = some v := by rw [Lib.cell_of_heap hbk]; rfl
  go_enter Tryd.func74, Tryd.ntmps74
  go_wp2_with fail
  refine hcc.mono ?_
  rintro e w1 ⟨rfl, rfl⟩
  go_wp2_with (at_builtin; refine wpList_append_own _ rfl _ _ 61 rfl B 5 i0 (.int .u8 0) 1 1 Tryd.underlying61 hi hz0 hz1 hz2 rfl (by decide) _ _ _ rfl hown ad m c news rfl (by omega) hnews h1 ?c3 ?c4 ?c5 ?_)
  case c3 => unfold maxLen; omega
  case c4 => omega
  case c5 => exact hBw
  intro v' w2 hown' hgrow _
  have hlt : b < w1.heap.size := lt_of_block hbk
  have hb2 : w2.heap[b]? = some (.cells #[.pointer (some ⟨b, 0, none⟩), v] 119 (0, 0)) := by
    rw [hgrow.block b hlt (fun e => hne e.symm)]
    exact hbk
  have d0 : w2.cell? ⟨b, 0, none⟩ = some (.pointer (some ⟨b, 0, none⟩)) := by rw [Lib.cell_of_heap hb2]; rfl
  have d1 : w2.cell? ⟨b, 1, none⟩ = some v := by rw [Lib.cell_of_heap hb2]; rfl
  have f1 : w2.frozen? ⟨b, 1, none⟩ = false := Lib.frozen_of_heap hb2 1
  obtain ⟨ao, n', cap, rfl⟩ : ∃ ao n' cap, v' = .slice ao n' cap := by
    rcases hown'.2 with ⟨hv, _⟩ | ⟨g, cap, cur, hv, _⟩
    · exact ⟨_, _, _, hv⟩
    · exact ⟨_, _, _, hv⟩
  go_wp2
  go_ret2
  refine ⟨rfl, ?_, ?_⟩
  · exact Lib.BuilderAt.put (T := 119) (e := 5) hB hb2 (bs' := bs ++ news) (by simpa [hl] using hown') (by decide)
  · exact ((Below.refl B w1).grown hgrow hBw (fun k hk => (hown.lt k hk).1)).setCell (p := ⟨b, 1, none⟩) hB _
end Go.Proofs.YtfmaajfohieneaaDoor.Bx

namespace Go.Proofs.YtfmaajfohieneaaDoor.Bx
set_option maxRecDepth 20000
open Go.RowKit

/-- A list of bytes as a text. -/
def strN (l : List Nat) : ByteArray := strOfNums (l.map fun (x : Nat) => (x : Int))
theorem strN_size (l : List Nat) : (strN l).size = l.length := by simp [strN, strOfNums_size]
theorem numsOf_strN (l : List Nat) (h : Bytes l) : numsOf (strN l) = l := numsOf_str l h
theorem copy_row (w : World) (g t L : Nat) (l : List Value) (hl : l.length = L) (hr : Row w g t l) (s : ByteArray) :
    ∃ w', (Builtin.copy_ #[61, 9] 3 #[.slice (some ⟨g, 0, none⟩) L L, .string s]).run Tryd.prog w = .ok (.int .i64 (min s.size L : Nat)) w' ∧ Row w' g t (byV ((numsOf s).take L) ++ l.drop (min s.size L)) ∧ Only g w w' := by
  subst hl
  by_cases h : s.size ≤ l.length
  · have hm : min s.size l.length = s.size := Nat.min_eq_left h
    have h1 := run_copy_string (P := Tryd.prog) w 61 9 3 5 g 0 l.length l.length s Tryd.underlying61 size_u8 h (fun j hj => by rw [Nat.zero_add, hr.cell, List.getElem?_eq_getElem (by omega)]; rfl) (fun j _ => hr.frozen _)
    rw [numsV] at h1
    refine ⟨_, by rw [h1, hm]; rfl, ?_, Only.setCells _ _ _ (Only.refl _ _)⟩
    rw [hm, List.take_of_length_le (by rw [numsOf_length]; exact h)]
    have := Row.setCells (g := g) (t := t) (C := l.drop s.size) (byV (numsOf s)) (l.take s.size) [] w 0 (by simp [byV, numsOf_length]; omega) rfl (by simpa using hr)
    simpa using this
  · have hm : min s.size l.length = l.length := Nat.min_eq_right (by omega)
    have h1 := run_copy_part (P := Tryd.prog) w 61 9 3 5 g 0 l.length l.length s Tryd.underlying61 size_u8 (by omega) (fun j hj => by rw [Nat.zero_add, hr.cell, List.getElem?_eq_getElem (by omega)]; rfl) (fun j _ => hr.frozen _)
    rw [List.map_take, numsV] at h1
    have e : (byV (numsOf s)).take l.length = byV ((numsOf s).take l.length) := by simp [byV, List.map_take]
    rw [e] at h1
    refine ⟨_, by rw [h1, hm]; rfl, ?_, Only.setCells _ _ _ (Only.refl _ _)⟩
    rw [hm]
    have := Row.setCells (g := g) (t := t) (C := []) (byV ((numsOf s).take l.length)) l [] w 0 (by simp [byV, numsOf_length]; omega) rfl (by simpa using hr)
    simpa using this
end Go.Proofs.YtfmaajfohieneaaDoor.Bx

namespace Go.Proofs.YtfmaajfohieneaaDoor.Bx
set_option maxRecDepth 20000
open Go.RowKit

theorem strN_numsOf (s : ByteArray) : strN (numsOf s) = s := by
  unfold strN strOfNums numsOf
  rw [List.map_map, List.map_map]
  have : ((fun (n : Int) => UInt8.ofNat n.toNat) ∘ (fun (x : Nat) => (x : Int))) ∘ (fun (x : UInt8) => x.toNat) = id := by
    funext x
    simp
  rw [this, List.map_id]
theorem byV_cells (l : List Nat) (h : Bytes l) : byV l = Lib.byteCells (l.map UInt8.ofNat) := by
  unfold byV Lib.byteCells
  rw [List.map_map]
  refine List.map_congr_left fun x hx => ?_
  have := h x hx
  simp [Function.comp]
  omega
theorem strN_cells (l : List Nat) : (⟨(l.map UInt8.ofNat).toArray⟩ : ByteArray) = strN l := by
  unfold strN strOfNums
  rw [List.map_map]
  rfl

/-- A text xor the blocks of a state from one on. -/
def strmL (s : S16) (a : Nat) (l : List Nat) : List Nat := (List.range l.length).map fun i => l.getD i 0 ^^^ (blkL (s.at (a + i / 64))).getD (i % 64) 0
/-- A piece xor a block. -/
def xorL (n : Nat) (u b : List Nat) : List Nat := (List.range n).map fun i => u.getD i 0 ^^^ b.getD i 0
theorem strmL_length (s : S16) (a : Nat) (l : List Nat) : (strmL s a l).length = l.length := by simp [strmL]
theorem xorL_length (n : Nat) (u b : List Nat) : (xorL n u b).length = n := by simp [xorL]
theorem xor_byte {a b : Nat} (ha : a < 256) (hb : b < 256) : a ^^^ b < 256 := Nat.xor_lt_two_pow (n := 8) ha hb
theorem strmL_bytes (s : S16) (a : Nat) (l : List Nat) (h : Bytes l) : Bytes (strmL s a l) := fun x hx => by
  obtain ⟨i, _, rfl⟩ := List.mem_map.1 hx
  exact xor_byte (getD_lt (by decide) h _) (getD_lt (by decide) (blkL_bytes _) _)
theorem strmL_step (s : S16) (a : Nat) (l : List Nat) (q p n : Nat) (hp : p = 64 * q) (hn : n ≤ 64) (hl : p + n ≤ l.length) : (strmL s a l).take (p + n) = (strmL s a l).take p ++ xorL n (l.drop p) (blkL (s.at (a + q))) := by
  rw [List.take_add]
  congr 1
  refine List.ext_getElem? fun i => ?_
  by_cases hi : i < n
  · rw [List.getElem?_take, if_pos hi, List.getElem?_drop, strmL, xorL, List.getElem?_map, List.getElem?_map, List.getElem?_range (by omega), List.getElem?_range hi]
    have e1 : (p + i) / 64 = q := by omega
    have e2 : (p + i) % 64 = i := by omega
    simp only [Option.map_some, e1, e2]
    congr 2
    rw [List.getD_eq_getElem?_getD, List.getD_eq_getElem?_getD, List.getElem?_drop]
  · rw [List.getElem?_eq_none (by simp; omega), List.getElem?_eq_none (by rw [xorL_length]; omega)]
theorem chaS_strm (K N : List Nat) (a : Nat) (l : List Nat) : chaS K N a l = strmL (st16 K N 0) a l := rfl

/-- A piece of 64 bytes, of which the first ones are xor a block's. -/
def pieF (u b : List Nat) (i k : Nat) : Value := .int .u8 ((if k < i then u.getD k 0 ^^^ b.getD k 0 else u.getD k 0 : Nat) : Int)
theorem pieF_step (u b : List Nat) (i k : Nat) : (if k = i then Value.int .u8 ((u.getD i 0 ^^^ b.getD i 0 : Nat) : Int) else pieF u b i k) = pieF u b (i + 1) k := by
  unfold pieF
  by_cases e : k = i
  · subst e
    rw [if_pos rfl, if_pos (by omega)]
  · rw [if_neg e]
    by_cases h : k < i
    · rw [if_pos h, if_pos (by omega)]
    · rw [if_neg h, if_neg (by omega)]
theorem pieF_at (u b : List Nat) (i : Nat) : pieF u b i i = .int .u8 (u.getD i 0 : Nat) := by
  unfold pieF
  rw [if_neg (by omega)]
theorem pie_take (u b : List Nat) (n : Nat) (hn : n ≤ 64) : (rowF 64 (pieF u b 64)).take n = byV (xorL n u b) := by
  refine List.ext_getElem? fun i => ?_
  by_cases hi : i < n
  · rw [List.getElem?_take, if_pos hi, rowF_get _ _ _ (by omega), byV, xorL, List.map_map, List.getElem?_map, List.getElem?_range hi]
    simp [pieF, show i < 64 by omega]
  · rw [List.getElem?_eq_none (by simp [rowF_length]; omega), List.getElem?_eq_none (by simp [byV, xorL_length]; omega)]
theorem pie_start (u b : List Nat) (h : u.length ≤ 64) : byV u ++ byV (List.replicate (64 - u.length) 0) = rowF 64 (pieF u b 0) := by
  refine List.ext_getElem? fun i => ?_
  by_cases hi : i < 64
  · rw [rowF_get _ _ _ hi]
    by_cases h2 : i < u.length
    · rw [List.getElem?_append_left (by simp [byV]; omega), byV_get _ _ h2]
      simp [pieF]
    · rw [List.getElem?_append_right (by simp [byV]; omega), byV_get _ _ (by simp [byV]; omega)]
      simp only [pieF, byV, List.length_map]
      rw [getD_beyond u _ (by omega), List.getD_eq_getElem?_getD, List.getElem?_replicate]
      split <;> simp
  · rw [List.getElem?_eq_none (by simp [byV]; omega), List.getElem?_eq_none (by rw [rowF_length]; omega)]
end Go.Proofs.YtfmaajfohieneaaDoor.Bx
