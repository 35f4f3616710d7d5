/- strings.Builder: Grow of a new one, String, and Write to one that has been used. · copy of a text into a row of bytes, from its beginning on. · A text xor blocks, piece by piece; lists of bytes as a builder's. · box's state.stream: a text xor the blocks from one on. · Poly1305 as functions of numbers: pieces, the product modulo 2^130 - 5 word by word; nothing of the program. · math/bits' Add64, Sub64 and Mul64, as the walks of box meet them. · box.folded and box.product: numbers of words, modulo 2^130 - 5. -/
import Derived.Test.YtoopaigpjefonaaGreatDoorMg36
import Derived.Shelf.Strings.Builder1
import Derived.Shelf.Strings.Builder2
import Derived.Test.YtoopaigpjefonaaGreatDoorMg35
import Derived.Deep.RegionWith
import Derived.Shelf.Spec.BitsCarry
import Derived.Shelf.Bits.Mul64
namespace Go.Proofs.YtoopaigpjefonaaGreatDoor.Bx
set_option maxRecDepth 20000
open Go.Shelf Go.RowKit

def bx169_ren : Go.Shelf.Ren := ⟨fun | 169 => 83 | n => n, fun | 70 => 154 | 9 => 9 | 0 => 0 | 72 => 156 | 37 => 143 | 127 => 220 | 3 => 3 | 5 => 5 | n => n, fun | n => n⟩
theorem bx169 : Go.Proofs.Lays.n169 Tryz.prog bx169_ren := {
  mixed := by kernel_rfl
  f169 := Tryz.func83.trans (congrArg some (by kernel_rfl))
  t0 := Tryz.underlying0
  a0 := Tryz.isAgg0
  z0 := Tryz.sizeOf0
  v0 := Tryz.zeroValue0
  t3 := Tryz.underlying3
  a3 := Tryz.isAgg3
  z3 := Tryz.sizeOf3
  v3 := Tryz.zeroValue3
  t9 := Tryz.underlying9
  a9 := Tryz.isAgg9
  z9 := Tryz.sizeOf9
  v9 := Tryz.zeroValue9
  t37 := Tryz.underlying143
  a37 := Tryz.isAgg143
  z37 := Tryz.sizeOf143
  v37 := Tryz.zeroValue143
  t70 := Tryz.underlying154
  a70 := Tryz.isAgg154
  z70 := Tryz.sizeOf154
  v70 := Tryz.zeroValue154
  t72 := Tryz.underlying156
  a72 := Tryz.isAgg156
  z72 := Tryz.sizeOf156
  v72 := Tryz.zeroValue156
  t127 := Tryz.underlying220
  a127 := Tryz.isAgg220
  z127 := Tryz.sizeOf220
  v127 := Tryz.zeroValue220 }
theorem bx169_extra : Builder.Extra Tryz.prog bx169_ren := {
  sizeBuilder := by kernel_rfl
  liesBuilder := by kernel_rfl
  t5 := Tryz.underlying5
  a5 := Tryz.isAgg5
  z5 := Tryz.sizeOf5
  v5 := Tryz.zeroValue5
  infoByte := by kernel_rfl
  cellsByte := by kernel_rfl
  sizeByte := by kernel_rfl
  neB5 := by decide }
theorem bString_any (B b : Nat) (l : List UInt8) (w : World) (h : Lib.IsBuilder 156 5 B b (Lib.byteCells l) w) (hBw : B ≤ w.heap.size) :
    Calls Tryz.prog 83 #[.pointer (some ⟨b, 0, none⟩)] w fun e w' => e = .returned (.string ⟨l.toArray⟩) ∧ Below B w w' := Any.Builder_String_any bx169 bx169_extra B b l w h hBw
def bx165_ren : Go.Shelf.Ren := ⟨fun | 165 => 80 | 240 => 122 | 241 => 123 | 276 => 153 | 277 => 154 | n => n, fun | 70 => 154 | 3 => 3 | 0 => 0 | 4 => 4 | 9 => 9 | 20 => 20 | 72 => 156 | 37 => 143 | 164 => 257 | 5 => 5 | n => n, fun | n => n⟩
theorem bx165 : Go.Proofs.Lays.n165 Tryz.prog bx165_ren := {
  mixed := by kernel_rfl
  f165 := Tryz.func80.trans (congrArg some (by kernel_rfl))
  f240 := Tryz.func122.trans (congrArg some (by kernel_rfl))
  f241 := Tryz.func123.trans (congrArg some (by kernel_rfl))
  f276 := Tryz.func153.trans (congrArg some (by kernel_rfl))
  f277 := Tryz.func154.trans (congrArg some (by kernel_rfl))
  t0 := Tryz.underlying0
  a0 := Tryz.isAgg0
  z0 := Tryz.sizeOf0
  v0 := Tryz.zeroValue0
  t3 := Tryz.underlying3
  a3 := Tryz.isAgg3
  z3 := Tryz.sizeOf3
  v3 := Tryz.zeroValue3
  t4 := Tryz.underlying4
  a4 := Tryz.isAgg4
  z4 := Tryz.sizeOf4
  v4 := Tryz.zeroValue4
  t9 := Tryz.underlying9
  a9 := Tryz.isAgg9
  z9 := Tryz.sizeOf9
  v9 := Tryz.zeroValue9
  t20 := Tryz.underlying20
  a20 := Tryz.isAgg20
  z20 := Tryz.sizeOf20
  v20 := Tryz.zeroValue20
  t37 := Tryz.underlying143
  a37 := Tryz.isAgg143
  z37 := Tryz.sizeOf143
  v37 := Tryz.zeroValue143
  t70 := Tryz.underlying154
  a70 := Tryz.isAgg154
  z70 := Tryz.sizeOf154
  v70 := Tryz.zeroValue154
  t72 := Tryz.underlying156
  a72 := Tryz.isAgg156
  z72 := Tryz.sizeOf156
  v72 := Tryz.zeroValue156
  t164 := Tryz.underlying257
  a164 := Tryz.isAgg257
  z164 := Tryz.sizeOf257
  v164 := Tryz.zeroValue257 }
theorem bx165_extra : Builder.Extra Tryz.prog bx165_ren := {
  sizeBuilder := by kernel_rfl
  liesBuilder := by kernel_rfl
  t5 := Tryz.underlying5
  a5 := Tryz.isAgg5
  z5 := Tryz.sizeOf5
  v5 := Tryz.zeroValue5
  infoByte := by kernel_rfl
  cellsByte := by kernel_rfl
  sizeByte := by kernel_rfl
  neB5 := by decide }
theorem bGrow_fresh (B b n : Nat) (w : World) (hB : B ≤ b) (hbk : w.heap[b]? = some (.cells #[.pointer none, .slice none 0 0] 156 (0, 0))) (hBw : B ≤ w.heap.size) (hn : n ≤ 281474976710656) :
    Calls Tryz.prog 80 #[.pointer (some ⟨b, 0, none⟩), .int .i64 n] w fun e w' => e = .returned (.tuple #[]) ∧ (Lib.BuilderAt 156 5 B b (.pointer (some ⟨b, 0, none⟩)) [] w' ∧ Below B w w') := Any.Builder_Grow_fresh bx165 bx165_extra B b n w hB hbk hBw hn

theorem bCheck_used (b : Nat) (w : World) (h0 : w.cell? ⟨b, 0, none⟩ = some (.pointer (some ⟨b, 0, none⟩))) :
    Calls Tryz.prog 122 #[.pointer (some ⟨b, 0, none⟩)] w fun e w' => e = .returned (.tuple #[]) ∧ w' = w := by
  obtain ⟨j, hj, _⟩ := Option.map_eq_some_iff.1 (show (Tryz.prog.info? 156).map (·.size) = some 2 by kernel_rfl)
  go_enter Tryz.func122, Tryz.ntmps122
  go_wp2
  rw [Lib.run_neq_ptr_same w _ Tryz.underlying154 hj]
  go_wp2
  go_end0
  exact ⟨rfl, rfl⟩

set_option maxHeartbeats 1000000 in
set_option maxRecDepth 100000 in
theorem bWrite_used (B b : Nat) (bs : List Value) (ad : Addr) (m c : Nat) (news : List Value) (w : World) (h : Lib.BuilderAt 156 5 B b (.pointer (some ⟨b, 0, none⟩)) bs w)
    (hl : news.length = m) (hnews : ∀ j u, news[j]? = some u → w.cell? (ad.add j) = some u) (h1 : ∀ u ∈ news, u.oneCell' = true) (hlen : bs.length + m ≤ 140737488355328) (hBw : B ≤ w.heap.size) :
    Calls Tryz.prog 265 #[.pointer (some ⟨b, 0, none⟩), .slice (some ad) m c] w fun e w' => e = .returned (.tuple #[.int .i64 m, .nilIface]) ∧ (Lib.BuilderAt 156 5 B b (.pointer (some ⟨b, 0, none⟩)) (bs ++ news) w' ∧ Below B w w') := by
  obtain ⟨i0, hi, hz0, hz1, hz2⟩ := info_parts info_u8
  have hcc := bCheck_used b w h.cell0
  obtain ⟨hB, v, hbk, hown, hne⟩ := h
  have c0 : w.cell? ⟨b, 0, none⟩ = some (.pointer (some ⟨b, 0, none⟩)) := by rw [Lib.cell_of_heap hbk]; rfl
  have c1 : w.cell? ⟨b, 1, none⟩ = some v := by rw [Lib.cell_of_heap hbk]; rfl
  go_enter Tryz.func265, Tryz.ntmps265
  go_wp2_with fail
  refine hcc.mono ?_
  rintro e w1 ⟨rfl, rfl⟩
  go_wp2_with (at_builtin; refine wpList_append_own _ rfl _ _ 143 rfl B 5 i0 (.int .u8 0) 1 1 Tryz.underlying143 hi hz0 hz1 hz2 rfl (by decide) _ _ _ rfl hown ad m c news rfl (by omega) hnews h1 ?c3 ?c4 ?c5 ?_)
  case c3 => unfold maxLen; omega
  case c4 => omega
  case c5 => exact hBw
  intro v' w2 hown' hgrow _
  have hlt : b < w1.heap.size := lt_of_block hbk
  have hb2 : w2.heap[b]? = some (.cells #[.pointer (some ⟨b, 0, none⟩), v] 156 (0, 0)) := by
    rw [hgrow.block b hlt (fun e => hne e.symm)]
    exact hbk
  have d0 : w2.cell? ⟨b, 0, none⟩ = some (.pointer (some ⟨b, 0, none⟩)) := by rw [Lib.cell_of_heap hb2]; rfl
  have d1 : w2.cell? ⟨b, 1, none⟩ = some v := by rw [Lib.cell_of_heap hb2]; rfl
  have f1 : w2.frozen? ⟨b, 1, none⟩ = false := Lib.frozen_of_heap hb2 1
  obtain ⟨ao, n', cap, rfl⟩ : ∃ ao n' cap, v' = .slice ao n' cap := by
    rcases hown'.2 with ⟨hv, _⟩ | ⟨g, cap, cur, hv, _⟩
    · exact ⟨_, _, _, hv⟩
    · exact ⟨_, _, _, hv⟩
  go_wp2
  go_ret2
  refine ⟨rfl, ?_, ?_⟩
  · exact Lib.BuilderAt.put (T := 156) (e := 5) hB hb2 (bs' := bs ++ news) (by simpa [hl] using hown') (by decide)
  · exact ((Below.refl B w1).grown hgrow hBw (fun k hk => (hown.lt k hk).1)).setCell (p := ⟨b, 1, none⟩) hB _
end Go.Proofs.YtoopaigpjefonaaGreatDoor.Bx

namespace Go.Proofs.YtoopaigpjefonaaGreatDoor.Bx
set_option maxRecDepth 20000
open Go.RowKit

/-- A list of bytes as a text. -/
def strN (l : List Nat) : ByteArray := strOfNums (l.map fun (x : Nat) => (x : Int))
theorem strN_size (l : List Nat) : (strN l).size = l.length := by simp [strN, strOfNums_size]
theorem numsOf_strN (l : List Nat) (h : Bytes l) : numsOf (strN l) = l := numsOf_str l h
theorem copy_row (w : World) (g t L : Nat) (l : List Value) (hl : l.length = L) (hr : Row w g t l) (s : ByteArray) :
    ∃ w', (Builtin.copy_ #[143, 9] 3 #[.slice (some ⟨g, 0, none⟩) L L, .string s]).run Tryz.prog w = .ok (.int .i64 (min s.size L : Nat)) w' ∧ Row w' g t (byV ((numsOf s).take L) ++ l.drop (min s.size L)) ∧ Only g w w' := by
  subst hl
  by_cases h : s.size ≤ l.length
  · have hm : min s.size l.length = s.size := Nat.min_eq_left h
    have h1 := run_copy_string (P := Tryz.prog) w 143 9 3 5 g 0 l.length l.length s Tryz.underlying143 size_u8 h (fun j hj => by rw [Nat.zero_add, hr.cell, List.getElem?_eq_getElem (by omega)]; rfl) (fun j _ => hr.frozen _)
    rw [numsV] at h1
    refine ⟨_, by rw [h1, hm]; rfl, ?_, Only.setCells _ _ _ (Only.refl _ _)⟩
    rw [hm, List.take_of_length_le (by rw [numsOf_length]; exact h)]
    have := Row.setCells (g := g) (t := t) (C := l.drop s.size) (byV (numsOf s)) (l.take s.size) [] w 0 (by simp [byV, numsOf_length]; omega) rfl (by simpa using hr)
    simpa using this
  · have hm : min s.size l.length = l.length := Nat.min_eq_right (by omega)
    have h1 := run_copy_part (P := Tryz.prog) w 143 9 3 5 g 0 l.length l.length s Tryz.underlying143 size_u8 (by omega) (fun j hj => by rw [Nat.zero_add, hr.cell, List.getElem?_eq_getElem (by omega)]; rfl) (fun j _ => hr.frozen _)
    rw [List.map_take, numsV] at h1
    have e : (byV (numsOf s)).take l.length = byV ((numsOf s).take l.length) := by simp [byV, List.map_take]
    rw [e] at h1
    refine ⟨_, by rw [h1, hm]; rfl, ?_, Only.setCells _ _ _ (Only.refl _ _)⟩
    rw [hm]
    have := Row.setCells (g := g) (t := t) (C := []) (byV ((numsOf s).take l.length)) l [] w 0 (by simp [byV, numsOf_length]; omega) rfl (by simpa using hr)
    simpa using this
end Go.Proofs.YtoopaigpjefonaaGreatDoor.Bx

namespace Go.Proofs.YtoopaigpjefonaaGreatDoor.Bx
set_option maxRecDepth 20000
open Go.RowKit

theorem strN_numsOf (s : ByteArray) : strN (numsOf s) = s := by
  unfold strN strOfNums numsOf
  rw [List.map_map, List.map_map]
  have : ((fun (n : Int) => UInt8.ofNat n.toNat) ∘ (fun (x : Nat) => (x : Int))) ∘ (fun (x : UInt8) => x.toNat) = id := by
    funext x
    simp
  rw [this, List.map_id]
theorem byV_cells (l : List Nat) (h : Bytes l) : byV l = Lib.byteCells (l.map UInt8.ofNat) := by
  unfold byV Lib.byteCells
  rw [List.map_map]
  refine List.map_congr_left fun x hx => ?_
  have := h x hx
  simp [Function.comp]
  omega
theorem strN_cells (l : List Nat) : (⟨(l.map UInt8.ofNat).toArray⟩ : ByteArray) = strN l := by
  unfold strN strOfNums
  rw [List.map_map]
  rfl

/-- A text xor the blocks of a state from one on. -/
def strmL (s : S16) (a : Nat) (l : List Nat) : List Nat := (List.range l.length).map fun i => l.getD i 0 ^^^ (blkL (s.at (a + i / 64))).getD (i % 64) 0
/-- A piece xor a block. -/
def xorL (n : Nat) (u b : List Nat) : List Nat := (List.range n).map fun i => u.getD i 0 ^^^ b.getD i 0
theorem strmL_length (s : S16) (a : Nat) (l : List Nat) : (strmL s a l).length = l.length := by simp [strmL]
theorem xorL_length (n : Nat) (u b : List Nat) : (xorL n u b).length = n := by simp [xorL]
theorem xor_byte {a b : Nat} (ha : a < 256) (hb : b < 256) : a ^^^ b < 256 := Nat.xor_lt_two_pow (n := 8) ha hb
theorem strmL_bytes (s : S16) (a : Nat) (l : List Nat) (h : Bytes l) : Bytes (strmL s a l) := fun x hx => by
  obtain ⟨i, _, rfl⟩ := List.mem_map.1 hx
  exact xor_byte (getD_lt (by decide) h _) (getD_lt (by decide) (blkL_bytes _) _)
theorem strmL_step (s : S16) (a : Nat) (l : List Nat) (q p n : Nat) (hp : p = 64 * q) (hn : n ≤ 64) (hl : p + n ≤ l.length) : (strmL s a l).take (p + n) = (strmL s a l).take p ++ xorL n (l.drop p) (blkL (s.at (a + q))) := by
  rw [List.take_add]
  congr 1
  refine List.ext_getElem? fun i => ?_
  by_cases hi : i < n
  · rw [List.getElem?_take, if_pos hi, List.getElem?_drop, strmL, xorL, List.getElem?_map, List.getElem?_map, List.getElem?_range (by omega), List.getElem?_range hi]
    have e1 : (p + i) / 64 = q := by omega
    have e2 : (p + i) % 64 = i := by omega
    simp only [Option.map_some, e1, e2]
    congr 2
    rw [List.getD_eq_getElem?_getD, List.getD_eq_getElem?_getD, List.getElem?_drop]
  · rw [List.getElem?_eq_none (by simp; omega), List.getElem?_eq_none (by rw [xorL_length]; omega)]
theorem chaS_strm (K N : List Nat) (a : Nat) (l : List Nat) : chaS K N a l = strmL (st16 K N 0) a l := rfl

/-- A piece of 64 bytes, of which the first ones are xor a block's. -/
def pieF (u b : List Nat) (i k : Nat) : Value := .int .u8 ((if k < i then u.getD k 0 ^^^ b.getD k 0 else u.getD k 0 : Nat) : Int)
theorem pieF_step (u b : List Nat) (i k : Nat) : (if k = i then Value.int .u8 ((u.getD i 0 ^^^ b.getD i 0 : Nat) : Int) else pieF u b i k) = pieF u b (i + 1) k := by
  unfold pieF
  by_cases e : k = i
  · subst e
    rw [if_pos rfl, if_pos (by omega)]
  · rw [if_neg e]
    by_cases h : k < i
    · rw [if_pos h, if_pos (by omega)]
    · rw [if_neg h, if_neg (by omega)]
theorem pieF_at (u b : List Nat) (i : Nat) : pieF u b i i = .int .u8 (u.getD i 0 : Nat) := by
  unfold pieF
  rw [if_neg (by omega)]
theorem pie_take (u b : List Nat) (n : Nat) (hn : n ≤ 64) : (rowF 64 (pieF u b 64)).take n = byV (xorL n u b) := by
  refine List.ext_getElem? fun i => ?_
  by_cases hi : i < n
  · rw [List.getElem?_take, if_pos hi, rowF_get _ _ _ (by omega), byV, xorL, List.map_map, List.getElem?_map, List.getElem?_range hi]
    simp [pieF, show i < 64 by omega]
  · rw [List.getElem?_eq_none (by simp [rowF_length]; omega), List.getElem?_eq_none (by simp [byV, xorL_length]; omega)]
theorem pie_start (u b : List Nat) (h : u.length ≤ 64) : byV u ++ byV (List.replicate (64 - u.length) 0) = rowF 64 (pieF u b 0) := by
  refine List.ext_getElem? fun i => ?_
  by_cases hi : i < 64
  · rw [rowF_get _ _ _ hi]
    by_cases h2 : i < u.length
    · rw [List.getElem?_append_left (by simp [byV]; omega), byV_get _ _ h2]
      simp [pieF]
    · rw [List.getElem?_append_right (by simp [byV]; omega), byV_get _ _ (by simp [byV]; omega)]
      simp only [pieF, byV, List.length_map]
      rw [getD_beyond u _ (by omega), List.getD_eq_getElem?_getD, List.getElem?_replicate]
      split <;> simp
  · rw [List.getElem?_eq_none (by simp [byV]; omega), List.getElem?_eq_none (by rw [rowF_length]; omega)]
end Go.Proofs.YtoopaigpjefonaaGreatDoor.Bx

namespace Go.Proofs.YtoopaigpjefonaaGreatDoor.Bx
set_option maxRecDepth 20000
open Go.RowKit

theorem extract_more (s : ByteArray) (p q : Nat) : (s.extract p s.size).extract q (s.extract p s.size).size = s.extract (p + q) s.size := by
  rw [ByteArray.extract_extract]
  congr 1
  simp
  omega
theorem bld_below {T e B b : Nat} {p : Value} {bs : List Value} {w w' : World} {C : Nat} (h : Lib.BuilderAt T e B b p bs w) (hb : Below C w w') (hC : w.heap.size ≤ C) : Lib.BuilderAt T e B b p bs w' := by
  obtain ⟨hB, v, hbk, hown, hne⟩ := h
  have hlt : b < w.heap.size := lt_of_block hbk
  refine ⟨hB, v, (hb.block b (by omega)).trans hbk, hown.kept (row := none) ⟨hb.os, hb.tape, hb.output, hb.size, fun k hk _ => hb.block k (by omega)⟩ ?_, hne⟩
  by_cases e : v.ownBlock = none
  · exact .inl e
  · exact .inr e
/-- What stands at the beginning of a round of stream. -/
structure StrmAt (w wr : World) (g : Nat) (s : S16) (a : Nat) (l : List Nat) (p : Nat) : Prop where
  bld : Lib.BuilderAt 156 5 w.heap.size w.heap.size (.pointer (some ⟨w.heap.size, 0, none⟩)) (byV ((strmL s a l).take p)) wr
  st : Row wr g 343 (wdV s.toL)
  low : g < w.heap.size
  bel : Below w.heap.size w wr

set_option maxRecDepth 10000 in
set_option maxHeartbeats 2000000 in
theorem stream_any (s : S16) (hs : s.ok) (a : Nat) (text : ByteArray) (ha : a + (text.size + 63) / 64 ≤ 4294967296) (ht : text.size ≤ 1048576) (g : Nat) (w : World) (hr : Row w g 343 (wdV s.toL)) :
    Calls Tryz.prog 256 #[.pointer (some ⟨g, 0, none⟩), .int .i64 a, .string text] w fun e w' => e = .returned (.string (strN (strmL s a (numsOf text)))) ∧ Below w.heap.size w w' := by
  have hg := hr.lt
  have hbl := numsOf_length text
  have hby := numsOf_bytes text
  have hG := fun o => bGrow_fresh w.heap.size w.heap.size text.size (w.alloc (.cells #[.pointer none, .slice none 0 0] o)) (Nat.le_refl _)
  have hr1 : ∀ o, Row (w.alloc o) g 343 (wdV s.toL) := fun o => (Below.heap_alloc w o g hg).trans hr
  go_enter Tryz.func256, Tryz.ntmps256
  go_wp2_with fail
  refine (hG 156 (heap_alloc_new w _) (by simp) (by omega)).mono ?_
  rintro e w1 ⟨rfl, hB1, hb1⟩
  have hS1 : StrmAt w w1 g s a (numsOf text) 0 := ⟨by simpa [byV] using hB1, (hr1 _).below hb1 hg, hg, ((Below.refl _ _).alloc (Nat.le_refl _) _).trans hb1⟩
  clear hG hr1 hB1 hb1 hr
  go_wp2_with fail
  go_loopw [1, 2] (fun v1 v2 wr => ∃ c q p : Nat, c = a + q ∧ p ≤ text.size ∧ (p = 64 * q ∨ p = text.size) ∧ v1 = .int .i64 (c : Nat) ∧ v2 = .string (text.extract p text.size) ∧ StrmAt w wr g s a (numsOf text) p) (fun _ v _ => strSize v)
  case atStart => exact ⟨a, 0, 0, rfl, Nat.zero_le _, .inl rfl, rfl, by simp, hS1⟩
  case round =>
    clear hS1
    obtain ⟨c, q, p, hc, hp, hpq, rfl, rfl, hS⟩ := hrel
    generalize wr = wo at *
    obtain ⟨u, hu⟩ : ∃ u, u = text.extract p text.size := ⟨_, rfl⟩
    have hus : u.size = text.size - p := by rw [hu]; simp
    have hun : numsOf u = (numsOf text).drop p := by rw [hu, numsOf_extract, List.take_of_length_le (by simp [numsOf_length])]
    have hul := numsOf_length u
    have hub := numsOf_bytes u
    rw [← hu]
    by_cases hlt : p < text.size
    · obtain ⟨n, hn⟩ : ∃ n, n = min u.size 64 := ⟨_, rfl⟩
      have hn1 : n ≤ 64 := by omega
      have hn0 : 0 < n := by omega
      have hnu : n ≤ u.size := by omega
      have hq : p = 64 * q := by omega
      have hx := extract_more text p n
      rw [← hu] at hx
      have hclt : c < 4294967296 := by omega
      obtain ⟨U, hU⟩ : ∃ U, U = (numsOf u).take 64 := ⟨_, rfl⟩
      have hUl : U.length = n := by rw [hU, List.length_take, hul, hn, Nat.min_comm]
      have hUb : Bytes U := by rw [hU]; exact hub.take 64
      obtain ⟨k, hk⟩ : ∃ k, k = blkL (s.at c) := ⟨_, rfl⟩
      have hkl : k.length = 64 := by rw [hk]; exact blkL_length _
      have hkb : Bytes k := by rw [hk]; exact blkL_bytes _
      have hnext : byV ((strmL s a (numsOf text)).take p) ++ byV (xorL n U k) = byV ((strmL s a (numsOf text)).take (p + n)) := by
        rw [strmL_step s a (numsOf text) q p n hq hn1 (by omega), byV_append, ← hc, ← hk, ← hun]
        congr 2
        unfold xorL
        refine List.map_congr_left fun i hi => ?_
        have hi := List.mem_range.1 hi
        rw [hU, List.getD_eq_getElem?_getD (l := (numsOf u).take 64), List.getElem?_take, if_pos (by omega), ← List.getD_eq_getElem?_getD]
      obtain ⟨w0, hw0⟩ : ∃ w0, wo.alloc (.cells #[.int .u8 0, .int .u8 0, .int .u8 0, .int .u8 0, .int .u8 0, .int .u8 0, .int .u8 0, .int .u8 0, .int .u8 0, .int .u8 0, .int .u8 0, .int .u8 0, .int .u8 0, .int .u8 0, .int .u8 0, .int .u8 0, .int .u8 0, .int .u8 0, .int .u8 0, .int .u8 0, .int .u8 0, .int .u8 0, .int .u8 0, .int .u8 0, .int .u8 0, .int .u8 0, .int .u8 0, .int .u8 0, .int .u8 0, .int .u8 0, .int .u8 0, .int .u8 0, .int .u8 0, .int .u8 0, .int .u8 0, .int .u8 0, .int .u8 0, .int .u8 0, .int .u8 0, .int .u8 0, .int .u8 0, .int .u8 0, .int .u8 0, .int .u8 0, .int .u8 0, .int .u8 0, .int .u8 0, .int .u8 0, .int .u8 0, .int .u8 0, .int .u8 0, .int .u8 0, .int .u8 0, .int .u8 0, .int .u8 0, .int .u8 0, .int .u8 0, .int .u8 0, .int .u8 0, .int .u8 0, .int .u8 0, .int .u8 0, .int .u8 0, .int .u8 0] 163) = w0 := ⟨_, rfl⟩
      have a1 : Row w0 wo.heap.size 163 (byV (List.replicate 64 0)) := by rw [← hw0]; exact heap_alloc_new wo _
      have ab : Below wo.heap.size wo w0 := by rw [← hw0]; exact (Below.refl _ _).alloc (Nat.le_refl _) _
      obtain ⟨w2, hcp, b1, o1⟩ := copy_row w0 wo.heap.size 163 64 _ rfl a1 u
      rw [← hn] at hcp b1
      rw [← hU] at b1
      have hB2 : Below wo.heap.size wo w2 := ab.trans (o1.below (Nat.le_of_lt a1.lt))
      have hP2 : Row w2 wo.heap.size 163 (rowF 64 (pieF U k 0)) := b1.congr (by
        rw [← pie_start U k (by omega), hUl, byV_zeros, byV_zeros, List.drop_replicate])
      have hwlt : w.heap.size < wo.heap.size := hS.bld.lt
      have HBk := block_any s hs c hclt g w2 (hS.st.below hB2 hS.st.lt)
      rw [← hk] at HBk
      have v1 : IntKind.u32.wrap (c : Int) = c := by rw [IntKind.wrap_u32]; omega
      have c1 : (0 : Int) < u.size := by omega
      have c1' : 0 < u.size := by omega
      clear b1 o1 ab a1 hk
      obtain ⟨ds, hds⟩ : ∃ ds, ds = (byV k).toArray := ⟨_, rfl⟩
      rw [← hds] at HBk
      have hsz : ds.size = 64 := by rw [hds]; simp [byV, hkl]
      have hone : ds.all (·.oneCell') = true := by rw [hds]; simp [byV, Value.oneCell']
      have hinfo : (Tryz.prog.info? 163).map (·.size) = some ds.size := by rw [hsz]; kernel_rfl
      have HDS : Hid (ds = (byV k).toArray) := hds
      have HX : Hid (u.extract n u.size = text.extract (p + n) text.size ∧ u.size = text.size - p ∧ p + n ≤ text.size ∧ (p + n = 64 * (q + 1) ∨ p + n = text.size) ∧ c + 1 = a + (q + 1)) := ⟨hx, hus, by omega, by omega, by omega⟩
      have HU : Hid (U.length = n ∧ Bytes U ∧ k.length = 64 ∧ Bytes k ∧ byV ((strmL s a (numsOf text)).take p) ++ byV (xorL n U k) = byV ((strmL s a (numsOf text)).take (p + n))) := ⟨hUl, hUb, hkl, hkb, hnext⟩
      have HW2 : Hid (Row w2 wo.heap.size 163 (rowF 64 (pieF U k 0)) ∧ Below wo.heap.size wo w2) := ⟨hP2, hB2⟩
      have HS : Hid (StrmAt w wo g s a (numsOf text) p) := hS
      clear hds hx hus hu hun hul hub hU hUl hUb hkl hkb hnext hP2 hB2 hS hpq hq hn hc hp
      go_wp2_with fail
      refine HBk.mono ?_
      rintro e w3 ⟨rfl, hb3⟩
      have hPlt := HW2.out.1.lt
      have hP3 := HW2.out.1.below hb3 hPlt
      have hB3 := HW2.out.2.trans (hb3.mono HW2.out.2.size)
      have hK4 : Row (w3.alloc (.cells ds 163)) w3.heap.size 163 (byV k) := by rw [HDS.out]; exact heap_alloc_new w3 _
      have hP4 : Row (w3.alloc (.cells ds 163)) wo.heap.size 163 (rowF 64 (pieF U k 0)) := (Below.heap_alloc _ _ _ hP3.lt).trans hP3
      have hB4 := hB3.alloc hB3.size (.cells ds 163)
      have hPK : wo.heap.size < w3.heap.size := hP3.lt
      obtain ⟨w4, hw4⟩ : ∃ w4, (w3.alloc (.cells #[.int .u8 0, .int .u8 0, .int .u8 0, .int .u8 0, .int .u8 0, .int .u8 0, .int .u8 0, .int .u8 0, .int .u8 0, .int .u8 0, .int .u8 0, .int .u8 0, .int .u8 0, .int .u8 0, .int .u8 0, .int .u8 0, .int .u8 0, .int .u8 0, .int .u8 0, .int .u8 0, .int .u8 0, .int .u8 0, .int .u8 0, .int .u8 0, .int .u8 0, .int .u8 0, .int .u8 0, .int .u8 0, .int .u8 0, .int .u8 0, .int .u8 0, .int .u8 0, .int .u8 0, .int .u8 0, .int .u8 0, .int .u8 0, .int .u8 0, .int .u8 0, .int .u8 0, .int .u8 0, .int .u8 0, .int .u8 0, .int .u8 0, .int .u8 0, .int .u8 0, .int .u8 0, .int .u8 0, .int .u8 0, .int .u8 0, .int .u8 0, .int .u8 0, .int .u8 0, .int .u8 0, .int .u8 0, .int .u8 0, .int .u8 0, .int .u8 0, .int .u8 0, .int .u8 0, .int .u8 0, .int .u8 0, .int .u8 0, .int .u8 0, .int .u8 0] 163)).setRow w3.heap.size ds = w4 := ⟨_, rfl⟩
      have hw4' : w3.alloc (.cells ds 163) = w4 := by rw [← hw4, World.setRow_alloc_new]
      rw [hw4'] at hK4 hP4 hB4
      have H4 : Hid (Row w4 wo.heap.size 163 (rowF 64 (pieF U k 0)) ∧ Row w4 w3.heap.size 163 (byV k) ∧ Below wo.heap.size wo w4) := ⟨hP4, hK4, hB4⟩
      clear hb3 HBk hw0 hcp hP3 hB3 hK4 hP4 hB4 hw4' HW2 hPlt
      go_wp2_with (refine wpList_store_row rfl 163 _ _ rfl w3.heap.size ds rfl rfl 163 _ (heap_alloc_new w3 _) hinfo (by rw [hsz]; rfl) hone ?_)
      clear hinfo hone hsz hw4
      go_loopw [25] (fun i wr => ∃ j : Nat, j ≤ 64 ∧ i = .int .i64 j ∧ Row wr wo.heap.size 163 (rowF 64 (pieF U k j)) ∧ Row wr w3.heap.size 163 (byV k) ∧ Below wo.heap.size wo wr) (fun i _ => 64 - (intOf i).toNat)
      case atStart => exact ⟨0, Nat.zero_le _, rfl, H4.out⟩
      case round =>
        clear H4
        obtain ⟨j, hj, rfl, kP, kK, hbq⟩ := hrel
        by_cases hj64 : j < 64
        · have d1 := kP.cellF j hj64
          rw [pieF_at] at d1
          have d2 : wr.cell? ⟨w3.heap.size, j, none⟩ = some (.int .u8 (k.getD j 0 : Nat)) := by rw [kK.cell, byV_get _ _ (by rw [HU.out.2.2.1]; exact hj64)]
          have f1 : wr.frozen? ⟨wo.heap.size, j, none⟩ = false := kP.frozen _
          have hx1 : U.getD j 0 < 256 := getD_lt (by decide) HU.out.2.1 _
          have hx2 : k.getD j 0 < 256 := getD_lt (by decide) HU.out.2.2.2.1 _
          have vx := u8_xor_nat (U.getD j 0) (k.getD j 0) hx1 hx2
          have kP' := kP.setF j (.int .u8 ((U.getD j 0 ^^^ k.getD j 0 : Nat) : Int))
          have hst : (rowF 64 fun i => if i = j then Value.int .u8 ((U.getD j 0 ^^^ k.getD j 0 : Nat) : Int) else pieF U k j i) = rowF 64 (pieF U k (j + 1)) := rowF_congr fun i _ => pieF_step U k j i
          rw [hst] at kP'
          clear hst
          generalize hy : U.getD j 0 ^^^ k.getD j 0 = y at *
          generalize U.getD j 0 = x1 at *
          generalize k.getD j 0 = x2 at *
          clear hy
          have kK' : Row (wr.setCell ⟨wo.heap.size, j, none⟩ (.int .u8 (y : Int))) w3.heap.size 163 (byV k) := (Below.heap_setCell _ _ _ _ (by simp; omega)).trans kK
          have hbq' := hbq.setCell (p := ⟨wo.heap.size, j, none⟩) (Nat.le_refl _) (.int .u8 (y : Int))
          have HR : Hid (Row (wr.setCell ⟨wo.heap.size, j, none⟩ (.int .u8 (y : Int))) wo.heap.size 163 (rowF 64 (pieF U k (j + 1))) ∧ Row (wr.setCell ⟨wo.heap.size, j, none⟩ (.int .u8 (y : Int))) w3.heap.size 163 (byV k) ∧ Below wo.heap.size wo (wr.setCell ⟨wo.heap.size, j, none⟩ (.int .u8 (y : Int)))) := ⟨kP', kK', hbq'⟩
          have i1 : (j : Int) < 64 := by omega
          clear kP kK hbq kP' kK' hbq'
          go_wp2_with fail
          go_region_with (fail)
          all_goals
            go_wp2
            go_roundw
            case rel => exact ⟨j + 1, by omega, by go_num, HR.out.1, HR.out.2.1, HR.out.2.2.drew⟩
            case measure => simp [intOf]; omega
        · obtain rfl : j = 64 := by omega
          have hbld := bld_below HS.out.bld hbq (Nat.le_refl _)
          have hst := HS.out.st.below hbq HS.out.st.lt
          have hbel := HS.out.bel.trans (hbq.mono HS.out.bel.size)
          have hcells : ∀ i u, (byV (xorL n U k))[i]? = some u → wr.cell? ((⟨wo.heap.size, 0, none⟩ : Addr).add i) = some u := fun i u hiu => by
            have hadd : (⟨wo.heap.size, 0, none⟩ : Addr).add i = ⟨wo.heap.size, i, none⟩ := by unfold Addr.add; split <;> simp_all
            rw [hadd, kP.cell]
            rw [← pie_take U k n hn1, List.getElem?_take] at hiu
            split at hiu
            · exact hiu
            · cases hiu
          have hWr := bWrite_used w.heap.size w.heap.size _ ⟨wo.heap.size, 0, none⟩ n 64 (byV (xorL n U k)) wr hbld (by simp [byV, xorL_length]) hcells (fun v hv => by
            obtain ⟨x, _, rfl⟩ := List.mem_map.1 hv
            rfl) (by simp [byV, strmL_length, hbl]; omega) (by have := hbel.size; omega)
          rw [HU.out.2.2.2.2] at hWr
          have HW : Hid (Row wr g 343 (wdV s.toL) ∧ Below w.heap.size w wr) := ⟨hst, hbel⟩
          have i1 : (n : Int) ≤ 64 := by omega
          have i2 : (n : Int) ≤ u.size := by omega
          have i3 : IntKind.i64.wrap ((c : Int) + 1) = c + 1 := by rw [IntKind.wrap_i64]; omega
          clear kP kK hbq hbld hst hbel hcells HU HDS
          rw [show ((64 : Nat) : Int) = 64 from rfl]
          go_wp2_with fail
          refine hWr.mono ?_
          rintro e w5 ⟨rfl, hB5, hb5⟩
          have hS5 : StrmAt w w5 g s a (numsOf text) (p + n) := ⟨hB5, HW.out.1.below hb5 hg, hg, HW.out.2.trans hb5⟩
          clear hWr hB5 hb5 HW HS
          go_wp2
          go_roundw
          case rel => exact ⟨c + 1, q + 1, p + n, HX.out.2.2.2.2, HX.out.2.2.1, HX.out.2.2.2.1, by go_num, by rw [HX.out.1], hS5⟩
          case measure => simp [strSize]; have := HX.out.2.1; omega
    · have hp2 : p = text.size := by omega
      have hz : u.size = 0 := by omega
      have c1 : ¬ (0 : Int) < u.size := by omega
      have hall : (strmL s a (numsOf text)).take p = strmL s a (numsOf text) := List.take_of_length_le (by rw [strmL_length]; omega)
      have hbl2 := hS.bld
      rw [hall, byV_cells _ (strmL_bytes s a _ hby)] at hbl2
      have hSt := bString_any w.heap.size w.heap.size _ wo (.inr hbl2) (by have := hS.bel.size; omega)
      rw [strN_cells] at hSt
      have HB : Hid (Below w.heap.size w wo) := hS.bel
      clear hS hall hbl2 hun hub hul hu hus hpq hc
      go_wp2_with fail
      refine hSt.mono ?_
      rintro e w2 ⟨rfl, hb2⟩
      clear hSt
      go_wp2
      go_ret
      exact ⟨rfl, HB.out.trans hb2⟩
end Go.Proofs.YtoopaigpjefonaaGreatDoor.Bx

namespace Go.Proofs.YtoopaigpjefonaaGreatDoor.Bx
set_option maxRecDepth 20000

/-- 2^130 - 5. -/
def polyP : Nat := 1361129467683753853853498429727072845819
/-- The number of bytes, the lowest first; a number's first bytes. -/
def leN : List Nat → Nat
  | [] => 0
  | x :: l => x + 256 * leN l
def leB (k n : Nat) : List Nat := (List.range k).map fun i => n / 2 ^ (8 * i) % 256
/-- The key's first half, bits taken away. -/
def clampB (i x : Nat) : Nat := if i % 4 = 3 then x % 16 else if i % 4 = 0 ∧ 0 < i then x - x % 4 else x
def clampL (l : List Nat) : List Nat := (List.range 16).map fun i => clampB i (l.getD i 0)
def polyR (key : List Nat) : Nat := leN (clampL key)
/-- One piece more. -/
def polyStep (r h : Nat) (piece : List Nat) : Nat := (h + leN (piece ++ [1])) * r % polyP
/-- The number behind the first n pieces. -/
def polyH (r : Nat) (l : List Nat) : Nat → Nat
  | 0 => 0
  | n + 1 => polyStep r (polyH r l n) ((l.drop (16 * n)).take 16)
def polyN (r : Nat) (l : List Nat) : Nat := polyH r l ((l.length + 15) / 16)
/-- Poly1305's tag. -/
def polyT (key l : List Nat) : List Nat := leB 16 ((polyN (polyR key) l + leN (key.drop 16)) % 340282366920938463463374607431768211456)

theorem leN_append (a b : List Nat) : leN (a ++ b) = leN a + 256 ^ a.length * leN b := by
  induction a with
  | nil => simp [leN]
  | cons x a ih =>
    show x + 256 * leN (a ++ b) = x + 256 * leN a + 256 ^ (a.length + 1) * leN b
    rw [ih, Nat.mul_add, Nat.pow_succ, Nat.mul_comm (256 ^ a.length) 256, Nat.mul_assoc]
    omega
theorem leN_lt (a : List Nat) (h : ∀ x ∈ a, x < 256) : leN a < 256 ^ a.length := by
  induction a with
  | nil => simp [leN]
  | cons x a ih =>
    have h1 := h x (List.mem_cons_self ..)
    have h2 := ih fun y hy => h y (List.mem_cons_of_mem _ hy)
    show x + 256 * leN a < 256 ^ (a.length + 1)
    rw [Nat.pow_succ]
    omega
theorem leB_length (k n : Nat) : (leB k n).length = k := by simp [leB]
theorem leB_bytes (k n : Nat) : ∀ x ∈ leB k n, x < 256 := fun x hx => by
  obtain ⟨i, _, rfl⟩ := List.mem_map.1 hx
  exact Nat.mod_lt _ (by decide)
theorem leB_succ (k n : Nat) : leB (k + 1) n = n % 256 :: leB k (n / 256) := by
  have e : ∀ i, n / 2 ^ (8 * (i + 1)) % 256 = n / 256 / 2 ^ (8 * i) % 256 := fun i => by
    rw [Nat.div_div_eq_div_mul, Nat.mul_add, Nat.pow_add, Nat.mul_comm (2 ^ (8 * i))]
  simp only [leB, List.range_succ_eq_map, List.map_cons, List.map_map, Nat.mul_zero, Nat.pow_zero, Nat.div_one, Function.comp_def, e, Nat.succ_eq_add_one]
theorem leB_leN : ∀ (a : List Nat), (∀ x ∈ a, x < 256) → leB a.length (leN a) = a
  | [], _ => rfl
  | x :: a, h => by
    have h1 := h x (List.mem_cons_self ..)
    have h2 := leB_leN a fun y hy => h y (List.mem_cons_of_mem _ hy)
    rw [List.length_cons, leB_succ, leN, show (x + 256 * leN a) % 256 = x by omega, show (x + 256 * leN a) / 256 = leN a by omega, h2]
theorem leN_leB : ∀ (k n : Nat), leN (leB k n) = n % 256 ^ k
  | 0, n => by simp [leB, leN, Nat.mod_one]
  | k + 1, n => by
    rw [leB_succ, leN, leN_leB k, Nat.pow_succ, Nat.mul_comm (256 ^ k), Nat.mod_mul]
/-- What stands behind whole pieces changes nothing of the number behind them. -/
theorem polyH_append (r : Nat) (l m : List Nat) : ∀ n, 16 * n ≤ l.length → polyH r (l ++ m) n = polyH r l n
  | 0, _ => rfl
  | n + 1, h => by
    rw [polyH, polyH, polyH_append r l m n (by omega), List.drop_append_of_le_length (by omega), List.take_append_of_le_length (by simp; omega)]
/-- One piece more behind whole pieces. -/
theorem polyN_snoc (r : Nat) (l m : List Nat) (n : Nat) (h : l.length = 16 * n) (h1 : 0 < m.length) (h2 : m.length ≤ 16) : polyN r (l ++ m) = polyStep r (polyN r l) m := by
  have e1 : ((l ++ m).length + 15) / 16 = n + 1 := by rw [List.length_append]; omega
  have e2 : (l.length + 15) / 16 = n := by omega
  rw [polyN, polyN, e1, e2, polyH, polyH_append r l m n (by omega), List.drop_append_of_le_length (by omega), List.drop_eq_nil_of_le (by omega), List.nil_append, List.take_of_length_le h2]
theorem polyN_nil (r : Nat) : polyN r [] = 0 := rfl
theorem polyN_lt (r : Nat) (l : List Nat) : polyN r l < polyP := by
  unfold polyN
  cases (l.length + 15) / 16 with
  | zero => exact (show 0 < polyP by decide)
  | succ n => exact Nat.mod_lt _ (by decide)
theorem polyStep_mod (r h h' : Nat) (m : List Nat) (e : h % polyP = h' % polyP) : polyStep r h m = polyStep r h' m := by
  unfold polyStep
  rw [Nat.mul_mod, Nat.add_mod, e, ← Nat.add_mod, ← Nat.mul_mod]

/-- A product of three words and two, word by word. -/
theorem product_sum (x y z r s xrH xr xsH xs yrH yr ysH ys s0 c1 t0 c2 s1 c3 t1 c4 : Nat)
    (e1 : x * r = xrH * 18446744073709551616 + xr) (e2 : x * s = xsH * 18446744073709551616 + xs) (e3 : y * r = yrH * 18446744073709551616 + yr) (e4 : y * s = ysH * 18446744073709551616 + ys)
    (e7 : xs + yr = c1 * 18446744073709551616 + s0) (e8 : ys + z * r = c2 * 18446744073709551616 + t0) (e9 : s0 + xrH = c3 * 18446744073709551616 + s1) (e10 : t0 + (xsH + yrH + c1) + c3 = c4 * 18446744073709551616 + t1) :
    xr + s1 * 18446744073709551616 + t1 * 340282366920938463463374607431768211456 + (ysH + z * s + c2 + c4) * 6277101735386680763835789423207666416102355444464034512896 = (x + y * 18446744073709551616 + z * 340282366920938463463374607431768211456) * (r + s * 18446744073709551616) := by
  have h1 : (x + y * 18446744073709551616 + z * 340282366920938463463374607431768211456) * (r + s * 18446744073709551616) = x * r + (x * s + y * r) * 18446744073709551616 + (y * s + z * r) * 340282366920938463463374607431768211456 + z * s * 6277101735386680763835789423207666416102355444464034512896 := by
    rw [Nat.add_mul, Nat.add_mul, Nat.mul_add, Nat.mul_add, Nat.mul_add, ← Nat.mul_assoc x s, Nat.mul_right_comm y _ r, Nat.mul_mul_mul_comm y _ s, Nat.mul_right_comm z _ r, Nat.mul_mul_mul_comm z _ s]
    omega
  rw [h1]
  generalize x * r = p1 at *
  generalize x * s = p2 at *
  generalize y * r = p3 at *
  generalize y * s = p4 at *
  generalize z * r = p5 at *
  generalize z * s = p6 at *
  omega
/-- Four words, what they have beyond 130 bits added five times. -/
theorem folded_sum (a b c d x0 k0 y0 k1 x1 k2 y1 k3 : Nat)
    (e1 : a + (c - c % 4) = k0 * 18446744073709551616 + x0) (e2 : b + d + k0 = k1 * 18446744073709551616 + y0) (e3 : x0 + (c / 4 + d % 4 * 4611686018427387904) = k2 * 18446744073709551616 + x1) (e4 : y0 + d / 4 + k2 = k3 * 18446744073709551616 + y1) :
    a + b * 18446744073709551616 + c * 340282366920938463463374607431768211456 + d * 6277101735386680763835789423207666416102355444464034512896 = x1 + y1 * 18446744073709551616 + (c % 4 + k1 + k3) * 340282366920938463463374607431768211456 + polyP * (c / 4 + d * 4611686018427387904) := by
  unfold polyP
  omega
theorem mod_of_add (N V H : Nat) (h : N = V + polyP * H) : V % polyP = N % polyP := by
  rw [h, Nat.add_mul_mod_self_left]
theorem folded_low (c d x1 y1 z : Nat) (a b : Nat) (ha : a < 18446744073709551616) (hb : b < 18446744073709551616) (hd : d < 9223372036854775808) (hc : c < 18446744073709551616) (hx : x1 < 18446744073709551616) (hy : y1 < 18446744073709551616)
    (e : a + b * 18446744073709551616 + c * 340282366920938463463374607431768211456 + d * 6277101735386680763835789423207666416102355444464034512896 = x1 + y1 * 18446744073709551616 + z * 340282366920938463463374607431768211456 + polyP * (c / 4 + d * 4611686018427387904)) : z ≤ 4 := by
  unfold polyP at e
  omega
end Go.Proofs.YtoopaigpjefonaaGreatDoor.Bx

namespace Go.Proofs.YtoopaigpjefonaaGreatDoor.Bx
set_option maxRecDepth 20000
open Go.RowKit

theorem add64_run (x y c : Nat) (hc : c ≤ 1) (w : World) : (callFunc 273 #[.int .u64 x, .int .u64 y, .int .u64 c]).run Tryz.prog w =
    .ok (.value (.tuple #[.int .u64 (((x + y + c) % 18446744073709551616 : Nat) : Int), .int .u64 (((x + y + c) / 18446744073709551616 : Nat) : Int)])) w := by
  rw [run_callFunc_extern Tryz.func273 (by kernel_rfl) (by kernel_rfl) (by kernel_rfl) (e := add64Entry) (by kernel_rfl), run_add64 x y c (by omega) (by omega) (by omega) (by omega)]
  simp only [Result.andThen]
  congr 5 <;> omega
/-- A sum of two words and a carry: a word and a carry. -/
theorem add64_c (x y c : Nat) (hx : x < 18446744073709551616) (hy : y < 18446744073709551616) (hc : c ≤ 1) : ∃ k s : Nat, (∀ w, (callFunc 273 #[.int .u64 x, .int .u64 y, .int .u64 c]).run Tryz.prog w = .ok (.value (.tuple #[.int .u64 s, .int .u64 k])) w) ∧ x + y + c = k * 18446744073709551616 + s ∧ s < 18446744073709551616 ∧ k ≤ 1 :=
  ⟨(x + y + c) / 18446744073709551616, (x + y + c) % 18446744073709551616, fun w => add64_run x y c hc w, by omega, by omega, by omega⟩
theorem add64_0 (x y : Nat) (hx : x < 18446744073709551616) (hy : y < 18446744073709551616) : ∃ k s : Nat, (∀ w, (callFunc 273 #[.int .u64 x, .int .u64 y, .int .u64 0]).run Tryz.prog w = .ok (.value (.tuple #[.int .u64 s, .int .u64 k])) w) ∧ x + y = k * 18446744073709551616 + s ∧ s < 18446744073709551616 ∧ k ≤ 1 := by
  obtain ⟨k, s, h1, h2, h3, h4⟩ := add64_c x y 0 hx hy (by decide)
  exact ⟨k, s, h1, by omega, h3, h4⟩
theorem sub64_run (x y b : Nat) (hb : b ≤ 1) (w : World) : (callFunc 278 #[.int .u64 x, .int .u64 y, .int .u64 b]).run Tryz.prog w =
    .ok (.value (.tuple #[.int .u64 (((x + 18446744073709551616 - y - b) % 18446744073709551616 : Nat) : Int), .int .u64 ((if x < y + b then 1 else 0 : Nat) : Int)])) w := by
  rw [run_callFunc_extern Tryz.func278 (by kernel_rfl) (by kernel_rfl) (by kernel_rfl) (e := sub64Entry) (by kernel_rfl), run_sub64 x y b hb]
  rfl
/-- A difference of two words and a borrow: a word and a borrow. -/
theorem sub64_c (x y c : Nat) (hx : x < 18446744073709551616) (hy : y < 18446744073709551616) (hc : c ≤ 1) : ∃ k s : Nat, (∀ w, (callFunc 278 #[.int .u64 x, .int .u64 y, .int .u64 c]).run Tryz.prog w = .ok (.value (.tuple #[.int .u64 s, .int .u64 k])) w) ∧ x + k * 18446744073709551616 = y + c + s ∧ s < 18446744073709551616 ∧ k ≤ 1 := by
  refine ⟨if x < y + c then 1 else 0, (x + 18446744073709551616 - y - c) % 18446744073709551616, fun w => sub64_run x y c hc w, ?_, by omega, by split <;> omega⟩
  split <;> omega

set_option maxHeartbeats 1000000 in
theorem mul64_run (x y : Nat) (hx : x < 18446744073709551616) (hy : y < 18446744073709551616) (w : World) :
    Calls Tryz.prog 120 #[.int .u64 x, .int .u64 y] w fun e w' => e = .returned (.tuple #[.int .u64 ((x * y / 18446744073709551616 : Nat) : Int), .int .u64 ((x * y % 18446744073709551616 : Nat) : Int)]) ∧ w' = w := by
  obtain ⟨bd, bt, bw, hhi⟩ := Lib.mul64_hi x y hx hy
  have ba := Lib.half_mul_le (a := x / 4294967296) (b := y / 4294967296) (by omega) (by omega)
  have bb := Lib.half_mul_le (a := x / 4294967296) (b := y % 4294967296) (by omega) (by omega)
  have bc := Lib.half_mul_le (a := x % 4294967296) (b := y / 4294967296) (by omega) (by omega)
  have ba' : x / 4294967296 * (y / 4294967296) < 18446744073709551616 := by omega
  have bb' : x / 4294967296 * (y % 4294967296) < 18446744073709551616 := by omega
  have bc' : x % 4294967296 * (y / 4294967296) < 18446744073709551616 := by omega
  have bh1 : x / 4294967296 * (y / 4294967296) + (x / 4294967296 * (y % 4294967296) + x % 4294967296 * (y % 4294967296) / 4294967296) / 4294967296 < 18446744073709551616 := by omega
  have bh : x / 4294967296 * (y / 4294967296) + (x / 4294967296 * (y % 4294967296) + x % 4294967296 * (y % 4294967296) / 4294967296) / 4294967296 + ((x / 4294967296 * (y % 4294967296) + x % 4294967296 * (y % 4294967296) / 4294967296) % 4294967296 + x % 4294967296 * (y / 4294967296)) / 4294967296 < 18446744073709551616 := by omega
  go_enter Tryz.func120, Tryz.ntmps120
  go_wp2
  simp only [Mul64.maskN x hx, Mul64.maskN y hy, Mul64.divN, Mul64.mulN, Mul64.addN, Mul64.wrapN _ bd, Mul64.wrapN _ bb', Mul64.wrapN _ bt, Mul64.maskN _ bt, Mul64.wrapN _ bc', Mul64.wrapN _ bw, Mul64.wrapN _ ba', Mul64.wrapN _ bh1, Mul64.wrapN _ bh, Mul64.wrapM (x * y)]
  rw [hhi]
  go_ret2
  exact ⟨rfl, rfl⟩
theorem mul64_any (x y : Nat) (hx : x < 18446744073709551616) (hy : y < 18446744073709551616) : ∃ h l : Nat, (∀ w, Calls Tryz.prog 120 #[.int .u64 x, .int .u64 y] w fun e w' => e = .returned (.tuple #[.int .u64 h, .int .u64 l]) ∧ w' = w) ∧ x * y = h * 18446744073709551616 + l ∧ l < 18446744073709551616 ∧ h < 18446744073709551616 := by
  refine ⟨x * y / 18446744073709551616, x * y % 18446744073709551616, fun w => mul64_run x y hx hy w, by omega, by omega, ?_⟩
  have h : x * y < 18446744073709551616 * 18446744073709551616 := Nat.mul_lt_mul'' hx hy
  rw [Nat.div_lt_iff_lt_mul (by decide)]
  exact h
end Go.Proofs.YtoopaigpjefonaaGreatDoor.Bx

namespace Go.Proofs.YtoopaigpjefonaaGreatDoor.Bx
set_option maxRecDepth 20000
open Go.RowKit

theorem and_not3 (a : Nat) (h : a < 18446744073709551616) : a &&& 18446744073709551612 = a - a % 4 := by
  have e : a - a % 4 = a / 4 * 4 := by omega
  rw [e]
  refine Nat.eq_of_testBit_eq fun i => ?_
  rw [Nat.testBit_and, show (18446744073709551612 : Nat) = (2 ^ 62 - 1) * 2 ^ 2 from rfl, show a / 4 * 4 = (a / 2 ^ 2) * 2 ^ 2 from rfl, Nat.testBit_mul_two_pow, Nat.testBit_mul_two_pow, Nat.testBit_two_pow_sub_one, Nat.testBit_div_two_pow]
  by_cases h2 : 2 ≤ i
  · by_cases h3 : i - 2 < 62
    · simp [h2, h3, show i - 2 + 2 = i by omega]
    · have : a.testBit i = false := Nat.testBit_lt_two_pow (Nat.lt_of_lt_of_le h (Nat.pow_le_pow_right (n := 2) (i := 64) (by decide) (by omega)))
      simp [h2, h3, show i - 2 + 2 = i by omega, this]
  · simp [h2]
theorem fold_not (c : Nat) (hc : c < 18446744073709551616) : bits .andNot .u64 (c : Int) 3 = ((c - c % 4 : Nat) : Int) := by
  rw [show (3 : Int) = ((3 : Nat) : Int) from rfl, u64_andNot_nat c 3 hc (by decide)]
  exact congrArg _ (and_not3 c hc)
theorem fold_and (c : Nat) (hc : c < 18446744073709551616) : bits .and .u64 (c : Int) 3 = ((c % 4 : Nat) : Int) := by
  rw [show (3 : Int) = ((3 : Nat) : Int) from rfl, u64_and_nat c 3 hc (by decide), nat_mask2]
theorem fold_or (c d : Nat) (hc : c < 18446744073709551616) : bits .or .u64 ((c : Int) / 4) (IntKind.u64.wrap ((d : Int) * 4611686018427387904)) = ((c / 4 + d % 4 * 4611686018427387904 : Nat) : Int) := by
  have e1 : (c : Int) / 4 = ((c / 4 : Nat) : Int) := by omega
  have e2 : IntKind.u64.wrap ((d : Int) * 4611686018427387904) = ((d % 4 * 4611686018427387904 : Nat) : Int) := by rw [IntKind.wrap_u64]; omega
  rw [e1, e2, u64_or_nat _ _ (by omega) (by omega), Nat.or_comm, nat_join 62 _ _ (by omega) (by omega), Nat.add_comm]

theorem quot4 (d q : Nat) (h : q = d / 4) : (d : Int) / 4 = q := by omega
theorem wrap_sum2 (p k : Nat) (h : p + k < 18446744073709551616) : IntKind.u64.wrap ((p : Int) + k) = p + k := by rw [IntKind.wrap_u64]; omega
theorem wrap_sum3 (p k l : Nat) (h : p + k + l < 18446744073709551616) : IntKind.u64.wrap ((p : Int) + k + l) = p + k + l := by rw [IntKind.wrap_u64]; omega
theorem wrap_one (p : Nat) (h : p < 18446744073709551616) : IntKind.u64.wrap (p : Int) = p := by rw [IntKind.wrap_u64]; omega
theorem wrap_sum4 (p k l m : Nat) (h : p + k + l + m < 18446744073709551616) : IntKind.u64.wrap ((p : Int) + k + l + m) = ((p + k + l + m : Nat) : Int) := by rw [IntKind.wrap_u64]; omega
theorem small5 (p k l : Nat) (h : p + k + l ≤ 4) : p + k + l < 18446744073709551616 ∧ p + k < 18446744073709551616 := by omega

set_option maxHeartbeats 1000000 in
theorem folded_any (a b c d : Nat) (ha : a < 18446744073709551616) (hb : b < 18446744073709551616) (hc : c < 18446744073709551616) (hd : d < 9223372036854775808) : ∃ x y z : Nat, x < 18446744073709551616 ∧ y < 18446744073709551616 ∧ z ≤ 4 ∧
    (x + y * 18446744073709551616 + z * 340282366920938463463374607431768211456) % polyP = (a + b * 18446744073709551616 + c * 340282366920938463463374607431768211456 + d * 6277101735386680763835789423207666416102355444464034512896) % polyP ∧
    ∀ w, Calls Tryz.prog 279 #[.int .u64 a, .int .u64 b, .int .u64 c, .int .u64 d] w fun e w' => e = .returned (.agg #[.int .u64 x, .int .u64 y, .int .u64 z]) ∧ Below w.heap.size w w' := by
  obtain ⟨m, hm⟩ : ∃ m, m = c - c % 4 := ⟨_, rfl⟩
  obtain ⟨k0, x0, r1, e1, l1, g1⟩ := add64_0 a m ha (by omega)
  obtain ⟨k1, y0, r2, e2, l2, g2⟩ := add64_c b d k0 hb (by omega) g1
  obtain ⟨n, hn⟩ : ∃ n, n = c / 4 + d % 4 * 4611686018427387904 := ⟨_, rfl⟩
  obtain ⟨k2, x1, r3, e3, l3, g3⟩ := add64_0 x0 n l1 (by omega)
  obtain ⟨q, hq⟩ : ∃ q, q = d / 4 := ⟨_, rfl⟩
  obtain ⟨k3, y1, r4, e4, l4, g4⟩ := add64_c y0 q k2 l2 (by omega) g3
  have hsum := folded_sum a b c d x0 k0 y0 k1 x1 k2 y1 k3 (by omega) e2 (by omega) (by omega)
  have hz := folded_low c d x1 y1 _ a b ha hb hd hc l3 l4 hsum
  refine ⟨x1, y1, c % 4 + k1 + k3, l3, l4, hz, mod_of_add _ _ _ hsum, fun w => ?_⟩
  have v1 := fold_not c hc
  have v2 := fold_and c hc
  have v3 := fold_or c d hc
  rw [← hm] at v1
  rw [← hn] at v3
  have v4 := quot4 d q hq
  obtain ⟨p, hp⟩ : ∃ p, p = c % 4 := ⟨_, rfl⟩
  rw [← hp] at v2 hz
  rw [← hp]
  have v5 := wrap_sum2 p k1 (small5 p k1 k3 hz).2
  have v6 := wrap_sum3 p k1 k3 (small5 p k1 k3 hz).1
  clear hsum hz e1 e2 e3 e4 hm hn hq hp
  go_enter Tryz.func279, Tryz.ntmps279
  go_wp2
  exact bodyPost_ret (v := .agg #[.int .u64 x1, .int .u64 y1, .int .u64 ((p : Int) + k1 + k3)]) (by simp [results, Tryz.results279, go_sem]) rfl ⟨rfl, (Below.refl _ _).alloc (Nat.le_refl _) _⟩

theorem bcell {W w1 : World} {B : Nat} (hb : Below B W w1) : (∀ b o, b < B → w1.cell? ⟨b, o, none⟩ = W.cell? ⟨b, o, none⟩) ∧ (∀ b o, b < B → w1.frozen? ⟨b, o, none⟩ = W.frozen? ⟨b, o, none⟩) :=
  ⟨fun b o h => hb.cell (p := ⟨b, o, none⟩) h, fun b o h => hb.frozen (p := ⟨b, o, none⟩) h⟩
theorem mul_small (z r : Nat) (hz : z < 8) (hr : r < 1152921504606846976) : z * r < 9223372036854775808 := by
  have h1 : z * r ≤ 7 * r := Nat.mul_le_mul_right r (by omega)
  omega
theorem hi_small (x s h l : Nat) (hx : x < 18446744073709551616) (hs : s < 1152921504606846976) (e : x * s = h * 18446744073709551616 + l) : h < 1152921504606846976 := by
  have h1 : x * s ≤ 18446744073709551615 * s := Nat.mul_le_mul_right s (by omega)
  omega
theorem third_high (t : Nat) (h2 : t * 6277101735386680763835789423207666416102355444464034512896 ≤ 57896044618658097711785492504343953926634992332820282019728792003956564819967) : t < 9223372036854775808 := by omega
theorem prod_lt (x y z r s : Nat) (hx : x < 18446744073709551616) (hy : y < 18446744073709551616) (hz : z < 8) (hr : r < 1152921504606846976) (hs : s < 1152921504606846976) :
    (x + y * 18446744073709551616 + z * 340282366920938463463374607431768211456) * (r + s * 18446744073709551616) ≤ 57896044618658097711785492504343953926634992332820282019728792003956564819967 := by
  have h1 : x + y * 18446744073709551616 + z * 340282366920938463463374607431768211456 ≤ 2722258935367507707706996859454145691647 := by omega
  have h2 : r + s * 18446744073709551616 ≤ 21267647932558653966460912964485513215 := by omega
  exact Nat.le_trans (Nat.mul_le_mul h1 h2) (by decide)

set_option maxHeartbeats 1000000 in
theorem product_any (x y z r s : Nat) (hx : x < 18446744073709551616) (hy : y < 18446744073709551616) (hz : z < 8) (hr : r < 1152921504606846976) (hs : s < 1152921504606846976) : ∃ h0 h1 h2 : Nat, h0 < 18446744073709551616 ∧ h1 < 18446744073709551616 ∧ h2 ≤ 4 ∧
    (h0 + h1 * 18446744073709551616 + h2 * 340282366920938463463374607431768211456) % polyP = ((x + y * 18446744073709551616 + z * 340282366920938463463374607431768211456) * (r + s * 18446744073709551616)) % polyP ∧
    ∀ w, Calls Tryz.prog 277 #[.int .u64 x, .int .u64 y, .int .u64 z, .int .u64 r, .int .u64 s] w fun e w' => e = .returned (.agg #[.int .u64 h0, .int .u64 h1, .int .u64 h2]) ∧ Below w.heap.size w w' := by
  have hr' : r < 18446744073709551616 := by omega
  have hs' : s < 18446744073709551616 := by omega
  obtain ⟨xrH, xr, m1, e1, l1, g1⟩ := mul64_any x r hx hr'
  obtain ⟨xsH, xs, m2, e2, l2, g2⟩ := mul64_any x s hx hs'
  obtain ⟨yrH, yr, m3, e3, l3, g3⟩ := mul64_any y r hy hr'
  obtain ⟨ysH, ys, m4, e4, l4, g4⟩ := mul64_any y s hy hs'
  have b2 := hi_small x s xsH xs hx hs e2
  have b3 := hi_small y r yrH yr hy hr e3
  have b4 := hi_small y s ysH ys hy hs e4
  obtain ⟨c1, s0, r1, e7, l5, g5⟩ := add64_0 xs yr l2 l3
  have hzr := mul_small z r hz hr
  have hzs := mul_small z s hz hs
  obtain ⟨zr, hzr'⟩ : ∃ zr, zr = z * r := ⟨_, rfl⟩
  obtain ⟨zs, hzs'⟩ : ∃ zs, zs = z * s := ⟨_, rfl⟩
  rw [← hzr'] at hzr
  rw [← hzs'] at hzs
  obtain ⟨c2, t0, r2, e8, l6, g6⟩ := add64_0 ys zr l4 (by clear e1 e2 e3 e4 e7 r1 m1 m2 m3 m4; omega)
  obtain ⟨c3, s1, r3, e9, l7, g7⟩ := add64_0 s0 xrH l5 g1
  obtain ⟨sh, hsh⟩ : ∃ sh, sh = xsH + yrH + c1 := ⟨_, rfl⟩
  have lsh : sh < 18446744073709551616 := by clear e1 e2 e3 e4 e7 e8 e9 r1 r2 r3 m1 m2 m3 m4; omega
  obtain ⟨c4, t1, r4, e10, l8, g8⟩ := add64_c t0 sh c3 l6 lsh g7
  have hsum := product_sum x y z r s xrH xr xsH xs yrH yr ysH ys s0 c1 t0 c2 s1 c3 t1 c4 e1 e2 e3 e4 e7 (by rw [← hzr']; exact e8) e9 (by rw [← hsh]; exact e10)
  rw [← hzs'] at hsum
  obtain ⟨th, hth⟩ : ∃ th, th = ysH + zs + c2 + c4 := ⟨_, rfl⟩
  have lth : th < 9223372036854775808 := by
    refine third_high th ?_
    have := prod_lt x y z r s hx hy hz hr hs
    rw [← hsum, ← hth] at this
    clear hsum e1 e2 e3 e4 e7 e8 e9 e10
    omega
  rw [← hth] at hsum
  obtain ⟨h0, h1, h2, k1, k2, k3, hmod, hfold⟩ := folded_any xr s1 t1 th l1 l7 l8 lth
  refine ⟨h0, h1, h2, k1, k2, k3, by rw [hmod, hsum], fun w => ?_⟩
  have v1 : IntKind.u64.wrap ((xsH : Int) + yrH) = xsH + yrH := wrap_sum2 _ _ (by clear hsum e1 e2 e3 e4 e7 e8 e9 e10 hmod; omega)
  have v2 : IntKind.u64.wrap ((xsH : Int) + yrH + c1) = sh := by rw [wrap_sum3 _ _ _ (by rw [← hsh]; exact lsh), hsh]; rfl
  have v3 : IntKind.u64.wrap ((z : Int) * r) = zr := by rw [hzr', ← Int.natCast_mul, ← hzr']; exact wrap_one zr (by clear hsum e1 e2 e3 e4 e7 e8 e9 e10 hmod; omega)
  have v4 : IntKind.u64.wrap ((z : Int) * s) = zs := by rw [hzs', ← Int.natCast_mul, ← hzs']; exact wrap_one zs (by clear hsum e1 e2 e3 e4 e7 e8 e9 e10 hmod; omega)
  have hlt : ysH + zs + c2 + c4 < 18446744073709551616 := by clear hsum e1 e2 e3 e4 e7 e8 e9 e10 hmod; omega
  have v5 : IntKind.u64.wrap ((ysH : Int) + zs) = ysH + zs := wrap_sum2 _ _ (by clear hsum e1 e2 e3 e4 e7 e8 e9 e10 hmod; omega)
  have v6 : IntKind.u64.wrap ((ysH : Int) + zs + c2) = ysH + zs + c2 := wrap_sum3 _ _ _ (by clear hsum e1 e2 e3 e4 e7 e8 e9 e10 hmod; omega)
  have v7 : IntKind.u64.wrap ((ysH : Int) + zs + c2 + c4) = th := by rw [hth]; exact wrap_sum4 _ _ _ _ hlt
  clear hsum hmod e1 e2 e3 e4 e7 e8 e9 e10 hzr' hzs' hsh hth lsh lth hlt b2 b3 b4
  go_enter Tryz.func277, Tryz.ntmps277
  go_wp2_with fail
  refine (m1 _).mono ?_
  rintro e w' ⟨rfl, rfl⟩
  go_wp2_with fail
  refine (m2 _).mono ?_
  rintro e w' ⟨rfl, rfl⟩
  go_wp2_with fail
  refine (m3 _).mono ?_
  rintro e w' ⟨rfl, rfl⟩
  go_wp2_with fail
  refine (m4 _).mono ?_
  rintro e w' ⟨rfl, rfl⟩
  go_wp2_with fail
  refine (hfold _).mono ?_
  rintro e w1 ⟨rfl, hb1⟩
  clear r1 r2 r3 r4 m1 m2 m3 m4 hfold
  have hk : w1.heap[w.heap.size]? = some (.cells #[.int .u64 0, .int .u64 0, .int .u64 0] 351 (0, 0)) := (hb1.block _ (by simp)).trans (heap_alloc_new w _)
  have hbw : Below w.heap.size w w1 := ((Below.refl _ _).alloc (Nat.le_refl _) _).trans (hb1.mono (by simp))
  obtain ⟨ds, hds⟩ : ∃ ds : Array Value, ds = #[.int .u64 h0, .int .u64 h1, .int .u64 h2] := ⟨_, rfl⟩
  have hsz : ds.size = 3 := by rw [hds]; rfl
  have hone : ds.all (·.oneCell') = true := by rw [hds]; simp [Value.oneCell']
  have hinfo : (Tryz.prog.info? 351).map (·.size) = some ds.size := by rw [hsz]; kernel_rfl
  have hba := below_rowH hbw (Nat.le_refl _) ds
  have hl0 := run_loadVar_row (P := Tryz.prog) (w1.setRow w.heap.size ds) w.heap.size 351 351 ds (0, 0) _ (setRow_heap _ _ _ _ _ _ hk) Tryz.underlying351 rfl hinfo
  rw [← hds]
  have HDS : Hid (ds = #[.int .u64 h0, .int .u64 h1, .int .u64 h2]) := hds
  clear hds
  go_wp2_with (refine wpList_store_row rfl 351 _ _ rfl w.heap.size ds rfl rfl 351 _ hk hinfo (by rw [hsz]; rfl) hone ?_)
  exact bodyPost_ret (v := .agg ds) (by simp [results, Tryz.results277, asAddr, Act.put, hl0]) rfl ⟨by rw [HDS.out], hba⟩
end Go.Proofs.YtoopaigpjefonaaGreatDoor.Bx
