/- strings.Builder: Grow of a new one, String, and Write to one that has been used. · copy of a text into a row of bytes, from its beginning on. · A text xor blocks, piece by piece; lists of bytes as a builder's. · box's state.stream: a text xor the blocks from one on. -/
import Derived.Test.YtdhiopbomnfmnaaGreatDoorMg29
import Derived.Shelf.Strings.Builder1
import Derived.Shelf.Strings.Builder2
import Derived.Test.YtdhiopbomnfmnaaGreatDoorMg27
import Derived.Deep.RegionWith
namespace Go.Proofs.YtdhiopbomnfmnaaGreatDoor.Bx
set_option maxRecDepth 20000
open Go.Shelf Go.RowKit

def bx169_ren : Go.Shelf.Ren := ⟨fun | 169 => 150 | n => n, fun | 70 => 196 | 9 => 9 | 0 => 0 | 72 => 198 | 37 => 55 | 127 => 177 | 3 => 3 | 5 => 5 | n => n, fun | n => n⟩
theorem bx169 : Go.Proofs.Lays.n169 Tryz.prog bx169_ren := {
  mixed := by kernel_rfl
  f169 := Tryz.func150.trans (congrArg some (by kernel_rfl))
  t0 := Tryz.underlying0
  a0 := Tryz.isAgg0
  z0 := Tryz.sizeOf0
  v0 := Tryz.zeroValue0
  t3 := Tryz.underlying3
  a3 := Tryz.isAgg3
  z3 := Tryz.sizeOf3
  v3 := Tryz.zeroValue3
  t9 := Tryz.underlying9
  a9 := Tryz.isAgg9
  z9 := Tryz.sizeOf9
  v9 := Tryz.zeroValue9
  t37 := Tryz.underlying55
  a37 := Tryz.isAgg55
  z37 := Tryz.sizeOf55
  v37 := Tryz.zeroValue55
  t70 := Tryz.underlying196
  a70 := Tryz.isAgg196
  z70 := Tryz.sizeOf196
  v70 := Tryz.zeroValue196
  t72 := Tryz.underlying198
  a72 := Tryz.isAgg198
  z72 := Tryz.sizeOf198
  v72 := Tryz.zeroValue198
  t127 := Tryz.underlying177
  a127 := Tryz.isAgg177
  z127 := Tryz.sizeOf177
  v127 := Tryz.zeroValue177 }
theorem bx169_extra : Builder.Extra Tryz.prog bx169_ren := {
  sizeBuilder := by kernel_rfl
  liesBuilder := by kernel_rfl
  t5 := Tryz.underlying5
  a5 := Tryz.isAgg5
  z5 := Tryz.sizeOf5
  v5 := Tryz.zeroValue5
  infoByte := by kernel_rfl
  cellsByte := by kernel_rfl
  sizeByte := by kernel_rfl
  neB5 := by decide }
theorem bString_any (B b : Nat) (l : List UInt8) (w : World) (h : Lib.IsBuilder 198 5 B b (Lib.byteCells l) w) (hBw : B ≤ w.heap.size) :
    Calls Tryz.prog 150 #[.pointer (some ⟨b, 0, none⟩)] w fun e w' => e = .returned (.string ⟨l.toArray⟩) ∧ Below B w w' := Any.Builder_String_any bx169 bx169_extra B b l w h hBw
def bx165_ren : Go.Shelf.Ren := ⟨fun | 165 => 148 | 240 => 159 | 241 => 160 | 276 => 166 | 277 => 167 | n => n, fun | 70 => 196 | 3 => 3 | 0 => 0 | 4 => 4 | 9 => 9 | 20 => 20 | 72 => 198 | 37 => 55 | 164 => 219 | 5 => 5 | n => n, fun | n => n⟩
theorem bx165 : Go.Proofs.Lays.n165 Tryz.prog bx165_ren := {
  mixed := by kernel_rfl
  f165 := Tryz.func148.trans (congrArg some (by kernel_rfl))
  f240 := Tryz.func159.trans (congrArg some (by kernel_rfl))
  f241 := Tryz.func160.trans (congrArg some (by kernel_rfl))
  f276 := Tryz.func166.trans (congrArg some (by kernel_rfl))
  f277 := Tryz.func167.trans (congrArg some (by kernel_rfl))
  t0 := Tryz.underlying0
  a0 := Tryz.isAgg0
  z0 := Tryz.sizeOf0
  v0 := Tryz.zeroValue0
  t3 := Tryz.underlying3
  a3 := Tryz.isAgg3
  z3 := Tryz.sizeOf3
  v3 := Tryz.zeroValue3
  t4 := Tryz.underlying4
  a4 := Tryz.isAgg4
  z4 := Tryz.sizeOf4
  v4 := Tryz.zeroValue4
  t9 := Tryz.underlying9
  a9 := Tryz.isAgg9
  z9 := Tryz.sizeOf9
  v9 := Tryz.zeroValue9
  t20 := Tryz.underlying20
  a20 := Tryz.isAgg20
  z20 := Tryz.sizeOf20
  v20 := Tryz.zeroValue20
  t37 := Tryz.underlying55
  a37 := Tryz.isAgg55
  z37 := Tryz.sizeOf55
  v37 := Tryz.zeroValue55
  t70 := Tryz.underlying196
  a70 := Tryz.isAgg196
  z70 := Tryz.sizeOf196
  v70 := Tryz.zeroValue196
  t72 := Tryz.underlying198
  a72 := Tryz.isAgg198
  z72 := Tryz.sizeOf198
  v72 := Tryz.zeroValue198
  t164 := Tryz.underlying219
  a164 := Tryz.isAgg219
  z164 := Tryz.sizeOf219
  v164 := Tryz.zeroValue219 }
theorem bx165_extra : Builder.Extra Tryz.prog bx165_ren := {
  sizeBuilder := by kernel_rfl
  liesBuilder := by kernel_rfl
  t5 := Tryz.underlying5
  a5 := Tryz.isAgg5
  z5 := Tryz.sizeOf5
  v5 := Tryz.zeroValue5
  infoByte := by kernel_rfl
  cellsByte := by kernel_rfl
  sizeByte := by kernel_rfl
  neB5 := by decide }
theorem bGrow_fresh (B b n : Nat) (w : World) (hB : B ≤ b) (hbk : w.heap[b]? = some (.cells #[.pointer none, .slice none 0 0] 198 (0, 0))) (hBw : B ≤ w.heap.size) (hn : n ≤ 281474976710656) :
    Calls Tryz.prog 148 #[.pointer (some ⟨b, 0, none⟩), .int .i64 n] w fun e w' => e = .returned (.tuple #[]) ∧ (Lib.BuilderAt 198 5 B b (.pointer (some ⟨b, 0, none⟩)) [] w' ∧ Below B w w') := Any.Builder_Grow_fresh bx165 bx165_extra B b n w hB hbk hBw hn

theorem bCheck_used (b : Nat) (w : World) (h0 : w.cell? ⟨b, 0, none⟩ = some (.pointer (some ⟨b, 0, none⟩))) :
    Calls Tryz.prog 159 #[.pointer (some ⟨b, 0, none⟩)] w fun e w' => e = .returned (.tuple #[]) ∧ w' = w := by
  obtain ⟨j, hj, _⟩ := Option.map_eq_some_iff.1 (show (Tryz.prog.info? 198).map (·.size) = some 2 by kernel_rfl)
  go_enter Tryz.func159, Tryz.ntmps159
  go_wp2
  rw [Lib.run_neq_ptr_same w _ Tryz.underlying196 hj]
  go_wp2
  go_end0
  exact ⟨rfl, rfl⟩

set_option maxHeartbeats 1000000 in
set_option maxRecDepth 100000 in
theorem bWrite_used (B b : Nat) (bs : List Value) (ad : Addr) (m c : Nat) (news : List Value) (w : World) (h : Lib.BuilderAt 198 5 B b (.pointer (some ⟨b, 0, none⟩)) bs w)
    (hl : news.length = m) (hnews : ∀ j u, news[j]? = some u → w.cell? (ad.add j) = some u) (h1 : ∀ u ∈ news, u.oneCell' = true) (hlen : bs.length + m ≤ 140737488355328) (hBw : B ≤ w.heap.size) :
    Calls Tryz.prog 149 #[.pointer (some ⟨b, 0, none⟩), .slice (some ad) m c] w fun e w' => e = .returned (.tuple #[.int .i64 m, .nilIface]) ∧ (Lib.BuilderAt 198 5 B b (.pointer (some ⟨b, 0, none⟩)) (bs ++ news) w' ∧ Below B w w') := by
  obtain ⟨i0, hi, hz0, hz1, hz2⟩ := info_parts info_u8
  have hcc := bCheck_used b w h.cell0
  obtain ⟨hB, v, hbk, hown, hne⟩ := h
  have c0 : w.cell? ⟨b, 0, none⟩ = some (.pointer (some ⟨b, 0, none⟩)) := by rw [Lib.cell_of_heap hbk]; rfl
  have c1 : w.cell? ⟨b, 1, none⟩ = some v := by rw [Lib.cell_of_heap hbk]; rfl
  go_enter Tryz.func149, Tryz.ntmps149
  go_wp2_with fail
  refine hcc.mono ?_
  rintro e w1 ⟨rfl, rfl⟩
  go_wp2_with (at_builtin; refine wpList_append_own _ rfl _ _ 55 rfl B 5 i0 (.int .u8 0) 1 1 Tryz.underlying55 hi hz0 hz1 hz2 rfl (by decide) _ _ _ rfl hown ad m c news rfl (by omega) hnews h1 ?c3 ?c4 ?c5 ?_)
  case c3 => unfold maxLen; omega
  case c4 => omega
  case c5 => exact hBw
  intro v' w2 hown' hgrow _
  have hlt : b < w1.heap.size := lt_of_block hbk
  have hb2 : w2.heap[b]? = some (.cells #[.pointer (some ⟨b, 0, none⟩), v] 198 (0, 0)) := by
    rw [hgrow.block b hlt (fun e => hne e.symm)]
    exact hbk
  have d0 : w2.cell? ⟨b, 0, none⟩ = some (.pointer (some ⟨b, 0, none⟩)) := by rw [Lib.cell_of_heap hb2]; rfl
  have d1 : w2.cell? ⟨b, 1, none⟩ = some v := by rw [Lib.cell_of_heap hb2]; rfl
  have f1 : w2.frozen? ⟨b, 1, none⟩ = false := Lib.frozen_of_heap hb2 1
  obtain ⟨ao, n', cap, rfl⟩ : ∃ ao n' cap, v' = .slice ao n' cap := by
    rcases hown'.2 with ⟨hv, _⟩ | ⟨g, cap, cur, hv, _⟩
    · exact ⟨_, _, _, hv⟩
    · exact ⟨_, _, _, hv⟩
  go_wp2
  go_ret2
  refine ⟨rfl, ?_, ?_⟩
  · exact Lib.BuilderAt.put (T := 198) (e := 5) hB hb2 (bs' := bs ++ news) (by simpa [hl] using hown') (by decide)
  · exact ((Below.refl B w1).grown hgrow hBw (fun k hk => (hown.lt k hk).1)).setCell (p := ⟨b, 1, none⟩) hB _
end Go.Proofs.YtdhiopbomnfmnaaGreatDoor.Bx

namespace Go.Proofs.YtdhiopbomnfmnaaGreatDoor.Bx
set_option maxRecDepth 20000
open Go.RowKit

/-- A list of bytes as a text. -/
def strN (l : List Nat) : ByteArray := strOfNums (l.map fun (x : Nat) => (x : Int))
theorem strN_size (l : List Nat) : (strN l).size = l.length := by simp [strN, strOfNums_size]
theorem numsOf_strN (l : List Nat) (h : Bytes l) : numsOf (strN l) = l := numsOf_str l h
theorem copy_row (w : World) (g t L : Nat) (l : List Value) (hl : l.length = L) (hr : Row w g t l) (s : ByteArray) :
    ∃ w', (Builtin.copy_ #[55, 9] 3 #[.slice (some ⟨g, 0, none⟩) L L, .string s]).run Tryz.prog w = .ok (.int .i64 (min s.size L : Nat)) w' ∧ Row w' g t (byV ((numsOf s).take L) ++ l.drop (min s.size L)) ∧ Only g w w' := by
  subst hl
  by_cases h : s.size ≤ l.length
  · have hm : min s.size l.length = s.size := Nat.min_eq_left h
    have h1 := run_copy_string (P := Tryz.prog) w 55 9 3 5 g 0 l.length l.length s Tryz.underlying55 size_u8 h (fun j hj => by rw [Nat.zero_add, hr.cell, List.getElem?_eq_getElem (by omega)]; rfl) (fun j _ => hr.frozen _)
    rw [numsV] at h1
    refine ⟨_, by rw [h1, hm]; rfl, ?_, Only.setCells _ _ _ (Only.refl _ _)⟩
    rw [hm, List.take_of_length_le (by rw [numsOf_length]; exact h)]
    have := Row.setCells (g := g) (t := t) (C := l.drop s.size) (byV (numsOf s)) (l.take s.size) [] w 0 (by simp [byV, numsOf_length]; omega) rfl (by simpa using hr)
    simpa using this
  · have hm : min s.size l.length = l.length := Nat.min_eq_right (by omega)
    have h1 := run_copy_part (P := Tryz.prog) w 55 9 3 5 g 0 l.length l.length s Tryz.underlying55 size_u8 (by omega) (fun j hj => by rw [Nat.zero_add, hr.cell, List.getElem?_eq_getElem (by omega)]; rfl) (fun j _ => hr.frozen _)
    rw [List.map_take, numsV] at h1
    have e : (byV (numsOf s)).take l.length = byV ((numsOf s).take l.length) := by simp [byV, List.map_take]
    rw [e] at h1
    refine ⟨_, by rw [h1, hm]; rfl, ?_, Only.setCells _ _ _ (Only.refl _ _)⟩
    rw [hm]
    have := Row.setCells (g := g) (t := t) (C := []) (byV ((numsOf s).take l.length)) l [] w 0 (by simp [byV, numsOf_length]; omega) rfl (by simpa using hr)
    simpa using this
end Go.Proofs.YtdhiopbomnfmnaaGreatDoor.Bx

namespace Go.Proofs.YtdhiopbomnfmnaaGreatDoor.Bx
set_option maxRecDepth 20000
open Go.RowKit

theorem strN_numsOf (s : ByteArray) : strN (numsOf s) = s := by
  unfold strN strOfNums numsOf
  rw [List.map_map, List.map_map]
  have : ((fun (n : Int) => UInt8.ofNat n.toNat) ∘ (fun (x : Nat) => (x : Int))) ∘ (fun (x : UInt8) => x.toNat) = id := by
    funext x
    simp
  rw [this, List.map_id]
theorem byV_cells (l : List Nat) (h : Bytes l) : byV l = Lib.byteCells (l.map UInt8.ofNat) := by
  unfold byV Lib.byteCells
  rw [List.map_map]
  refine List.map_congr_left fun x hx => ?_
  have := h x hx
  simp [Function.comp]
  omega
theorem strN_cells (l : List Nat) : (⟨(l.map UInt8.ofNat).toArray⟩ : ByteArray) = strN l := by
  unfold strN strOfNums
  rw [List.map_map]
  rfl

/-- A text xor the blocks of a state from one on. -/
def strmL (s : S16) (a : Nat) (l : List Nat) : List Nat := (List.range l.length).map fun i => l.getD i 0 ^^^ (blkL (s.at (a + i / 64))).getD (i % 64) 0
/-- A piece xor a block. -/
def xorL (n : Nat) (u b : List Nat) : List Nat := (List.range n).map fun i => u.getD i 0 ^^^ b.getD i 0
theorem strmL_length (s : S16) (a : Nat) (l : List Nat) : (strmL s a l).length = l.length := by simp [strmL]
theorem xorL_length (n : Nat) (u b : List Nat) : (xorL n u b).length = n := by simp [xorL]
theorem xor_byte {a b : Nat} (ha : a < 256) (hb : b < 256) : a ^^^ b < 256 := Nat.xor_lt_two_pow (n := 8) ha hb
theorem strmL_bytes (s : S16) (a : Nat) (l : List Nat) (h : Bytes l) : Bytes (strmL s a l) := fun x hx => by
  obtain ⟨i, _, rfl⟩ := List.mem_map.1 hx
  exact xor_byte (getD_lt (by decide) h _) (getD_lt (by decide) (blkL_bytes _) _)
theorem strmL_step (s : S16) (a : Nat) (l : List Nat) (q p n : Nat) (hp : p = 64 * q) (hn : n ≤ 64) (hl : p + n ≤ l.length) : (strmL s a l).take (p + n) = (strmL s a l).take p ++ xorL n (l.drop p) (blkL (s.at (a + q))) := by
  rw [List.take_add]
  congr 1
  refine List.ext_getElem? fun i => ?_
  by_cases hi : i < n
  · rw [List.getElem?_take, if_pos hi, List.getElem?_drop, strmL, xorL, List.getElem?_map, List.getElem?_map, List.getElem?_range (by omega), List.getElem?_range hi]
    have e1 : (p + i) / 64 = q := by omega
    have e2 : (p + i) % 64 = i := by omega
    simp only [Option.map_some, e1, e2]
    congr 2
    rw [List.getD_eq_getElem?_getD, List.getD_eq_getElem?_getD, List.getElem?_drop]
  · rw [List.getElem?_eq_none (by simp; omega), List.getElem?_eq_none (by rw [xorL_length]; omega)]
theorem chaS_strm (K N : List Nat) (a : Nat) (l : List Nat) : chaS K N a l = strmL (st16 K N 0) a l := rfl

/-- A piece of 64 bytes, of which the first ones are xor a block's. -/
def pieF (u b : List Nat) (i k : Nat) : Value := .int .u8 ((if k < i then u.getD k 0 ^^^ b.getD k 0 else u.getD k 0 : Nat) : Int)
theorem pieF_step (u b : List Nat) (i k : Nat) : (if k = i then Value.int .u8 ((u.getD i 0 ^^^ b.getD i 0 : Nat) : Int) else pieF u b i k) = pieF u b (i + 1) k := by
  unfold pieF
  by_cases e : k = i
  · subst e
    rw [if_pos rfl, if_pos (by omega)]
  · rw [if_neg e]
    by_cases h : k < i
    · rw [if_pos h, if_pos (by omega)]
    · rw [if_neg h, if_neg (by omega)]
theorem pieF_at (u b : List Nat) (i : Nat) : pieF u b i i = .int .u8 (u.getD i 0 : Nat) := by
  unfold pieF
  rw [if_neg (by omega)]
theorem pie_take (u b : List Nat) (n : Nat) (hn : n ≤ 64) : (rowF 64 (pieF u b 64)).take n = byV (xorL n u b) := by
  refine List.ext_getElem? fun i => ?_
  by_cases hi : i < n
  · rw [List.getElem?_take, if_pos hi, rowF_get _ _ _ (by omega), byV, xorL, List.map_map, List.getElem?_map, List.getElem?_range hi]
    simp [pieF, show i < 64 by omega]
  · rw [List.getElem?_eq_none (by simp [rowF_length]; omega), List.getElem?_eq_none (by simp [byV, xorL_length]; omega)]
theorem pie_start (u b : List Nat) (h : u.length ≤ 64) : byV u ++ byV (List.replicate (64 - u.length) 0) = rowF 64 (pieF u b 0) := by
  refine List.ext_getElem? fun i => ?_
  by_cases hi : i < 64
  · rw [rowF_get _ _ _ hi]
    by_cases h2 : i < u.length
    · rw [List.getElem?_append_left (by simp [byV]; omega), byV_get _ _ h2]
      simp [pieF]
    · rw [List.getElem?_append_right (by simp [byV]; omega), byV_get _ _ (by simp [byV]; omega)]
      simp only [pieF, byV, List.length_map]
      rw [getD_beyond u _ (by omega), List.getD_eq_getElem?_getD, List.getElem?_replicate]
      split <;> simp
  · rw [List.getElem?_eq_none (by simp [byV]; omega), List.getElem?_eq_none (by rw [rowF_length]; omega)]
end Go.Proofs.YtdhiopbomnfmnaaGreatDoor.Bx

namespace Go.Proofs.YtdhiopbomnfmnaaGreatDoor.Bx
set_option maxRecDepth 20000
open Go.RowKit

theorem extract_more (s : ByteArray) (p q : Nat) : (s.extract p s.size).extract q (s.extract p s.size).size = s.extract (p + q) s.size := by
  rw [ByteArray.extract_extract]
  congr 1
  simp
  omega
theorem bld_below {T e B b : Nat} {p : Value} {bs : List Value} {w w' : World} {C : Nat} (h : Lib.BuilderAt T e B b p bs w) (hb : Below C w w') (hC : w.heap.size ≤ C) : Lib.BuilderAt T e B b p bs w' := by
  obtain ⟨hB, v, hbk, hown, hne⟩ := h
  have hlt : b < w.heap.size := lt_of_block hbk
  refine ⟨hB, v, (hb.block b (by omega)).trans hbk, hown.kept (row := none) ⟨hb.os, hb.tape, hb.output, hb.size, fun k hk _ => hb.block k (by omega)⟩ ?_, hne⟩
  by_cases e : v.ownBlock = none
  · exact .inl e
  · exact .inr e
/-- What stands at the beginning of a round of stream. -/
structure StrmAt (w wr : World) (g : Nat) (s : S16) (a : Nat) (l : List Nat) (p : Nat) : Prop where
  bld : Lib.BuilderAt 198 5 w.heap.size w.heap.size (.pointer (some ⟨w.heap.size, 0, none⟩)) (byV ((strmL s a l).take p)) wr
  st : Row wr g 184 (wdV s.toL)
  low : g < w.heap.size
  bel : Below w.heap.size w wr

set_option maxRecDepth 10000 in
set_option maxHeartbeats 2000000 in
theorem stream_any (s : S16) (hs : s.ok) (a : Nat) (text : ByteArray) (ha : a + (text.size + 63) / 64 ≤ 4294967296) (ht : text.size ≤ 1048576) (g : Nat) (w : World) (hr : Row w g 184 (wdV s.toL)) :
    Calls Tryz.prog 139 #[.pointer (some ⟨g, 0, none⟩), .int .i64 a, .string text] w fun e w' => e = .returned (.string (strN (strmL s a (numsOf text)))) ∧ Below w.heap.size w w' := by
  have hg := hr.lt
  have hbl := numsOf_length text
  have hby := numsOf_bytes text
  have hG := fun o => bGrow_fresh w.heap.size w.heap.size text.size (w.alloc (.cells #[.pointer none, .slice none 0 0] o)) (Nat.le_refl _)
  have hr1 : ∀ o, Row (w.alloc o) g 184 (wdV s.toL) := fun o => (Below.heap_alloc w o g hg).trans hr
  go_enter Tryz.func139, Tryz.ntmps139
  go_wp2_with fail
  refine (hG 198 (heap_alloc_new w _) (by simp) (by omega)).mono ?_
  rintro e w1 ⟨rfl, hB1, hb1⟩
  have hS1 : StrmAt w w1 g s a (numsOf text) 0 := ⟨by simpa [byV] using hB1, (hr1 _).below hb1 hg, hg, ((Below.refl _ _).alloc (Nat.le_refl _) _).trans hb1⟩
  clear hG hr1 hB1 hb1 hr
  go_wp2_with fail
  go_loopw [1, 2] (fun v1 v2 wr => ∃ c q p : Nat, c = a + q ∧ p ≤ text.size ∧ (p = 64 * q ∨ p = text.size) ∧ v1 = .int .i64 (c : Nat) ∧ v2 = .string (text.extract p text.size) ∧ StrmAt w wr g s a (numsOf text) p) (fun _ v _ => strSize v)
  case atStart => exact ⟨a, 0, 0, rfl, Nat.zero_le _, .inl rfl, rfl, by simp, hS1⟩
  case round =>
    clear hS1
    obtain ⟨c, q, p, hc, hp, hpq, rfl, rfl, hS⟩ := hrel
    generalize wr = wo at *
    obtain ⟨u, hu⟩ : ∃ u, u = text.extract p text.size := ⟨_, rfl⟩
    have hus : u.size = text.size - p := by rw [hu]; simp
    have hun : numsOf u = (numsOf text).drop p := by rw [hu, numsOf_extract, List.take_of_length_le (by simp [numsOf_length])]
    have hul := numsOf_length u
    have hub := numsOf_bytes u
    rw [← hu]
    by_cases hlt : p < text.size
    · obtain ⟨n, hn⟩ : ∃ n, n = min u.size 64 := ⟨_, rfl⟩
      have hn1 : n ≤ 64 := by omega
      have hn0 : 0 < n := by omega
      have hnu : n ≤ u.size := by omega
      have hq : p = 64 * q := by omega
      have hx := extract_more text p n
      rw [← hu] at hx
      have hclt : c < 4294967296 := by omega
      obtain ⟨U, hU⟩ : ∃ U, U = (numsOf u).take 64 := ⟨_, rfl⟩
      have hUl : U.length = n := by rw [hU, List.length_take, hul, hn, Nat.min_comm]
      have hUb : Bytes U := by rw [hU]; exact hub.take 64
      obtain ⟨k, hk⟩ : ∃ k, k = blkL (s.at c) := ⟨_, rfl⟩
      have hkl : k.length = 64 := by rw [hk]; exact blkL_length _
      have hkb : Bytes k := by rw [hk]; exact blkL_bytes _
      have hnext : byV ((strmL s a (numsOf text)).take p) ++ byV (xorL n U k) = byV ((strmL s a (numsOf text)).take (p + n)) := by
        rw [strmL_step s a (numsOf text) q p n hq hn1 (by omega), byV_append, ← hc, ← hk, ← hun]
        congr 2
        unfold xorL
        refine List.map_congr_left fun i hi => ?_
        have hi := List.mem_range.1 hi
        rw [hU, List.getD_eq_getElem?_getD (l := (numsOf u).take 64), List.getElem?_take, if_pos (by omega), ← List.getD_eq_getElem?_getD]
      obtain ⟨w0, hw0⟩ : ∃ w0, wo.alloc (.cells #[.int .u8 0, .int .u8 0, .int .u8 0, .int .u8 0, .int .u8 0, .int .u8 0, .int .u8 0, .int .u8 0, .int .u8 0, .int .u8 0, .int .u8 0, .int .u8 0, .int .u8 0, .int .u8 0, .int .u8 0, .int .u8 0, .int .u8 0, .int .u8 0, .int .u8 0, .int .u8 0, .int .u8 0, .int .u8 0, .int .u8 0, .int .u8 0, .int .u8 0, .int .u8 0, .int .u8 0, .int .u8 0, .int .u8 0, .int .u8 0, .int .u8 0, .int .u8 0, .int .u8 0, .int .u8 0, .int .u8 0, .int .u8 0, .int .u8 0, .int .u8 0, .int .u8 0, .int .u8 0, .int .u8 0, .int .u8 0, .int .u8 0, .int .u8 0, .int .u8 0, .int .u8 0, .int .u8 0, .int .u8 0, .int .u8 0, .int .u8 0, .int .u8 0, .int .u8 0, .int .u8 0, .int .u8 0, .int .u8 0, .int .u8 0, .int .u8 0, .int .u8 0, .int .u8 0, .int .u8 0, .int .u8 0, .int .u8 0, .int .u8 0, .int .u8 0] 66) = w0 := ⟨_, rfl⟩
      have a1 : Row w0 wo.heap.size 66 (byV (List.replicate 64 0)) := by rw [← hw0]; exact heap_alloc_new wo _
      have ab : Below wo.heap.size wo w0 := by rw [← hw0]; exact (Below.refl _ _).alloc (Nat.le_refl _) _
      obtain ⟨w2, hcp, b1, o1⟩ := copy_row w0 wo.heap.size 66 64 _ rfl a1 u
      rw [← hn] at hcp b1
      rw [← hU] at b1
      have hB2 : Below wo.heap.size wo w2 := ab.trans (o1.below (Nat.le_of_lt a1.lt))
      have hP2 : Row w2 wo.heap.size 66 (rowF 64 (pieF U k 0)) := b1.congr (by
        rw [← pie_start U k (by omega), hUl, byV_zeros, byV_zeros, List.drop_replicate])
      have hwlt : w.heap.size < wo.heap.size := hS.bld.lt
      have HBk := block_any s hs c hclt g w2 (hS.st.below hB2 hS.st.lt)
      rw [← hk] at HBk
      have v1 : IntKind.u32.wrap (c : Int) = c := by rw [IntKind.wrap_u32]; omega
      have c1 : (0 : Int) < u.size := by omega
      have c1' : 0 < u.size := by omega
      clear b1 o1 ab a1 hk
      obtain ⟨ds, hds⟩ : ∃ ds, ds = (byV k).toArray := ⟨_, rfl⟩
      rw [← hds] at HBk
      have hsz : ds.size = 64 := by rw [hds]; simp [byV, hkl]
      have hone : ds.all (·.oneCell') = true := by rw [hds]; simp [byV, Value.oneCell']
      have hinfo : (Tryz.prog.info? 66).map (·.size) = some ds.size := by rw [hsz]; kernel_rfl
      have HDS : Hid (ds = (byV k).toArray) := hds
      have HX : Hid (u.extract n u.size = text.extract (p + n) text.size ∧ u.size = text.size - p ∧ p + n ≤ text.size ∧ (p + n = 64 * (q + 1) ∨ p + n = text.size) ∧ c + 1 = a + (q + 1)) := ⟨hx, hus, by omega, by omega, by omega⟩
      have HU : Hid (U.length = n ∧ Bytes U ∧ k.length = 64 ∧ Bytes k ∧ byV ((strmL s a (numsOf text)).take p) ++ byV (xorL n U k) = byV ((strmL s a (numsOf text)).take (p + n))) := ⟨hUl, hUb, hkl, hkb, hnext⟩
      have HW2 : Hid (Row w2 wo.heap.size 66 (rowF 64 (pieF U k 0)) ∧ Below wo.heap.size wo w2) := ⟨hP2, hB2⟩
      have HS : Hid (StrmAt w wo g s a (numsOf text) p) := hS
      clear hds hx hus hu hun hul hub hU hUl hUb hkl hkb hnext hP2 hB2 hS hpq hq hn hc hp
      go_wp2_with fail
      refine HBk.mono ?_
      rintro e w3 ⟨rfl, hb3⟩
      have hPlt := HW2.out.1.lt
      have hP3 := HW2.out.1.below hb3 hPlt
      have hB3 := HW2.out.2.trans (hb3.mono HW2.out.2.size)
      have hK4 : Row (w3.alloc (.cells ds 66)) w3.heap.size 66 (byV k) := by rw [HDS.out]; exact heap_alloc_new w3 _
      have hP4 : Row (w3.alloc (.cells ds 66)) wo.heap.size 66 (rowF 64 (pieF U k 0)) := (Below.heap_alloc _ _ _ hP3.lt).trans hP3
      have hB4 := hB3.alloc hB3.size (.cells ds 66)
      have hPK : wo.heap.size < w3.heap.size := hP3.lt
      obtain ⟨w4, hw4⟩ : ∃ w4, (w3.alloc (.cells #[.int .u8 0, .int .u8 0, .int .u8 0, .int .u8 0, .int .u8 0, .int .u8 0, .int .u8 0, .int .u8 0, .int .u8 0, .int .u8 0, .int .u8 0, .int .u8 0, .int .u8 0, .int .u8 0, .int .u8 0, .int .u8 0, .int .u8 0, .int .u8 0, .int .u8 0, .int .u8 0, .int .u8 0, .int .u8 0, .int .u8 0, .int .u8 0, .int .u8 0, .int .u8 0, .int .u8 0, .int .u8 0, .int .u8 0, .int .u8 0, .int .u8 0, .int .u8 0, .int .u8 0, .int .u8 0, .int .u8 0, .int .u8 0, .int .u8 0, .int .u8 0, .int .u8 0, .int .u8 0, .int .u8 0, .int .u8 0, .int .u8 0, .int .u8 0, .int .u8 0, .int .u8 0, .int .u8 0, .int .u8 0, .int .u8 0, .int .u8 0, .int .u8 0, .int .u8 0, .int .u8 0, .int .u8 0, .int .u8 0, .int .u8 0, .int .u8 0, .int .u8 0, .int .u8 0, .int .u8 0, .int .u8 0, .int .u8 0, .int .u8 0, .int .u8 0] 66)).setRow w3.heap.size ds = w4 := ⟨_, rfl⟩
      have hw4' : w3.alloc (.cells ds 66) = w4 := by rw [← hw4, World.setRow_alloc_new]
      rw [hw4'] at hK4 hP4 hB4
      have H4 : Hid (Row w4 wo.heap.size 66 (rowF 64 (pieF U k 0)) ∧ Row w4 w3.heap.size 66 (byV k) ∧ Below wo.heap.size wo w4) := ⟨hP4, hK4, hB4⟩
      clear hb3 HBk hw0 hcp hP3 hB3 hK4 hP4 hB4 hw4' HW2 hPlt
      go_wp2_with (refine wpList_store_row rfl 66 _ _ rfl w3.heap.size ds rfl rfl 66 _ (heap_alloc_new w3 _) hinfo (by rw [hsz]; rfl) hone ?_)
      clear hinfo hone hsz hw4
      go_loopw [25] (fun i wr => ∃ j : Nat, j ≤ 64 ∧ i = .int .i64 j ∧ Row wr wo.heap.size 66 (rowF 64 (pieF U k j)) ∧ Row wr w3.heap.size 66 (byV k) ∧ Below wo.heap.size wo wr) (fun i _ => 64 - (intOf i).toNat)
      case atStart => exact ⟨0, Nat.zero_le _, rfl, H4.out⟩
      case round =>
        clear H4
        obtain ⟨j, hj, rfl, kP, kK, hbq⟩ := hrel
        by_cases hj64 : j < 64
        · have d1 := kP.cellF j hj64
          rw [pieF_at] at d1
          have d2 : wr.cell? ⟨w3.heap.size, j, none⟩ = some (.int .u8 (k.getD j 0 : Nat)) := by rw [kK.cell, byV_get _ _ (by rw [HU.out.2.2.1]; exact hj64)]
          have f1 : wr.frozen? ⟨wo.heap.size, j, none⟩ = false := kP.frozen _
          have hx1 : U.getD j 0 < 256 := getD_lt (by decide) HU.out.2.1 _
          have hx2 : k.getD j 0 < 256 := getD_lt (by decide) HU.out.2.2.2.1 _
          have vx := u8_xor_nat (U.getD j 0) (k.getD j 0) hx1 hx2
          have kP' := kP.setF j (.int .u8 ((U.getD j 0 ^^^ k.getD j 0 : Nat) : Int))
          have hst : (rowF 64 fun i => if i = j then Value.int .u8 ((U.getD j 0 ^^^ k.getD j 0 : Nat) : Int) else pieF U k j i) = rowF 64 (pieF U k (j + 1)) := rowF_congr fun i _ => pieF_step U k j i
          rw [hst] at kP'
          clear hst
          generalize hy : U.getD j 0 ^^^ k.getD j 0 = y at *
          generalize U.getD j 0 = x1 at *
          generalize k.getD j 0 = x2 at *
          clear hy
          have kK' : Row (wr.setCell ⟨wo.heap.size, j, none⟩ (.int .u8 (y : Int))) w3.heap.size 66 (byV k) := (Below.heap_setCell _ _ _ _ (by simp; omega)).trans kK
          have hbq' := hbq.setCell (p := ⟨wo.heap.size, j, none⟩) (Nat.le_refl _) (.int .u8 (y : Int))
          have HR : Hid (Row (wr.setCell ⟨wo.heap.size, j, none⟩ (.int .u8 (y : Int))) wo.heap.size 66 (rowF 64 (pieF U k (j + 1))) ∧ Row (wr.setCell ⟨wo.heap.size, j, none⟩ (.int .u8 (y : Int))) w3.heap.size 66 (byV k) ∧ Below wo.heap.size wo (wr.setCell ⟨wo.heap.size, j, none⟩ (.int .u8 (y : Int)))) := ⟨kP', kK', hbq'⟩
          have i1 : (j : Int) < 64 := by omega
          clear kP kK hbq kP' kK' hbq'
          go_wp2_with fail
          go_region_with (fail)
          all_goals
            go_wp2
            go_roundw
            case rel => exact ⟨j + 1, by omega, by go_num, HR.out.1, HR.out.2.1, HR.out.2.2.drew⟩
            case measure => simp [intOf]; omega
        · obtain rfl : j = 64 := by omega
          have hbld := bld_below HS.out.bld hbq (Nat.le_refl _)
          have hst := HS.out.st.below hbq HS.out.st.lt
          have hbel := HS.out.bel.trans (hbq.mono HS.out.bel.size)
          have hcells : ∀ i u, (byV (xorL n U k))[i]? = some u → wr.cell? ((⟨wo.heap.size, 0, none⟩ : Addr).add i) = some u := fun i u hiu => by
            have hadd : (⟨wo.heap.size, 0, none⟩ : Addr).add i = ⟨wo.heap.size, i, none⟩ := by unfold Addr.add; split <;> simp_all
            rw [hadd, kP.cell]
            rw [← pie_take U k n hn1, List.getElem?_take] at hiu
            split at hiu
            · exact hiu
            · cases hiu
          have hWr := bWrite_used w.heap.size w.heap.size _ ⟨wo.heap.size, 0, none⟩ n 64 (byV (xorL n U k)) wr hbld (by simp [byV, xorL_length]) hcells (fun v hv => by
            obtain ⟨x, _, rfl⟩ := List.mem_map.1 hv
            rfl) (by simp [byV, strmL_length, hbl]; omega) (by have := hbel.size; omega)
          rw [HU.out.2.2.2.2] at hWr
          have HW : Hid (Row wr g 184 (wdV s.toL) ∧ Below w.heap.size w wr) := ⟨hst, hbel⟩
          have i1 : (n : Int) ≤ 64 := by omega
          have i2 : (n : Int) ≤ u.size := by omega
          have i3 : IntKind.i64.wrap ((c : Int) + 1) = c + 1 := by rw [IntKind.wrap_i64]; omega
          clear kP kK hbq hbld hst hbel hcells HU HDS
          rw [show ((64 : Nat) : Int) = 64 from rfl]
          go_wp2_with fail
          refine hWr.mono ?_
          rintro e w5 ⟨rfl, hB5, hb5⟩
          have hS5 : StrmAt w w5 g s a (numsOf text) (p + n) := ⟨hB5, HW.out.1.below hb5 hg, hg, HW.out.2.trans hb5⟩
          clear hWr hB5 hb5 HW HS
          go_wp2
          go_roundw
          case rel => exact ⟨c + 1, q + 1, p + n, HX.out.2.2.2.2, HX.out.2.2.1, HX.out.2.2.2.1, by go_num, by rw [HX.out.1], hS5⟩
          case measure => simp [strSize]; have := HX.out.2.1; omega
    · have hp2 : p = text.size := by omega
      have hz : u.size = 0 := by omega
      have c1 : ¬ (0 : Int) < u.size := by omega
      have hall : (strmL s a (numsOf text)).take p = strmL s a (numsOf text) := List.take_of_length_le (by rw [strmL_length]; omega)
      have hbl2 := hS.bld
      rw [hall, byV_cells _ (strmL_bytes s a _ hby)] at hbl2
      have hSt := bString_any w.heap.size w.heap.size _ wo (.inr hbl2) (by have := hS.bel.size; omega)
      rw [strN_cells] at hSt
      have HB : Hid (Below w.heap.size w wo) := hS.bel
      clear hS hall hbl2 hun hub hul hu hus hpq hc
      go_wp2_with fail
      refine hSt.mono ?_
      rintro e w2 ⟨rfl, hb2⟩
      clear hSt
      go_wp2
      go_ret
      exact ⟨rfl, HB.out.trans hb2⟩
end Go.Proofs.YtdhiopbomnfmnaaGreatDoor.Bx
