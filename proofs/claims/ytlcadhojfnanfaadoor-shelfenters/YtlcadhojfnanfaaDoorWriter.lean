/- The writer of package pack: bytes lays a text behind what it has, number lays a number's bytes and keeps the error of one without room, record tells the error or the text filled up; each of whatever state the writer is in, up to 2^40 bytes. -/
import Derived.Test.YtlcadhojfnanfaaDoorWrMath
import Derived.Test.YtlcadhojfnanfaaDoorPad
namespace Go.Proofs.YtlcadhojfnanfaaDoor
set_option maxRecDepth 20000
open Go.RowKit Go.Lib

set_option maxHeartbeats 400000 in
theorem wbytes_any (b : Nat) (l : List UInt8) (e : Int) (s : ByteArray) (w : World) (h : Wr w 59 5 b l e) (hs : l.length + s.size ≤ 1099511627776) :
    Calls Tryd.prog 29 #[.pointer (some ⟨b, 0, none⟩), .string s] w fun en w' => en = .returned (.tuple #[]) ∧ Wr w' 59 5 b (l ++ s.data.toList) e ∧ Below b w w' := by
  obtain ⟨v, hblk, hown⟩ := h
  have hlt := lt_of_block hblk
  have hc0 := two_cell0 hblk
  obtain ⟨i0, hi, hz0, hz1, hz2⟩ := info_parts info5
  go_enter Tryd.func29, Tryd.ntmps29
  go_wp2_with (at_builtin; refine wpList_append_own_string _ rfl _ _ 46 9 rfl (b + 1) 5 i0 Tryd.underlying46 Tryd.underlying9 hi hz0 hz1 hz2 _ _ _ rfl hown s rfl ?c1 ?c2 ?c3 ?_)
  case c1 => unfold maxLen; omega
  case c2 => omega
  case c3 => omega
  intro v' w1 hown' hgrow _
  have hb1 : Below (b + 1) w w1 := (Below.refl _ _).grown hgrow (by omega) (fun k hk => by
    rcases hown.2 with ⟨rfl, _⟩ | ⟨g', cap, cur, rfl, hg', _⟩
    · simp [Value.ownBlock] at hk
    · simp [Value.ownBlock] at hk; omega)
  have hblk1 : w1.heap[b]? = some (.cells #[v, .int .i64 e] 59 (0, 0)) := by rw [hb1.block b (by omega)]; exact hblk
  clear hown hblk hgrow hc0
  have hex : ∃ a n c, v' = .slice a n c := by
    rcases hown'.2 with ⟨h, _⟩ | ⟨g, cap, cur, h, _⟩
    · exact ⟨_, _, _, h⟩
    · exact ⟨_, _, _, h⟩
  obtain ⟨a, n, c, hv⟩ := hex
  rw [hv] at hown' ⊢
  clear hv
  have hf0 := two_free 0 hblk1
  have hc0 := two_cell0 hblk1
  have HB : Hid (w1.heap[b]? = some (.cells #[v, .int .i64 e] 59 (0, 0))) := hblk1
  clear hblk1
  go_wp2
  go_end0
  refine ⟨rfl, ⟨.slice a n c, two_set0 HB.out, ?_⟩, (hb1.mono (show b ≤ b + 1 by omega)).setCell (Nat.le_refl _) _⟩
  rw [List.length_append, show s.data.toList.length = s.size by simp, ← byteCells_append, ← byteCells_str]
  exact ownsRow_setCell_below hown' (by show b < b + 1; omega) _

theorem Wr.setE {w : World} {T E : TypeId} {b : Nat} {l : List UInt8} {e : Int} (h : Wr w T E b l e) (x : Int) : Wr (w.setCell ⟨b, 1, none⟩ (.int .i64 x)) T E b l x := by
  obtain ⟨v, h1, h2⟩ := h
  exact ⟨v, two_set1 h1, ownsRow_setCell_below h2 (by show b < b + 1; omega) _⟩

set_option maxHeartbeats 400000 in
theorem wnumber_any (b : Nat) (l : List UInt8) (e n k : Int) (w : World) (h : Wr w 59 5 b l e) (hs : l.length ≤ 1099511627000) :
    Calls Tryd.prog 28 #[.pointer (some ⟨b, 0, none⟩), .int .i64 n, .int .i64 k] w fun en w' => en = .returned (.tuple #[]) ∧ Wr w' 59 5 b (l ++ (putS n k).data.toList) (stepE e n k) ∧ Below b w w' := by
  have hsz : (putS n k).size ≤ 6 := by have := putS_le n k; simpa using this
  have hlt := h.lt
  by_cases hz : putE n k = 0
  · have hzb : (putE n k != 0) = false := by rw [hz]; rfl
    have HE : Hid (stepE e n k = e) := by show _ = _; unfold stepE; rw [if_pos hz]
    clear hz
    go_enter Tryd.func28, Tryd.ntmps28
    go_wp2_with fail
    refine (put_any n k _).mono ?_
    rintro en w1 ⟨rfl, hb1⟩
    have h1 := h.below hb1
    clear h
    go_wp2_with fail
    refine (wbytes_any b l e (putS n k) _ h1 (by omega)).mono ?_
    rintro en w2 ⟨rfl, h2, hb2⟩
    go_wp2
    go_end0
    exact ⟨rfl, by rw [HE.out]; exact h2, (hb1.mono (show b ≤ w.heap.size by omega)).trans hb2⟩
  · have hzb : (putE n k != 0) = true := by simpa using hz
    have HE : Hid (stepE e n k = putE n k) := by show _ = _; unfold stepE; rw [if_neg hz]
    clear hz
    go_enter Tryd.func28, Tryd.ntmps28
    go_wp2_with fail
    refine (put_any n k _).mono ?_
    rintro en w1 ⟨rfl, hb1⟩
    have h1 := h.below hb1
    clear h
    obtain ⟨v, hblk, hown⟩ := id h1
    have hf1 := two_free 1 hblk
    have hc1 := two_cell1 hblk
    clear hblk hown
    go_wp2_with fail
    refine (wbytes_any b l (putE n k) (putS n k) _ (h1.setE _) (by omega)).mono ?_
    rintro en w2 ⟨rfl, h2, hb2⟩
    go_wp2
    go_end0
    exact ⟨rfl, by rw [HE.out]; exact h2, ((hb1.mono (show b ≤ w.heap.size by omega)).setCell (Nat.le_refl _) _).trans hb2⟩

theorem run_convert_owned {w : World} {base : Nat} {v : Value} {l : List UInt8} (h : w.ownsRow base 5 1 v l.length (byteCells l)) : (convert 46 9 v).run Tryd.prog w = .ok (.string ⟨l.toArray⟩) w := by
  rcases h.2 with ⟨rfl, h0⟩ | ⟨g, cap, cur, rfl, _⟩
  · rw [run_convert_bytes_nil (P := Tryd.prog) w 46 5 Tryd.underlying46 Tryd.underlying5 0 0 9 Tryd.underlying9]
    rw [List.eq_nil_of_length_eq_zero h0]
    rfl
  · rw [run_convert_bytes_arg (P := Tryd.prog) w 46 5 Tryd.underlying46 Tryd.underlying5 g 0 l.length cap (l.map fun x => (x.toNat : Int)) (by simp) (fun i hi => by
      rw [Nat.zero_add, h.cellAt i (by omega)]
      simp [byteCells, hi, List.getD]) 9 Tryd.underlying9]
    rw [str_map_nums]

set_option maxHeartbeats 400000 in
theorem wrecord_no (b : Nat) (l : List UInt8) (e n : Int) (w : World) (h : Wr w 59 5 b l e) (he : (e != 0) = true) :
    Calls Tryd.prog 31 #[.pointer (some ⟨b, 0, none⟩), .int .i64 n] w fun en w' => en = .returned (.tuple #[.string ByteArray.empty, .int .i64 e]) ∧ Below w.heap.size w w' := by
  obtain ⟨v, hblk, hown⟩ := h
  have hc1 := two_cell1 hblk
  clear hblk hown
  go_enter Tryd.func31, Tryd.ntmps31
  go_wp2
  go_region
  all_goals go_wp2
  all_goals go_ret2
  all_goals exact ⟨rfl, by repeat (first | exact Below.refl _ _ | apply Below.drew)⟩

set_option maxHeartbeats 400000 in
theorem wrecord_ok (b : Nat) (l : List UInt8) (n : Int) (w : World) (h : Wr w 59 5 b l 0) :
    Calls Tryd.prog 31 #[.pointer (some ⟨b, 0, none⟩), .int .i64 n] w fun en w' => en = .returned (.tuple #[.string (padS ⟨l.toArray⟩ n), .int .i64 (padE ⟨l.toArray⟩ n)]) ∧ Below w.heap.size w w' := by
  obtain ⟨v, hblk, hown⟩ := h
  have hc0 := two_cell0 hblk
  have hc1 := two_cell1 hblk
  have hcv := run_convert_owned hown
  have hex : ∃ a n c, v = .slice a n c := by
    rcases hown.2 with ⟨h, _⟩ | ⟨g, cap, cur, h, _⟩
    · exact ⟨_, _, _, h⟩
    · exact ⟨_, _, _, h⟩
  clear hblk hown
  obtain ⟨a, m, c, rfl⟩ := hex
  go_enter Tryd.func31, Tryd.ntmps31
  go_wp2_with fail
  refine (pad_any ⟨l.toArray⟩ n _).mono ?_
  rintro en w1 ⟨rfl, hb1⟩
  go_wp2
  go_ret2
  exact ⟨rfl, hb1⟩

/-- A number that is laid behind others. -/
theorem wnumberP (b : Nat) (pre : List UInt8) (ps ps' : List (Int × Int)) (n k : Int) (hp : ps ++ [(n, k)] = ps') (w : World) (h : Wr w 59 5 b (pre ++ laidL ps) (errL 0 ps)) (hs : pre.length + 6 * ps.length ≤ 1000000) :
    Calls Tryd.prog 28 #[.pointer (some ⟨b, 0, none⟩), .int .i64 n, .int .i64 k] w fun en w' => en = .returned (.tuple #[]) ∧ Wr w' 59 5 b (pre ++ laidL ps') (errL 0 ps') ∧ Below b w w' := by
  have hl := laidL_le ps
  refine (wnumber_any b _ _ n k w h (by rw [List.length_append]; omega)).mono fun en w' ⟨he, hw, hb⟩ => ⟨he, ?_, hb⟩
  rw [← hp, laidL_append, errL_append, ← List.append_assoc]
  simpa [laidL, errL] using hw
/-- What record tells of numbers behind some bytes. -/
theorem wrecordP (b : Nat) (pre : List UInt8) (ps : List (Int × Int)) (n z : Nat) (hn : n ≤ 4096) (hw : widths ps = true) (hz : pre.length + widthSum ps + z = n) (w : World) (h : Wr w 59 5 b (pre ++ laidL ps) (errL 0 ps)) :
    Calls Tryd.prog 31 #[.pointer (some ⟨b, 0, none⟩), .int .i64 n] w fun en w' => en = .returned (.tuple #[.string (recS pre ps z), .int .i64 (recE ps)]) ∧ Below w.heap.size w w' := by
  rw [errL_ok ps hw] at h
  by_cases ho : laidOk ps = true
  · rw [if_pos ho] at h
    have hl : (pre ++ laidL ps).length + z = n := by rw [List.length_append, laidL_length ps ho]; omega
    refine (wrecord_ok b _ n w h).mono fun en w' ⟨he, hb⟩ => ⟨?_, hb⟩
    rw [he, padS_rec hn hl, padE_rec hn hl, recS_ok ho, recE_ok ho]
  · rw [if_neg ho] at h
    have hf : laidOk ps = false := by simpa using ho
    refine (wrecord_no b _ 2 n w h rfl).mono fun en w' ⟨he, hb⟩ => ⟨?_, hb⟩
    rw [he, recS_no hf, recE_no hf]
/-- What record tells of a text that z bytes lack to. -/
theorem wrecord_fit (b : Nat) (l : List UInt8) (n z : Nat) (hn : n ≤ 4096) (hl : l.length + z = n) (w : World) (h : Wr w 59 5 b l 0) :
    Calls Tryd.prog 31 #[.pointer (some ⟨b, 0, none⟩), .int .i64 n] w fun en w' => en = .returned (.tuple #[.string (padL l z), .int .i64 0]) ∧ Below w.heap.size w w' := by
  unfold padL
  refine (wrecord_ok b l n w h).mono fun en w' ⟨he, hb⟩ => ⟨?_, hb⟩
  rw [he, padS_rec hn hl, padE_rec hn hl]
/-- A new writer. -/
theorem wr_new (w : World) (b : Nat) (hb : b = w.heap.size) : Wr (w.alloc (.cells #[.slice none 0 0, .int .i64 0] 59)) 59 5 b [] 0 := by
  subst hb
  exact ⟨.slice none 0 0, heap_alloc_new w _, World.ownsRow_nil _ _ _ _⟩
end Go.Proofs.YtlcadhojfnanfaaDoor
