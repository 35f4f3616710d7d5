/- The law PathBounds, called with any byte and any number, returns true, and changes nothing that was there. -/
import Derived.Test.YtjpgmbebdkiofabDoorPtLaw
namespace Go.Proofs.YtjpgmbebdkiofabDoor
set_option maxRecDepth 20000
open Go.RowKit

theorem bounds_early (c n : Int) (h1 : c < 33 ∨ 126 < c ∨ c = 47 ∨ n < 0 ∨ 19 < n) (w : World) :
    Calls Tryd.prog 3 #[.int .u8 c, .int .i64 n] w fun e w' => e = .returned (.bool true) ∧ Below w.heap.size w w' := by
  by_cases a1 : c < 33
  · clear h1
    go_enter Tryd.func3, Tryd.ntmps3
    go_wp2_with fail
    refine (pawake_any _).mono ?_
    rintro e w3 ⟨rfl, b3⟩
    go_wp2
    go_ret
    exact ⟨rfl, b3⟩
  by_cases a2 : 126 < c
  · clear h1
    go_enter Tryd.func3, Tryd.ntmps3
    go_wp2_with fail
    refine (pawake_any _).mono ?_
    rintro e w3 ⟨rfl, b3⟩
    go_wp2
    go_ret
    exact ⟨rfl, b3⟩
  by_cases a3 : c = 47
  · subst a3
    clear h1 a1 a2
    go_enter Tryd.func3, Tryd.ntmps3
    go_wp2_with fail
    refine (pawake_any _).mono ?_
    rintro e w3 ⟨rfl, b3⟩
    go_wp2
    go_ret
    exact ⟨rfl, b3⟩
  have a3' : (c == 47) = false := beq_eq_false_iff_ne.2 a3
  clear a3
  by_cases a4 : n < 0
  · clear h1
    go_enter Tryd.func3, Tryd.ntmps3
    go_wp2_with fail
    refine (pawake_any _).mono ?_
    rintro e w3 ⟨rfl, b3⟩
    go_wp2
    go_ret
    exact ⟨rfl, b3⟩
  have a5 : 19 < n := by
    have := beq_eq_false_iff_ne.1 a3'
    omega
  clear h1
  go_enter Tryd.func3, Tryd.ntmps3
  go_wp2_with fail
  refine (pawake_any _).mono ?_
  rintro e w3 ⟨rfl, b3⟩
  go_wp2
  go_ret
  exact ⟨rfl, b3⟩
theorem make_bytes (k : Nat) (hk : k ≤ 19) (w : World) : (Instr.makeSlice 23 (.int .i64 k) (.int .i64 k)).run Tryd.prog w = .ok (.slice (some ⟨w.heap.size, 0, none⟩) k k) (w.alloc (.cells (madeCells #[.int .u8 0] k) 5)) :=
  run_make_row' (P := Tryd.prog) 23 5 (.int .u8 0) 1 Tryd.underlying23 info_u8 rfl .i64 .i64 k (by omega) (by omega) w
def fillF (c : Int) (j i : Nat) : Value := .int .u8 (if i < j then c else 0)
theorem made_bytes (w : World) (c : Int) (k : Nat) : Row (w.alloc (.cells (madeCells #[.int .u8 0] k) 5)) w.heap.size 5 (rowF k (fillF c 0)) := by
  have e : (rowF k (fillF c 0)) = List.replicate k (.int .u8 0) := by
    have h : fillF c 0 = fun _ => Value.int .u8 0 := by funext i; simp [fillF]
    rw [rowF, h, List.map_const', List.length_range]
  rw [e, Row, ← toList_madeCells_one]
  exact heap_alloc_new w _
theorem fill_set {w : World} {b k j : Nat} {c : Int} (h : Row w b 5 (rowF k (fillF c j))) : Row (w.setCell ⟨b, j, none⟩ (.int .u8 c)) b 5 (rowF k (fillF c (j + 1))) := by
  refine Row.congr (Row.setF h j _) (rowF_congr fun i _ => ?_)
  unfold fillF
  by_cases e : i = j
  · subst e; rw [if_pos rfl, if_pos (by omega)]
  · rw [if_neg e]
    by_cases e2 : i < j
    · rw [if_pos e2, if_pos (by omega)]
    · rw [if_neg e2, if_neg (by omega)]
def repS (c : Int) (k : Nat) : ByteArray := strOfNums (List.replicate k c)
theorem repS_list (c : Int) (k : Nat) : (repS c k).data.toList = List.replicate k (UInt8.ofNat c.toNat) := by
  simp [repS, strOfNums]
theorem okC_of {c : Int} (h1 : ¬ c < 33) (h2 : ¬ 126 < c) (h3 : ¬ c = 47) : okC (UInt8.ofNat c.toNat) = true := by
  rw [okC_iff, UInt8.toNat_ofNat']
  omega
/-- The longest path: twelve names of nineteen bytes, and one of fourteen. -/
def segB : ByteArray := ⟨#[47, 97, 97, 97, 97, 97, 97, 97, 97, 97, 97, 97, 97, 97, 97, 97, 97, 97, 97, 97]⟩
def lastB : ByteArray := ⟨#[47, 97, 97, 97, 97, 97, 97, 97, 97, 97, 97, 97, 97, 97, 97]⟩
def longB : Nat → ByteArray
  | 0 => ⟨#[]⟩
  | m + 1 => longB m ++ segB
theorem longB_size : ∀ m, (longB m).size = 20 * m
  | 0 => rfl
  | m + 1 => by rw [longB, ByteArray.size_append, longB_size m]; show 20 * m + 20 = _; omega
def strSz : Value → Nat
  | .string s => s.size
  | _ => 0
theorem longB_next (m : Nat) : longB m ++ (⟨#[47, 97, 97, 97, 97, 97, 97, 97, 97, 97, 97, 97, 97, 97, 97, 97, 97, 97, 97, 97]⟩ : ByteArray) = longB (m + 1) := rfl
def wholeB : ByteArray := longB 12 ++ lastB
theorem wholeB_size : wholeB.size = 255 := by rw [wholeB, ByteArray.size_append, longB_size]; rfl
theorem wholeB_sp : spE wholeB.data.toList = 0 := by decide +kernel
theorem whole_any (w : World) : Calls Tryd.prog 5 #[.string wholeB] w fun e w' => ∃ v, e = .returned (.tuple #[v, .int .i64 0]) ∧ Below w.heap.size w w' := by
  have := psplit_any wholeB w
  rw [wholeB_sp] at this
  exact this.mono fun e w' ⟨v, h1, _, h2, _⟩ => ⟨v, h1, h2⟩
theorem wholea_any (w : World) : Calls Tryd.prog 5 #[.string (wholeB ++ (⟨#[97]⟩ : ByteArray))] w fun e w' => ∃ v, e = .returned (.tuple #[v, .int .i64 4]) ∧ Below w.heap.size w w' := by
  have := psplit_any (wholeB ++ (⟨#[97]⟩ : ByteArray)) w
  rw [(sp_long (l := (wholeB ++ (⟨#[97]⟩ : ByteArray)).data.toList) (by rw [← Lib.size_eq, ByteArray.size_append, wholeB_size]; decide)).1] at this
  exact this.mono fun e w' ⟨v, h1, _, h2, _⟩ => ⟨v, h1, h2⟩
theorem twenty_any (w : World) : Calls Tryd.prog 6 #[.string ⟨#[97, 97, 97, 97, 97, 97, 97, 97, 97, 97, 97, 97, 97, 97, 97, 97, 97, 97, 97, 97]⟩] w fun e w' => e = .returned (.int .i64 4) ∧ Below w.heap.size w w' := by
  have := name_any ⟨#[97, 97, 97, 97, 97, 97, 97, 97, 97, 97, 97, 97, 97, 97, 97, 97, 97, 97, 97, 97]⟩ w
  rw [nm_long (by decide)] at this
  exact this
set_option maxHeartbeats 4000000 in
theorem walk_pathBounds (c n : Int) (w : World) :
    Calls Tryd.prog 3 #[.int .u8 c, .int .i64 n] w fun e w' => e = .returned (.bool true) ∧ Below w.heap.size w w' := by
  by_cases h1 : c < 33 ∨ 126 < c ∨ c = 47 ∨ n < 0 ∨ 19 < n
  · exact bounds_early c n h1 w
  · obtain ⟨a1, a2, a3, a4, a5⟩ : ¬ c < 33 ∧ ¬ 126 < c ∧ ¬ c = 47 ∧ ¬ n < 0 ∧ ¬ 19 < n := ⟨fun h => h1 (.inl h), fun h => h1 (.inr (.inl h)), fun h => h1 (.inr (.inr (.inl h))), fun h => h1 (.inr (.inr (.inr (.inl h)))), fun h => h1 (.inr (.inr (.inr (.inr h))))⟩
    have a3' : (c == 47) = false := beq_eq_false_iff_ne.2 a3
    clear h1
    obtain ⟨k, rfl⟩ : ∃ k : Nat, n = k := ⟨n.toNat, by omega⟩
    have hok := okC_of a1 a2 a3
    have hk : k ≤ 19 := by omega
    have hnm := nm_rep _ hok k hk
    rw [← repS_list] at hnm
    have hm := make_bytes k hk
    have HM : Hid (Row (w.alloc (.cells (madeCells #[.int .u8 0] k) 5)) w.heap.size 5 (rowF k (fillF c 0))) := made_bytes w c k
    have HN : Hid (nmL (repS c k).data.toList = if k = 0 ∨ (repS c k).data.toList = [46] ∨ (repS c k).data.toList = [46, 46] then 40 else 0) := hnm
    clear hnm hok a3
    go_enter Tryd.func3, Tryd.ntmps3
    go_wp2_with fail
    go_loopw [6] (fun iv wr => ∃ j : Nat, j ≤ k ∧ iv = .int .i64 (j : Int) ∧ Row wr w.heap.size 5 (rowF k (fillF c j)) ∧ Below w.heap.size w wr) (fun iv _ => k - (intOf iv).toNat)
    case atStart => exact ⟨0, Nat.zero_le _, rfl, HM.out, (Below.refl _ _).alloc (Nat.le_refl _) _⟩
    case round =>
      clear HM hm
      obtain ⟨j, hj, rfl, hrow, hb⟩ := hrel
      by_cases hlt : j < k
      · have j1 : (j : Int) < k := by omega
        have hc := Row.cellF hrow j hlt
        have hf := Row.frozen hrow j
        have HS : Hid (Row (wr.setCell ⟨w.heap.size, j, none⟩ (.int .u8 c)) w.heap.size 5 (rowF k (fillF c (j + 1))) ∧ Below w.heap.size w (wr.setCell ⟨w.heap.size, j, none⟩ (.int .u8 c))) := ⟨fill_set hrow, hb.setCell (p := ⟨w.heap.size, j, none⟩) (Nat.le_refl _) _⟩
        unfold fillF at hc
        rw [if_neg (Nat.lt_irrefl _)] at hc
        clear hrow hb HN
        go_wp2
        go_roundw
        case rel => exact ⟨j + 1, by omega, by go_num, HS.out⟩
        case measure => simp [intOf]; omega
      · have j1 : ¬ (j : Int) < k := by omega
        obtain rfl : j = k := by omega
        have hcv := run_convert_bytes_arg (P := Tryd.prog) wr 23 5 Tryd.underlying23 Tryd.underlying5 w.heap.size 0 j j (List.replicate j c) (by simp) (fun i hi => by
          rw [Nat.zero_add, Row.cellF hrow i hi]
          simp [fillF, hi, List.getD]) 9 Tryd.underlying9
        rw [show strOfNums (List.replicate j c) = repS c j from rfl] at hcv
        have HB : Hid (Below w.heap.size w wr) := hb
        have hname := name_any (repS c j)
        rw [HN.out] at hname
        clear hrow hb HN
        generalize repS c j = S at *
        have hway : ∃ W : Int, (∀ w, Calls Tryd.prog 6 #[.string S] w fun e w' => e = .returned (.int .i64 W) ∧ Below w.heap.size w w') ∧ ((j = 0 ∧ W = 40) ∨ (((j : Int) == 0) = false ∧ S.toList = [46] ∧ W = 40) ∨ (((j : Int) == 0) = false ∧ S.toList = [46, 46] ∧ W = 40) ∨ (((j : Int) == 0) = false ∧ (S.toList == [46]) = false ∧ (S.toList == [46, 46]) = false ∧ W = 0)) := by
          refine ⟨_, hname, ?_⟩
          by_cases k0 : j = 0
          · exact .inl ⟨k0, if_pos (.inl k0)⟩
          · have k0' : ((j : Int) == 0) = false := by rw [beq_eq_false_iff_ne]; omega
            by_cases k1 : S.toList = [46]
            · exact .inr (.inl ⟨k0', k1, if_pos (.inr (.inl ((Lib.toList_data S).symm.trans k1)))⟩)
            · by_cases k2 : S.toList = [46, 46]
              · exact .inr (.inr (.inl ⟨k0', k2, if_pos (.inr (.inr ((Lib.toList_data S).symm.trans k2)))⟩))
              · refine .inr (.inr (.inr ⟨k0', beq_eq_false_iff_ne.2 k1, beq_eq_false_iff_ne.2 k2, if_neg ?_⟩))
                rintro (h | h | h)
                · exact k0 h
                · exact k1 ((Lib.toList_data S).trans h)
                · exact k2 ((Lib.toList_data S).trans h)
        clear hname
        obtain ⟨W, hname, hway⟩ := hway
        rcases hway with ⟨rfl, rfl⟩ | ⟨k0, k1, rfl⟩ | ⟨k0, k1, rfl⟩ | ⟨k0, k1, k2, rfl⟩
        all_goals
          go_wp2_with fail
          go_loopw [9] (fun sv wx => ∃ (m : Nat) (sa : ByteArray), m ≤ 12 ∧ sv = .string sa ∧ sa = longB m ∧ sa.size = 20 * m ∧ Below w.heap.size w wx) (fun sv _ => 240 - strSz sv)
          case atStart => exact ⟨0, _, Nat.zero_le _, rfl, rfl, rfl, HB.out⟩
          case round =>
            clear HB hcv
            obtain ⟨m, sa, hm12, rfl, hsa, hsz, hb⟩ := hrel
            have HB : Hid (Below w.heap.size w _) := hb
            clear hb
            by_cases hm1 : m < 12
            · have z1 : (sa.size : Int) < 240 := by omega
              have HS : Hid (sa ++ (⟨#[47, 97, 97, 97, 97, 97, 97, 97, 97, 97, 97, 97, 97, 97, 97, 97, 97, 97, 97, 97]⟩ : ByteArray) = longB (m + 1)) := by rw [hsa]; rfl
              have HZ : Hid (sa.size = 20 * m) := hsz
              clear hsa hname
              go_wp2
              go_roundw
              case rel => exact ⟨m + 1, _, by omega, rfl, HS.out, by rw [HS.out, longB_size], HB.out⟩
              case measure =>
                show 240 - (sa ++ (⟨#[47, 97, 97, 97, 97, 97, 97, 97, 97, 97, 97, 97, 97, 97, 97, 97, 97, 97, 97, 97]⟩ : ByteArray)).size < 240 - sa.size
                rw [HS.out, longB_size, HZ.out]
                omega
            · obtain rfl : m = 12 := by omega
              have z1 : ¬ (sa.size : Int) < 240 := by omega
              have HW : Hid (sa ++ (⟨#[47, 97, 97, 97, 97, 97, 97, 97, 97, 97, 97, 97, 97, 97, 97]⟩ : ByteArray) = wholeB) := by rw [hsa]; rfl
              have hws : (wholeB.size : Int) = 255 := by rw [wholeB_size]; rfl
              have hsl : sa.size ≤ 240 := by omega
              clear hsa hm12 hm1 hsz
              go_wp2_with fail
              rw [HW.out]
              refine (whole_any _).mono ?_
              rintro e w1 ⟨v1, rfl, b1⟩
              have HB1 : Hid (Below w.heap.size w w1) := HB.out.trans (b1.mono HB.out.size)
              clear b1 HB
              go_wp2_with fail
              refine (wholea_any _).mono ?_
              rintro e w2 ⟨v2, rfl, b2⟩
              have HB2 : Hid (Below w.heap.size w w2) := HB1.out.trans (b2.mono HB1.out.size)
              clear b2 HB1
              go_wp2_with fail
              refine (hname _).mono ?_
              rintro e w3 ⟨rfl, b3⟩
              have HB3 : Hid (Below w.heap.size w w3) := HB2.out.trans (b3.mono HB2.out.size)
              clear b3 HB2 hname
              go_wp2_with fail
              refine (twenty_any _).mono ?_
              rintro e w4 ⟨rfl, b4⟩
              have HB4 : Hid (Below w.heap.size w w4) := HB3.out.trans (b4.mono HB3.out.size)
              clear b4 HB3
              go_wp2_with fail
              refine (pawake_any _).mono ?_
              rintro e w5 ⟨rfl, b5⟩
              have HB5 : Hid (Below w.heap.size w w5) := HB4.out.trans (b5.mono HB4.out.size)
              clear b5 HB4
              go_wp2
              go_ret
              exact ⟨rfl, HB5.out⟩
end Go.Proofs.YtjpgmbebdkiofabDoor
