/- journal's records and joined. · journal's recorded: so many of the journal's records. -/
import Derived.Test.YtbmjablmmlnieaaGreatDoorMg23
import Derived.Test.YtbmjablmmlnieaaGreatDoorMg24
import Derived.Maps.AppendAt
import Derived.Deep.AppendLies
namespace Go.Proofs.YtbmjablmmlnieaaGreatDoor
set_option maxRecDepth 20000
open Go.RowKit

theorem flatW_at : ∀ (l : List Wt) (i : Nat) (x : Wt), l[i]? = some x → ∀ c, c < 2 → (l.flatMap Wt.cells)[i * 2 + c]? = x.cells[c]?
  | [], i, x, h, _, _ => by simp at h
  | y :: l, 0, x, h, c, hc => by
    obtain rfl : y = x := by simpa using h
    rw [List.flatMap_cons, List.getElem?_append_left (by show 0 * 2 + c < 2; omega), Nat.zero_mul, Nat.zero_add]
  | y :: l, i + 1, x, h, c, hc => by
    have h3 : y.cells.length = 2 := rfl
    rw [List.flatMap_cons, List.getElem?_append_right (by rw [h3]; omega), h3, show (i + 1) * 2 + c - 2 = i * 2 + c by omega]
    exact flatW_at l i x (by simpa using h) c hc
/-- A list of writes that one owns. -/
def WZ (w : World) (base : Nat) (v : Value) (l : List Wt) : Prop := w.ownsRow base 48 2 v l.length (l.flatMap Wt.cells)
theorem WZ.nil (w : World) (base : Nat) : WZ w base (.slice none 0 0) [] := World.ownsRow_nil _ _ _ _
theorem WZ.mono {w : World} {base b2 : Nat} {v : Value} {l : List Wt} (h : WZ w base v l) (hb : b2 ≤ base) : WZ w b2 v l := by
  refine ⟨h.1, ?_⟩
  rcases h.2 with h0 | ⟨g, cap, cur, e, h0, r⟩
  · exact .inl h0
  · exact .inr ⟨g, cap, cur, e, Nat.le_trans hb h0, r⟩
theorem WZ.form {w : World} {base : Nat} {v : Value} {l : List Wt} (h : WZ w base v l) : ∃ oa cap, v = .slice oa l.length cap := by
  rcases h.2 with ⟨e, h0⟩ | ⟨g, cap, cur, e, _⟩
  · exact ⟨none, 0, by rw [e, h0]⟩
  · exact ⟨_, _, e⟩
theorem WZ.below {w w' : World} {base : Nat} {v : Value} {l : List Wt} (h : WZ w base v l) (hb : Below w.heap.size w w') : WZ w' base v l := by
  refine ⟨h.1, ?_⟩
  rcases h.2 with h0 | ⟨g, cap, cur, e, h0, hg, h1, h2, h3, h4⟩
  · exact .inl h0
  · exact .inr ⟨g, cap, cur, e, h0, (hb.block g (lt_of_block hg)).trans hg, h1, h2, h3, h4⟩
theorem WZ.wts {w : World} {base : Nat} {v : Value} {l : List Wt} (h : WZ w base v l) : Wts w v l ∧ ∀ g o len cap, v = .slice (some ⟨g, o, none⟩) len cap → base ≤ g ∧ g < w.heap.size := by
  have hh := h
  unfold WZ at hh
  rcases h.2 with ⟨e, h0⟩ | ⟨g, cap, cur, e, h0, hg, h1, h2, h3, h4⟩
  · exact ⟨.inl ⟨none, 0, e, List.eq_nil_of_length_eq_zero h0⟩, fun g o len cap e' => by rw [e] at e'; cases e'⟩
  · subst e
    refine ⟨.inr ⟨g, 0, cap, rfl, lt_of_block hg, fun i x hx => ?_⟩, fun g' o len cap' e' => ?_⟩
    · have hi := (List.getElem?_eq_some_iff.1 hx).1
      have k : ∀ c, c < 2 → w.cell? ⟨g, 0 + i * 2 + c, none⟩ = x.cells[c]? := fun c hc => by
        have := hh.cellAt (i * 2 + c) (by omega)
        rw [Nat.zero_add, this, flatW_at l i x hx c hc]
      exact ⟨k 0 (by omega), k 1 (by omega)⟩
    · simp only [Value.slice.injEq, Option.some.injEq, Addr.mk.injEq] at e'
      obtain ⟨⟨rfl, _⟩, _⟩ := e'
      exact ⟨h0, lt_of_block hg⟩
theorem jn_info_wt : (Tryz.prog.info? 48).map (fun i => (i.zero, i.size, i.bytes)) = some (some (.agg #[.int .i64 0, .string ⟨#[]⟩]), 2, 24) := by kernel_rfl
/-- What a round of joined knows. -/
structure JoR (w : World) (l : List Wt) (j : Nat) (wr : World) : Prop where
  bl : Bl w.heap.size w.heap.size (joinB (l.take j)).data.toList wr
  below : Below w.heap.size w wr
theorem joinB_size (l : List Wt) : (joinB l).data.toList.length = (joinB l).size := by simp
theorem joinB_snoc (l : List Wt) (x : Wt) : (joinB (l ++ [x])).data.toList = (joinB l).data.toList ++ x.raw.data.toList := by
  induction l with
  | nil => simp [joinB]
  | cons y l ih => simp [joinB, ih]
theorem joinB_le : ∀ l : List Wt, (∀ x ∈ l, x.raw.size ≤ 512) → (joinB l).data.toList.length ≤ 512 * l.length
  | [], _ => by simp [joinB]
  | x :: l, h => by
    have h1 := joinB_le l fun y hy => h y (List.mem_cons_of_mem _ hy)
    have h2 := h x (List.mem_cons_self ..)
    have h3 : (joinB (x :: l)).data.toList = x.raw.data.toList ++ (joinB l).data.toList := by simp [joinB]
    rw [h3, List.length_append, List.length_cons]
    have h4 : x.raw.data.toList.length = x.raw.size := by simp
    omega
set_option maxHeartbeats 4000000 in
theorem joined_any (v : Value) (l : List Wt) (w : World) (hv : Wts w v l) (hll : l.length ≤ 1000) (hsz : ∀ x ∈ l, x.raw.size ≤ 512) :
    Calls Tryz.prog 77 #[v] w fun e w' => e = .returned (.string (joinB l)) ∧ Below w.heap.size w w' := by
  obtain ⟨oa, ca, rfl⟩ := hv.form
  have HV : Hid (Wts w (.slice oa l.length ca) l ∧ ∀ x ∈ l, x.raw.size ≤ 512) := ⟨hv, hsz⟩
  have HB0 : Hid (Bl w.heap.size w.heap.size [] (w.alloc (.cells #[.pointer none, .slice none 0 0] 123))) :=
    (show Lib.IsBuilder 123 5 w.heap.size w.heap.size (Lib.byteCells []) (w.alloc (.cells #[.pointer none, .slice none 0 0] 123)) from .inl ⟨Nat.le_refl _, _, heap_alloc_new w _, World.ownsRow_nil _ _ _ _, fun h => by cases h⟩)
  clear hv hsz
  go_enter Tryz.func77, Tryz.ntmps77
  go_wp2_with fail
  go_loopw [8] (fun iv wr => ∃ (j : Nat), j ≤ l.length ∧ iv = .int .i64 (j : Int) ∧ Hid (JoR w l j wr)) (fun iv _ => l.length - (intOf iv).toNat)
  case atStart => exact ⟨0, Nat.zero_le _, rfl, HB0.out, (Below.refl _ _).alloc (Nat.le_refl _) _⟩
  case round =>
    clear HB0
    obtain ⟨j, hj, rfl, HR⟩ := hrel
    by_cases hlt : j < l.length
    · have j1 : (j : Int) < l.length := by omega
      obtain ⟨g, o, rfl, hg, hc⟩ := HV.out.1.at hlt
      have hgw := Nat.lt_of_lt_of_le hg HR.out.below.size
      obtain ⟨c0, c1⟩ := hc.keep (HR.out.below.block g hg)
      have hT : l.take (j + 1) = l.take j ++ [l[j]] := by rw [List.take_add_one, List.getElem?_eq_getElem hlt]; rfl
      have HT : Hid ((joinB (l.take (j + 1))).data.toList = (joinB (l.take j)).data.toList ++ l[j].raw.data.toList) := by
        show _ = _
        rw [hT, joinB_snoc]
      have hs1 := HV.out.2 _ (List.getElem_mem hlt)
      have hs2 : (joinB (l.take j)).data.toList.length ≤ 512 * j := by
        have := joinB_le (l.take j) fun x hx => HV.out.2 x (List.mem_of_mem_take hx)
        rw [List.length_take] at this
        have : min j l.length ≤ j := Nat.min_le_left _ _
        omega
      clear hc hT
      generalize l[j] = x at *
      obtain ⟨a, r⟩ := x
      simp only at c0 c1 hs1 HT
      have hbA : Below wr.heap.size wr (wr.alloc (.cells #[.int .i64 a, .string r] 48)) := (Below.refl _ _).alloc (Nat.le_refl _) _
      have hwc := ptWrite_any w.heap.size w.heap.size _ r _ (Bl_keep HR.out.bl hbA) (by omega) (Nat.le_trans HR.out.below.size hbA.size)
      have HB1 : Hid (Below w.heap.size w (wr.alloc (.cells #[.int .i64 a, .string r] 48))) := HR.out.below.trans (hbA.mono HR.out.below.size)
      clear hbA
      go_wp2_with fail
      refine hwc.mono ?_
      rintro e w3 ⟨rfl, hB3, hb3⟩
      have HF : Hid (JoR w l (j + 1) w3) := ⟨by rw [HT.out]; exact hB3, HB1.out.trans hb3⟩
      clear hwc hB3 hb3
      go_wp2
      go_roundw
      case rel => exact ⟨j + 1, by omega, by go_num, HF⟩
      case measure => simp [intOf]; omega
    · obtain rfl : j = l.length := by omega
      have j1 : ¬ ((l.length : Nat) : Int) < l.length := by omega
      have hs := ctString_any w.heap.size w.heap.size _ wr HR.out.bl HR.out.below.size
      rw [List.take_length] at hs
      have HX : Hid ((⟨(joinB l).data.toList.toArray⟩ : ByteArray) = joinB l) := by show _ = _; simp
      rw [HX.out] at hs
      go_wp2_with fail
      refine hs.mono ?_
      rintro e w2 ⟨rfl, hb2⟩
      have HL2 : Hid (Below w.heap.size w w2) := HR.out.below.trans hb2
      clear hs hb2
      go_wp2
      go_ret
      exact ⟨rfl, HL2.out⟩
theorem recsL_length (log : Int) : ∀ (l : List Wt) (i : Nat), (recsL log i l).length = l.length
  | [], _ => rfl
  | x :: l, i => by simp [recsL, recsL_length log l (i + 1)]
theorem recsL_snoc (log : Int) (x : Wt) : ∀ (l : List Wt) (i : Nat), recsL log i (l ++ [x]) = recsL log i l ++ [⟨log + ((i + l.length : Nat) : Int), x.raw⟩]
  | [], i => rfl
  | y :: l, i => by
    rw [List.cons_append, recsL, recsL_snoc log x l (i + 1), recsL, List.length_cons, show i + 1 + l.length = i + (l.length + 1) by omega]
    rfl
set_option maxHeartbeats 4000000 in
theorem records_any (n q s2 t : Nat) (v : Value) (l : List Wt) (w : World) (hv : Wts w v l) (hll : l.length ≤ 1000) :
    Calls Tryz.prog 43 #[.agg (layA n q s2 t), v] w fun e w' => ∃ v', e = .returned v' ∧ WZ w' w.heap.size v' (recsL 3 0 l) ∧ Below w.heap.size w w' := by
  obtain ⟨oa, ca, rfl⟩ := hv.form
  obtain ⟨i0, hi0, hz0, hz1, hz2⟩ := info_parts jn_info_wt
  have HV : Hid (Wts w (.slice oa l.length ca) l) := hv
  have hr0 : (w.alloc (.cells (layA n q s2 t) 71)).heap[w.heap.size]? = some (.cells (layA n q s2 t) 71 (0, 0)) := heap_alloc_new w _
  obtain ⟨A, hA⟩ : ∃ A, A = layA n q s2 t := ⟨_, rfl⟩
  have hA2 : A[2]? = some (.int .i64 3) := by rw [hA]; rfl
  rw [← hA] at hr0 ⊢
  clear hA hv
  have HI : Hid ((w.alloc (.cells A 71)).heap[w.heap.size]? = some (.cells A 71 (0, 0)) ∧ Below w.heap.size w (w.alloc (.cells A 71)) ∧ A[2]? = some (.int .i64 3)) := ⟨hr0, (Below.refl _ _).alloc (Nat.le_refl _) _, hA2⟩
  clear hr0 hA2
  go_enter Tryz.func43, Tryz.ntmps43
  go_wp2_with fail
  go_loopw [5, 10] (fun sv iv wr => ∃ (j : Nat), j ≤ l.length ∧ iv = .int .i64 (j : Int) ∧ WZ wr (w.heap.size + 1) sv (recsL 3 0 (l.take j)) ∧ Hid (Below w.heap.size w wr ∧ wr.heap[w.heap.size]? = some (.cells A 71 (0, 0)))) (fun _ iv _ => l.length - (intOf iv).toNat)
  case atStart => exact ⟨0, Nat.zero_le _, rfl, WZ.nil _ _, HI.out.2.1, HI.out.1⟩
  case round =>
    obtain ⟨j, hj, rfl, hown, HB⟩ := hrel
    have hrl : (recsL 3 0 (l.take j)).length = j := by rw [recsL_length, List.length_take]; omega
    obtain ⟨ob, cap, rfl⟩ := hown.form
    rw [hrl] at hown ⊢
    by_cases hlt : j < l.length
    · have j1 : (j : Int) < l.length := by omega
      obtain ⟨g, o, rfl, hg, hc⟩ := HV.out.at hlt
      have hgw := Nat.lt_of_lt_of_le hg HB.out.1.size
      obtain ⟨c0, c1⟩ := hc.keep (HB.out.1.block g hg)
      have HN : Hid (recsL 3 0 (l.take (j + 1)) = recsL 3 0 (l.take j) ++ [⟨3 + (j : Int), l[j].raw⟩]) := by
        show _ = _
        rw [List.take_add_one, List.getElem?_eq_getElem hlt]
        show recsL 3 0 (l.take j ++ [l[j]]) = _
        rw [recsL_snoc, Nat.zero_add, List.length_take, Nat.min_eq_left (by omega)]
      clear hc
      generalize l[j] = x at *
      obtain ⟨a, r⟩ := x
      simp only at c0 c1 HN
      generalize recsL 3 0 (l.take j) = d at *
      subst hrl
      have e2 : (wr.alloc (.cells #[.int .i64 a, .string r] 48)).cell? ⟨w.heap.size, 2, none⟩ = some (.int .i64 3) := by
        have hz := lt_of_block HB.out.2
        have hx := (Below.heap_alloc wr (.cells #[.int .i64 a, .string r] 48) _ hz).trans HB.out.2
        simp [World.cell?, hx, HI.out.2.2]
      have hz := lt_of_block HB.out.2
      have hb1 : Below w.heap.size w (wr.alloc (.cells #[.int .i64 a, .string r] 48)) := HB.out.1.alloc HB.out.1.size _
      have hown1 := World.ownsRow.alloc hown (.cells #[.int .i64 a, .string r] 48)
      have hownC := World.ownsRow.alloc hown1 (.cells #[.int .i64 (3 + (d.length : Int)), .string r] 48)
      have hnew : ((wr.alloc (.cells #[.int .i64 a, .string r] 48)).alloc (.cells #[.int .i64 (3 + (d.length : Int)), .string r] 48)).heap[wr.heap.size + 1]? = some (.cells #[.int .i64 (3 + (d.length : Int)), .string r] 48 (0, 0)) := heap_alloc2_new wr _ _
      have hone : ∀ u ∈ ([.int .i64 (3 + (d.length : Int)), .string r] : List Value), u.oneCell' = true := by intro u hu; simp at hu; rcases hu with rfl | rfl <;> rfl
      have HO : Hid (WZ wr (w.heap.size + 1) (.slice ob d.length cap) d ∧ Below w.heap.size w ((wr.alloc (.cells #[.int .i64 a, .string r] 48)).alloc (.cells #[.int .i64 (3 + (d.length : Int)), .string r] 48)) ∧ ((wr.alloc (.cells #[.int .i64 a, .string r] 48)).alloc (.cells #[.int .i64 (3 + (d.length : Int)), .string r] 48)).heap[w.heap.size]? = some (.cells A 71 (0, 0))) := ⟨hown, hb1.alloc hb1.size _, (Below.heap_alloc _ _ _ (by simp; omega)).trans ((Below.heap_alloc _ _ _ hz).trans HB.out.2)⟩
      have hbs := HB.out.1.size
      clear hown hown1 hb1 HB HI
      go_wp2_with (first | (at_builtin; (refine wpList_append_own _ rfl _ _ 102 rfl (w.heap.size + 1) 48 i0 _ 2 24 Tryz.underlying102 hi0 hz0 hz1 hz2 rfl (by decide) (.slice ob d.length cap) d.length (d.flatMap Wt.cells) rfl hownC ⟨wr.heap.size + 1, 0, none⟩ 1 1 [.int .i64 (3 + (d.length : Int)), .string r] rfl rfl (World.news_of_block hnew) hone (by unfold maxLen; omega) (by omega) (by simp; omega) ?_)))
      intro v1 wB hown2 hgrow2 _
      have hTB : Below (w.heap.size + 1) ((wr.alloc (.cells #[.int .i64 a, .string r] 48)).alloc (.cells #[.int .i64 (3 + (d.length : Int)), .string r] 48)) wB := (Below.refl _ _).grown hgrow2 (by simp; omega) fun k hk => (World.ownsRow.lt HO.out.1 k hk).1
      have HF : Hid (WZ wB (w.heap.size + 1) v1 (recsL 3 0 (l.take (d.length + 1))) ∧ Below w.heap.size w wB ∧ wB.heap[w.heap.size]? = some (.cells A 71 (0, 0))) := by
        refine ⟨?_, HO.out.2.1.trans (hTB.mono (by omega)), (hTB.block w.heap.size (by omega)).trans HO.out.2.2⟩
        unfold WZ
        rw [HN.out, List.length_append, List.length_singleton, List.flatMap_append, List.flatMap_singleton]
        exact hown2
      clear hownC hnew hown2 hgrow2 hTB hone c0 c1 e2
      go_wp2
      go_roundw
      case rel => exact ⟨d.length + 1, by omega, by go_num, HF.out.1, HF.out.2.1, HF.out.2.2⟩
      case measure => simp [intOf]; omega
    · obtain rfl : j = l.length := by omega
      have j1 : ¬ ((l.length : Nat) : Int) < l.length := by omega
      have HF : Hid (WZ wr w.heap.size (.slice ob l.length cap) (recsL 3 0 l) ∧ Below w.heap.size w wr) := by
        rw [List.take_length] at hown
        refine ⟨?_, HB.out.1⟩
        exact WZ.mono hown (Nat.le_succ _)
      clear hown HB
      go_wp2
      go_ret
      exact ⟨_, rfl, HF.out.1, HF.out.2⟩
end Go.Proofs.YtbmjablmmlnieaaGreatDoor

namespace Go.Proofs.YtbmjablmmlnieaaGreatDoor
set_option maxRecDepth 20000
open Go.RowKit

theorem atS_size (raws : List ByteArray) (masks : List Int) (a : Int) : (atS raws masks a).size = 512 := by
  unfold atS
  split
  · next h =>
    unfold atB at h
    exact (of_decide_eq_true h).2.2.2
  · exact fillS_size 0 512
theorem rcdB_no {raws : List ByteArray} {masks : List Int} {log : Int} {n j : Nat} (hj : j < n) (h : ¬ atM raws masks (log + (j : Int)) = 0) : rcdB raws masks log n = false := by
  unfold rcdB
  rw [List.all_eq_false]
  exact ⟨j, List.mem_range.2 hj, by simpa using h⟩
theorem rcdB_yes {raws : List ByteArray} {masks : List Int} {log : Int} {n : Nat} (h : ∀ j, j < n → atM raws masks (log + (j : Int)) = 0) : rcdB raws masks log n = true := by
  unfold rcdB
  rw [List.all_eq_true]
  exact fun j hj => by simpa using h j (List.mem_range.1 hj)
theorem rcdL_succ (raws : List ByteArray) (masks : List Int) (log : Int) (n : Nat) : rcdL raws masks log (n + 1) = rcdL raws masks log n ++ [rcdW raws masks log n] := by simp [rcdL, List.range_succ]
theorem rcdL_length (raws : List ByteArray) (masks : List Int) (log : Int) (n : Nat) : (rcdL raws masks log n).length = n := by simp [rcdL]
structure RdR (w : World) (oa ob : Option Addr) (ca cb : Nat) (raws : List ByteArray) (masks : List Int) (A : Array Value) (j : Nat) (wr : World) : Prop where
  ok : ∀ i, i < j → atM raws masks (3 + (i : Int)) = 0
  below : Below w.heap.size w wr
  lay : wr.heap[w.heap.size]? = some (.cells A 71 (0, 0))
  img : wr.heap[w.heap.size + 1]? = some (.cells #[.slice oa raws.length ca, .slice ob masks.length cb] 60 (0, 0))
set_option maxHeartbeats 4000000 in
theorem recorded_any (n q s2 t : Nat) (oa ob : Option Addr) (ca cb : Nat) (raws : List ByteArray) (masks : List Int) (m : Nat) (hm : m ≤ 1000) (w : World) (h1 : List1 Value.string w (.slice oa raws.length ca) raws) (h2 : List1 (Value.int .i64) w (.slice ob masks.length cb) masks) :
    Calls Tryz.prog 82 #[.agg (layA n q s2 t), .agg #[.slice oa raws.length ca, .slice ob masks.length cb], .int .i64 (m : Int)] w fun e w' => ∃ v', e = .returned (.tuple #[v', .bool (rcdB raws masks 3 m)]) ∧ (rcdB raws masks 3 m = true → WZ w' w.heap.size v' (rcdL raws masks 3 m)) ∧ (rcdB raws masks 3 m = false → v' = .slice none 0 0) ∧ Below w.heap.size w w' := by
  obtain ⟨i0, hi0, hz0, hz1, hz2⟩ := info_parts jn_info_wt
  have H12 : Hid (List1 Value.string w (.slice oa raws.length ca) raws ∧ List1 (Value.int .i64) w (.slice ob masks.length cb) masks) := ⟨h1, h2⟩
  obtain ⟨A, hA⟩ : ∃ A, A = layA n q s2 t := ⟨_, rfl⟩
  have hA2 : A[2]? = some (.int .i64 3) := by rw [hA]; rfl
  rw [← hA]
  clear hA h1 h2
  have HI : Hid (RdR w oa ob ca cb raws masks A 0 ((w.alloc (.cells A 71)).alloc (.cells #[.slice oa raws.length ca, .slice ob masks.length cb] 60)) ∧ A[2]? = some (.int .i64 3)) := ⟨⟨fun i hi => absurd hi (Nat.not_lt_zero _), ((Below.refl _ _).alloc (Nat.le_refl _) _).alloc (by simp) _, heap_alloc2_old w _ _, heap_alloc2_new w _ _⟩, hA2⟩
  clear hA2
  obtain ⟨rl, hrl⟩ : ∃ rl, rl = raws.length := ⟨_, rfl⟩
  obtain ⟨ml, hml⟩ : ∃ ml, ml = masks.length := ⟨_, rfl⟩
  rw [← hrl, ← hml]
  have HL : Hid (rl = raws.length ∧ ml = masks.length) := ⟨hrl, hml⟩
  obtain ⟨Y, hY⟩ : ∃ Y, Y = rcdB raws masks 3 m := ⟨_, rfl⟩
  rw [← hY]
  have HY : Hid (Y = rcdB raws masks 3 m) := hY
  clear hrl hml hY
  go_enter Tryz.func82, Tryz.ntmps82
  go_wp2_with fail
  go_loopw [8, 15] (fun sv iv wr => ∃ (j : Nat), j ≤ m ∧ iv = .int .i64 (j : Int) ∧ WZ wr (w.heap.size + 2) sv (rcdL raws masks 3 j) ∧ Hid (RdR w oa ob ca cb raws masks A j wr)) (fun _ iv _ => m - (intOf iv).toNat)
  case atStart => exact ⟨0, Nat.zero_le _, rfl, WZ.nil _ _, by have := HI.out.1; rw [← HL.out.1, ← HL.out.2] at this; exact this⟩
  case round =>
    obtain ⟨j, hj, rfl, hown, HR⟩ := hrel
    have hrl := rcdL_length raws masks 3 j
    obtain ⟨oc, cap, rfl⟩ := hown.form
    rw [hrl] at hown ⊢
    have hz := lt_of_block HR.out.img
    by_cases hlt : j < m
    · have j1 : (j : Int) < m := by omega
      have d0 : wr.cell? ⟨w.heap.size, 2, none⟩ = some (.int .i64 3) := by simp [World.cell?, HR.out.lay, HI.out.2]
      have d1 : wr.cell? ⟨w.heap.size + 1, 0, none⟩ = some (.slice oa rl ca) := by rw [HL.out.1]; exact cell_of_row _ _ 0 _ _ _ HR.out.img
      have d2 : wr.cell? ⟨w.heap.size + 1, 1, none⟩ = some (.slice ob ml cb) := by rw [HL.out.2]; exact cell_of_row _ _ 1 _ _ _ HR.out.img
      have hat := at_any wr oa ob ca cb raws masks (3 + (j : Int)) (H12.out.1.below HR.out.below) (H12.out.2.below HR.out.below)
      rw [← HL.out.1, ← HL.out.2] at hat
      have hs5 := atS_size raws masks (3 + (j : Int))
      have HN : Hid (rcdL raws masks 3 (j + 1) = rcdL raws masks 3 j ++ [⟨(hdOf ((atS raws masks (3 + (j : Int))).extract 0 48)).v1, atS raws masks (3 + (j : Int))⟩]) := rcdL_succ raws masks 3 j
      have hh := fun w => bheadOf_any ((atS raws masks (3 + (j : Int))).extract 0 48) w
      generalize hx : (atS raws masks (3 + (j : Int))).extract 0 48 = x at *
      generalize atS raws masks (3 + (j : Int)) = r at *
      generalize hdOf x = h at *
      generalize headE x = E at *
      have h48 : (48 : Int) ≤ r.size := by omega
      clear hs5
      by_cases hM : atM raws masks (3 + (j : Int)) = 0
      · have HM : Hid (∀ i, i < j + 1 → atM raws masks (3 + (i : Int)) = 0) := fun i hi => by
          by_cases e : i = j
          · subst e; exact hM
          · exact HR.out.ok i (by omega)
        rw [hM] at hat
        generalize rcdL raws masks 3 j = d at *
        subst hrl
        go_wp2_with fail
        refine hat.mono ?_
        rintro e w1 ⟨rfl, hb1⟩
        have HR1 : Hid (Below w.heap.size w w1 ∧ w1.heap[w.heap.size]? = some (.cells A 71 (0, 0)) ∧ w1.heap[w.heap.size + 1]? = some (.cells #[.slice oa raws.length ca, .slice ob masks.length cb] 60 (0, 0)) ∧ WZ w1 (w.heap.size + 2) (.slice oc d.length cap) d) := ⟨HR.out.below.trans (hb1.mono HR.out.below.size), (hb1.block _ (by omega)).trans HR.out.lay, (hb1.block _ hz).trans HR.out.img, hown.below hb1⟩
        clear hat hb1 d0 d1 d2 hown HR
        go_wp2_with fail
        try rw [hx]
        refine (hh _).mono ?_
        rintro e w2 ⟨rfl, hb2⟩
        have hzz : w.heap.size + 1 < w1.heap.size := lt_of_block HR1.out.2.2.1
        have hb12 := hb2.size
        have hown2 := HR1.out.2.2.2.below hb2
        have hbw2 : Below w.heap.size w w2 := HR1.out.1.trans (hb2.mono HR1.out.1.size)
        have hl2 := (hb2.block _ (show w.heap.size < w1.heap.size by omega)).trans HR1.out.2.1
        have hi2 := (hb2.block _ hzz).trans HR1.out.2.2.1
        have hownC := World.ownsRow.alloc (World.ownsRow.alloc hown2 (.cells #[.int .i64 h.v0, .int .i64 h.v1, .int .i64 h.v2, .int .i64 h.v3, .int .i64 h.v4, .int .i64 h.v5, .int .i64 h.v6, .int .i64 h.v7] 79)) (.cells #[.int .i64 h.v1, .string r] 48)
        have hnew : ((w2.alloc (.cells #[.int .i64 h.v0, .int .i64 h.v1, .int .i64 h.v2, .int .i64 h.v3, .int .i64 h.v4, .int .i64 h.v5, .int .i64 h.v6, .int .i64 h.v7] 79)).alloc (.cells #[.int .i64 h.v1, .string r] 48)).heap[w2.heap.size + 1]? = some (.cells #[.int .i64 h.v1, .string r] 48 (0, 0)) := heap_alloc2_new w2 _ _
        have hone : ∀ u ∈ ([.int .i64 h.v1, .string r] : List Value), u.oneCell' = true := by intro u hu; simp at hu; rcases hu with rfl | rfl <;> rfl
        have HO : Hid (WZ w2 (w.heap.size + 2) (.slice oc d.length cap) d ∧ Below w.heap.size w ((w2.alloc (.cells #[.int .i64 h.v0, .int .i64 h.v1, .int .i64 h.v2, .int .i64 h.v3, .int .i64 h.v4, .int .i64 h.v5, .int .i64 h.v6, .int .i64 h.v7] 79)).alloc (.cells #[.int .i64 h.v1, .string r] 48)) ∧ ((w2.alloc (.cells #[.int .i64 h.v0, .int .i64 h.v1, .int .i64 h.v2, .int .i64 h.v3, .int .i64 h.v4, .int .i64 h.v5, .int .i64 h.v6, .int .i64 h.v7] 79)).alloc (.cells #[.int .i64 h.v1, .string r] 48)).heap[w.heap.size]? = some (.cells A 71 (0, 0)) ∧ ((w2.alloc (.cells #[.int .i64 h.v0, .int .i64 h.v1, .int .i64 h.v2, .int .i64 h.v3, .int .i64 h.v4, .int .i64 h.v5, .int .i64 h.v6, .int .i64 h.v7] 79)).alloc (.cells #[.int .i64 h.v1, .string r] 48)).heap[w.heap.size + 1]? = some (.cells #[.slice oa raws.length ca, .slice ob masks.length cb] 60 (0, 0))) :=
          ⟨hown2, (hbw2.alloc hbw2.size _).alloc (by have := hbw2.size; simp; omega) _, (Below.heap_alloc _ _ _ (by simp; omega)).trans ((Below.heap_alloc _ _ _ (by omega)).trans hl2), (Below.heap_alloc _ _ _ (by simp; omega)).trans ((Below.heap_alloc _ _ _ (by omega)).trans hi2)⟩
        clear hh hb2 hown2 hbw2 hl2 hi2 HR1 hx hM
        go_wp2_with (first | (at_builtin; (refine wpList_append_own _ rfl _ _ 45 rfl (w.heap.size + 2) 48 i0 _ 2 24 Tryz.underlying45 hi0 hz0 hz1 hz2 rfl (by decide) (.slice oc d.length cap) d.length (d.flatMap Wt.cells) rfl hownC ⟨w2.heap.size + 1, 0, none⟩ 1 1 [.int .i64 h.v1, .string r] rfl rfl (World.news_of_block hnew) hone (by unfold maxLen; omega) (by omega) (by simp; omega) ?_)))
        intro v1 wB hown3 hgrow3 _
        have hTB : Below (w.heap.size + 2) ((w2.alloc (.cells #[.int .i64 h.v0, .int .i64 h.v1, .int .i64 h.v2, .int .i64 h.v3, .int .i64 h.v4, .int .i64 h.v5, .int .i64 h.v6, .int .i64 h.v7] 79)).alloc (.cells #[.int .i64 h.v1, .string r] 48)) wB := (Below.refl _ _).grown hgrow3 (by simp; omega) fun k hk => (World.ownsRow.lt HO.out.1 k hk).1
        have HF : Hid (WZ wB (w.heap.size + 2) v1 (rcdL raws masks 3 (d.length + 1)) ∧ RdR w oa ob ca cb raws masks A (d.length + 1) wB) := by
          refine ⟨?_, HM.out, HO.out.2.1.trans (hTB.mono (by omega)), (hTB.block w.heap.size (by omega)).trans HO.out.2.2.1, (hTB.block (w.heap.size + 1) (by omega)).trans HO.out.2.2.2⟩
          unfold WZ
          rw [HN.out, List.length_append, List.length_singleton, List.flatMap_append, List.flatMap_singleton]
          exact hown3
        clear hownC hnew hown3 hgrow3 hTB hone
        go_wp2
        go_roundw
        case rel => exact ⟨d.length + 1, by omega, by go_num, HF.out.1, HF.out.2⟩
        case measure => simp [intOf]; omega
      · have HF : Hid (Y = false) := by show Y = false; rw [HY.out]; exact rcdB_no hlt hM
        generalize atM raws masks (3 + (j : Int)) = M at *
        have hM1 : (M != 0) = true := by simpa using hM
        clear hown hh hM
        go_wp2_with fail
        refine hat.mono ?_
        rintro e w1 ⟨rfl, hb1⟩
        have HB : Hid (Below w.heap.size w w1) := HR.out.below.trans (hb1.mono HR.out.below.size)
        clear hat hb1 d0 d1 d2
        go_wp2
        go_ret2
        exact ⟨_, by rw [HF.out]; rfl, (fun h => by rw [HF.out] at h; cases h), fun _ => rfl, HB.out⟩
    · obtain rfl : j = m := by omega
      have j1 : ¬ (j : Int) < j := by omega
      have HF : Hid (Y = true ∧ WZ wr w.heap.size (.slice oc j cap) (rcdL raws masks 3 j) ∧ Below w.heap.size w wr) := ⟨HY.out.trans (rcdB_yes HR.out.ok), WZ.mono hown (by omega), HR.out.below⟩
      clear hown HR
      go_wp2
      go_ret2
      exact ⟨_, by rw [HF.out.1]; rfl, fun _ => HF.out.2.1, (fun h => by rw [HF.out.1] at h; cases h), HF.out.2.2⟩
end Go.Proofs.YtbmjablmmlnieaaGreatDoor
