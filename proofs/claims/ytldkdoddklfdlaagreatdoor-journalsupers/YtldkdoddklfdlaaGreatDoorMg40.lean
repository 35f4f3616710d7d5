/- journal's records and joined. · journal's Format and Anew at a device and a vault that lie apart. · The laws' laid: a device and the document's, a real vault and the document's. · journal's promiseIn: what a reading promises. · journal's recorded: so many of the journal's records. -/
import Derived.Test.YtldkdoddklfdlaaGreatDoorMg12
import Derived.Test.YtldkdoddklfdlaaGreatDoorMg39
import Derived.Maps.AppendAt
import Derived.Deep.AppendLies
import Derived.Deep.RegionHeld3
import Derived.Test.YtldkdoddklfdlaaGreatDoorMg15
import Derived.Test.YtldkdoddklfdlaaGreatDoorMg38
import Derived.Test.YtldkdoddklfdlaaGreatDoorMg10
namespace Go.Proofs.YtldkdoddklfdlaaGreatDoor
set_option maxRecDepth 20000
open Go.RowKit

theorem flatW_at : ∀ (l : List Wt) (i : Nat) (x : Wt), l[i]? = some x → ∀ c, c < 2 → (l.flatMap Wt.cells)[i * 2 + c]? = x.cells[c]?
  | [], i, x, h, _, _ => by simp at h
  | y :: l, 0, x, h, c, hc => by
    obtain rfl : y = x := by simpa using h
    rw [List.flatMap_cons, List.getElem?_append_left (by show 0 * 2 + c < 2; omega), Nat.zero_mul, Nat.zero_add]
  | y :: l, i + 1, x, h, c, hc => by
    have h3 : y.cells.length = 2 := rfl
    rw [List.flatMap_cons, List.getElem?_append_right (by rw [h3]; omega), h3, show (i + 1) * 2 + c - 2 = i * 2 + c by omega]
    exact flatW_at l i x (by simpa using h) c hc
/-- A list of writes that one owns. -/
def WZ (w : World) (base : Nat) (v : Value) (l : List Wt) : Prop := w.ownsRow base 27 2 v l.length (l.flatMap Wt.cells)
theorem WZ.nil (w : World) (base : Nat) : WZ w base (.slice none 0 0) [] := World.ownsRow_nil _ _ _ _
theorem WZ.mono {w : World} {base b2 : Nat} {v : Value} {l : List Wt} (h : WZ w base v l) (hb : b2 ≤ base) : WZ w b2 v l := by
  refine ⟨h.1, ?_⟩
  rcases h.2 with h0 | ⟨g, cap, cur, e, h0, r⟩
  · exact .inl h0
  · exact .inr ⟨g, cap, cur, e, Nat.le_trans hb h0, r⟩
theorem WZ.form {w : World} {base : Nat} {v : Value} {l : List Wt} (h : WZ w base v l) : ∃ oa cap, v = .slice oa l.length cap := by
  rcases h.2 with ⟨e, h0⟩ | ⟨g, cap, cur, e, _⟩
  · exact ⟨none, 0, by rw [e, h0]⟩
  · exact ⟨_, _, e⟩
theorem WZ.below {w w' : World} {base : Nat} {v : Value} {l : List Wt} (h : WZ w base v l) (hb : Below w.heap.size w w') : WZ w' base v l := by
  refine ⟨h.1, ?_⟩
  rcases h.2 with h0 | ⟨g, cap, cur, e, h0, hg, h1, h2, h3, h4⟩
  · exact .inl h0
  · exact .inr ⟨g, cap, cur, e, h0, (hb.block g (lt_of_block hg)).trans hg, h1, h2, h3, h4⟩
theorem WZ.wts {w : World} {base : Nat} {v : Value} {l : List Wt} (h : WZ w base v l) : Wts w v l ∧ ∀ g o len cap, v = .slice (some ⟨g, o, none⟩) len cap → base ≤ g ∧ g < w.heap.size := by
  have hh := h
  unfold WZ at hh
  rcases h.2 with ⟨e, h0⟩ | ⟨g, cap, cur, e, h0, hg, h1, h2, h3, h4⟩
  · exact ⟨.inl ⟨none, 0, e, List.eq_nil_of_length_eq_zero h0⟩, fun g o len cap e' => by rw [e] at e'; cases e'⟩
  · subst e
    refine ⟨.inr ⟨g, 0, cap, rfl, lt_of_block hg, fun i x hx => ?_⟩, fun g' o len cap' e' => ?_⟩
    · have hi := (List.getElem?_eq_some_iff.1 hx).1
      have k : ∀ c, c < 2 → w.cell? ⟨g, 0 + i * 2 + c, none⟩ = x.cells[c]? := fun c hc => by
        have := hh.cellAt (i * 2 + c) (by omega)
        rw [Nat.zero_add, this, flatW_at l i x hx c hc]
      exact ⟨k 0 (by omega), k 1 (by omega)⟩
    · simp only [Value.slice.injEq, Option.some.injEq, Addr.mk.injEq] at e'
      obtain ⟨⟨rfl, _⟩, _⟩ := e'
      exact ⟨h0, lt_of_block hg⟩
theorem jn_info_wt : (Tryz.prog.info? 27).map (fun i => (i.zero, i.size, i.bytes)) = some (some (.agg #[.int .i64 0, .string ⟨#[]⟩]), 2, 24) := by kernel_rfl
/-- What a round of joined knows. -/
structure JoR (w : World) (l : List Wt) (j : Nat) (wr : World) : Prop where
  bl : Bl w.heap.size w.heap.size (joinB (l.take j)).data.toList wr
  below : Below w.heap.size w wr
theorem joinB_size (l : List Wt) : (joinB l).data.toList.length = (joinB l).size := by simp
theorem joinB_snoc (l : List Wt) (x : Wt) : (joinB (l ++ [x])).data.toList = (joinB l).data.toList ++ x.raw.data.toList := by
  induction l with
  | nil => simp [joinB]
  | cons y l ih => simp [joinB, ih]
theorem joinB_le : ∀ l : List Wt, (∀ x ∈ l, x.raw.size ≤ 512) → (joinB l).data.toList.length ≤ 512 * l.length
  | [], _ => by simp [joinB]
  | x :: l, h => by
    have h1 := joinB_le l fun y hy => h y (List.mem_cons_of_mem _ hy)
    have h2 := h x (List.mem_cons_self ..)
    have h3 : (joinB (x :: l)).data.toList = x.raw.data.toList ++ (joinB l).data.toList := by simp [joinB]
    rw [h3, List.length_append, List.length_cons]
    have h4 : x.raw.data.toList.length = x.raw.size := by simp
    omega
set_option maxHeartbeats 4000000 in
theorem joined_any (v : Value) (l : List Wt) (w : World) (hv : Wts w v l) (hll : l.length ≤ 1000) (hsz : ∀ x ∈ l, x.raw.size ≤ 512) :
    Calls Tryz.prog 88 #[v] w fun e w' => e = .returned (.string (joinB l)) ∧ Below w.heap.size w w' := by
  obtain ⟨oa, ca, rfl⟩ := hv.form
  have HV : Hid (Wts w (.slice oa l.length ca) l ∧ ∀ x ∈ l, x.raw.size ≤ 512) := ⟨hv, hsz⟩
  have HB0 : Hid (Bl w.heap.size w.heap.size [] (w.alloc (.cells #[.pointer none, .slice none 0 0] 139))) :=
    (show Lib.IsBuilder 139 5 w.heap.size w.heap.size (Lib.byteCells []) (w.alloc (.cells #[.pointer none, .slice none 0 0] 139)) from .inl ⟨Nat.le_refl _, _, heap_alloc_new w _, World.ownsRow_nil _ _ _ _, fun h => by cases h⟩)
  clear hv hsz
  go_enter Tryz.func88, Tryz.ntmps88
  go_wp2_with fail
  go_loopw [8] (fun iv wr => ∃ (j : Nat), j ≤ l.length ∧ iv = .int .i64 (j : Int) ∧ Hid (JoR w l j wr)) (fun iv _ => l.length - (intOf iv).toNat)
  case atStart => exact ⟨0, Nat.zero_le _, rfl, HB0.out, (Below.refl _ _).alloc (Nat.le_refl _) _⟩
  case round =>
    clear HB0
    obtain ⟨j, hj, rfl, HR⟩ := hrel
    by_cases hlt : j < l.length
    · have j1 : (j : Int) < l.length := by omega
      obtain ⟨g, o, rfl, hg, hc⟩ := HV.out.1.at hlt
      have hgw := Nat.lt_of_lt_of_le hg HR.out.below.size
      obtain ⟨c0, c1⟩ := hc.keep (HR.out.below.block g hg)
      have hT : l.take (j + 1) = l.take j ++ [l[j]] := by rw [List.take_add_one, List.getElem?_eq_getElem hlt]; rfl
      have HT : Hid ((joinB (l.take (j + 1))).data.toList = (joinB (l.take j)).data.toList ++ l[j].raw.data.toList) := by
        show _ = _
        rw [hT, joinB_snoc]
      have hs1 := HV.out.2 _ (List.getElem_mem hlt)
      have hs2 : (joinB (l.take j)).data.toList.length ≤ 512 * j := by
        have := joinB_le (l.take j) fun x hx => HV.out.2 x (List.mem_of_mem_take hx)
        rw [List.length_take] at this
        have : min j l.length ≤ j := Nat.min_le_left _ _
        omega
      clear hc hT
      generalize l[j] = x at *
      obtain ⟨a, r⟩ := x
      simp only at c0 c1 hs1 HT
      have hbA : Below wr.heap.size wr (wr.alloc (.cells #[.int .i64 a, .string r] 27)) := (Below.refl _ _).alloc (Nat.le_refl _) _
      have hwc := ptWrite_any w.heap.size w.heap.size _ r _ (Bl_keep HR.out.bl hbA) (by omega) (Nat.le_trans HR.out.below.size hbA.size)
      have HB1 : Hid (Below w.heap.size w (wr.alloc (.cells #[.int .i64 a, .string r] 27))) := HR.out.below.trans (hbA.mono HR.out.below.size)
      clear hbA
      go_wp2_with fail
      refine hwc.mono ?_
      rintro e w3 ⟨rfl, hB3, hb3⟩
      have HF : Hid (JoR w l (j + 1) w3) := ⟨by rw [HT.out]; exact hB3, HB1.out.trans hb3⟩
      clear hwc hB3 hb3
      go_wp2
      go_roundw
      case rel => exact ⟨j + 1, by omega, by go_num, HF⟩
      case measure => simp [intOf]; omega
    · obtain rfl : j = l.length := by omega
      have j1 : ¬ ((l.length : Nat) : Int) < l.length := by omega
      have hs := ctString_any w.heap.size w.heap.size _ wr HR.out.bl HR.out.below.size
      rw [List.take_length] at hs
      have HX : Hid ((⟨(joinB l).data.toList.toArray⟩ : ByteArray) = joinB l) := by show _ = _; simp
      rw [HX.out] at hs
      go_wp2_with fail
      refine hs.mono ?_
      rintro e w2 ⟨rfl, hb2⟩
      have HL2 : Hid (Below w.heap.size w w2) := HR.out.below.trans hb2
      clear hs hb2
      go_wp2
      go_ret
      exact ⟨rfl, HL2.out⟩
theorem recsL_length (log : Int) : ∀ (l : List Wt) (i : Nat), (recsL log i l).length = l.length
  | [], _ => rfl
  | x :: l, i => by simp [recsL, recsL_length log l (i + 1)]
theorem recsL_snoc (log : Int) (x : Wt) : ∀ (l : List Wt) (i : Nat), recsL log i (l ++ [x]) = recsL log i l ++ [⟨log + ((i + l.length : Nat) : Int), x.raw⟩]
  | [], i => rfl
  | y :: l, i => by
    rw [List.cons_append, recsL, recsL_snoc log x l (i + 1), recsL, List.length_cons, show i + 1 + l.length = i + (l.length + 1) by omega]
    rfl
set_option maxHeartbeats 4000000 in
theorem records_any (n q s2 t : Nat) (v : Value) (l : List Wt) (w : World) (hv : Wts w v l) (hll : l.length ≤ 1000) :
    Calls Tryz.prog 51 #[.agg (layA n q s2 t), v] w fun e w' => ∃ v', e = .returned v' ∧ WZ w' w.heap.size v' (recsL 3 0 l) ∧ Below w.heap.size w w' := by
  obtain ⟨oa, ca, rfl⟩ := hv.form
  obtain ⟨i0, hi0, hz0, hz1, hz2⟩ := info_parts jn_info_wt
  have HV : Hid (Wts w (.slice oa l.length ca) l) := hv
  have hr0 : (w.alloc (.cells (layA n q s2 t) 103)).heap[w.heap.size]? = some (.cells (layA n q s2 t) 103 (0, 0)) := heap_alloc_new w _
  obtain ⟨A, hA⟩ : ∃ A, A = layA n q s2 t := ⟨_, rfl⟩
  have hA2 : A[2]? = some (.int .i64 3) := by rw [hA]; rfl
  rw [← hA] at hr0 ⊢
  clear hA hv
  have HI : Hid ((w.alloc (.cells A 103)).heap[w.heap.size]? = some (.cells A 103 (0, 0)) ∧ Below w.heap.size w (w.alloc (.cells A 103)) ∧ A[2]? = some (.int .i64 3)) := ⟨hr0, (Below.refl _ _).alloc (Nat.le_refl _) _, hA2⟩
  clear hr0 hA2
  go_enter Tryz.func51, Tryz.ntmps51
  go_wp2_with fail
  go_loopw [5, 10] (fun sv iv wr => ∃ (j : Nat), j ≤ l.length ∧ iv = .int .i64 (j : Int) ∧ WZ wr (w.heap.size + 1) sv (recsL 3 0 (l.take j)) ∧ Hid (Below w.heap.size w wr ∧ wr.heap[w.heap.size]? = some (.cells A 103 (0, 0)))) (fun _ iv _ => l.length - (intOf iv).toNat)
  case atStart => exact ⟨0, Nat.zero_le _, rfl, WZ.nil _ _, HI.out.2.1, HI.out.1⟩
  case round =>
    obtain ⟨j, hj, rfl, hown, HB⟩ := hrel
    have hrl : (recsL 3 0 (l.take j)).length = j := by rw [recsL_length, List.length_take]; omega
    obtain ⟨ob, cap, rfl⟩ := hown.form
    rw [hrl] at hown ⊢
    by_cases hlt : j < l.length
    · have j1 : (j : Int) < l.length := by omega
      obtain ⟨g, o, rfl, hg, hc⟩ := HV.out.at hlt
      have hgw := Nat.lt_of_lt_of_le hg HB.out.1.size
      obtain ⟨c0, c1⟩ := hc.keep (HB.out.1.block g hg)
      have HN : Hid (recsL 3 0 (l.take (j + 1)) = recsL 3 0 (l.take j) ++ [⟨3 + (j : Int), l[j].raw⟩]) := by
        show _ = _
        rw [List.take_add_one, List.getElem?_eq_getElem hlt]
        show recsL 3 0 (l.take j ++ [l[j]]) = _
        rw [recsL_snoc, Nat.zero_add, List.length_take, Nat.min_eq_left (by omega)]
      clear hc
      generalize l[j] = x at *
      obtain ⟨a, r⟩ := x
      simp only at c0 c1 HN
      generalize recsL 3 0 (l.take j) = d at *
      subst hrl
      have e2 : (wr.alloc (.cells #[.int .i64 a, .string r] 27)).cell? ⟨w.heap.size, 2, none⟩ = some (.int .i64 3) := by
        have hz := lt_of_block HB.out.2
        have hx := (Below.heap_alloc wr (.cells #[.int .i64 a, .string r] 27) _ hz).trans HB.out.2
        simp [World.cell?, hx, HI.out.2.2]
      have hz := lt_of_block HB.out.2
      have hb1 : Below w.heap.size w (wr.alloc (.cells #[.int .i64 a, .string r] 27)) := HB.out.1.alloc HB.out.1.size _
      have hown1 := World.ownsRow.alloc hown (.cells #[.int .i64 a, .string r] 27)
      have hownC := World.ownsRow.alloc hown1 (.cells #[.int .i64 (3 + (d.length : Int)), .string r] 27)
      have hnew : ((wr.alloc (.cells #[.int .i64 a, .string r] 27)).alloc (.cells #[.int .i64 (3 + (d.length : Int)), .string r] 27)).heap[wr.heap.size + 1]? = some (.cells #[.int .i64 (3 + (d.length : Int)), .string r] 27 (0, 0)) := heap_alloc2_new wr _ _
      have hone : ∀ u ∈ ([.int .i64 (3 + (d.length : Int)), .string r] : List Value), u.oneCell' = true := by intro u hu; simp at hu; rcases hu with rfl | rfl <;> rfl
      have HO : Hid (WZ wr (w.heap.size + 1) (.slice ob d.length cap) d ∧ Below w.heap.size w ((wr.alloc (.cells #[.int .i64 a, .string r] 27)).alloc (.cells #[.int .i64 (3 + (d.length : Int)), .string r] 27)) ∧ ((wr.alloc (.cells #[.int .i64 a, .string r] 27)).alloc (.cells #[.int .i64 (3 + (d.length : Int)), .string r] 27)).heap[w.heap.size]? = some (.cells A 103 (0, 0))) := ⟨hown, hb1.alloc hb1.size _, (Below.heap_alloc _ _ _ (by simp; omega)).trans ((Below.heap_alloc _ _ _ hz).trans HB.out.2)⟩
      have hbs := HB.out.1.size
      clear hown hown1 hb1 HB HI
      go_wp2_with (first | (at_builtin; (refine wpList_append_own _ rfl _ _ 116 rfl (w.heap.size + 1) 27 i0 _ 2 24 Tryz.underlying116 hi0 hz0 hz1 hz2 rfl (by decide) (.slice ob d.length cap) d.length (d.flatMap Wt.cells) rfl hownC ⟨wr.heap.size + 1, 0, none⟩ 1 1 [.int .i64 (3 + (d.length : Int)), .string r] rfl rfl (World.news_of_block hnew) hone (by unfold maxLen; omega) (by omega) (by simp; omega) ?_)))
      intro v1 wB hown2 hgrow2 _
      have hTB : Below (w.heap.size + 1) ((wr.alloc (.cells #[.int .i64 a, .string r] 27)).alloc (.cells #[.int .i64 (3 + (d.length : Int)), .string r] 27)) wB := (Below.refl _ _).grown hgrow2 (by simp; omega) fun k hk => (World.ownsRow.lt HO.out.1 k hk).1
      have HF : Hid (WZ wB (w.heap.size + 1) v1 (recsL 3 0 (l.take (d.length + 1))) ∧ Below w.heap.size w wB ∧ wB.heap[w.heap.size]? = some (.cells A 103 (0, 0))) := by
        refine ⟨?_, HO.out.2.1.trans (hTB.mono (by omega)), (hTB.block w.heap.size (by omega)).trans HO.out.2.2⟩
        unfold WZ
        rw [HN.out, List.length_append, List.length_singleton, List.flatMap_append, List.flatMap_singleton]
        exact hown2
      clear hownC hnew hown2 hgrow2 hTB hone c0 c1 e2
      go_wp2
      go_roundw
      case rel => exact ⟨d.length + 1, by omega, by go_num, HF.out.1, HF.out.2.1, HF.out.2.2⟩
      case measure => simp [intOf]; omega
    · obtain rfl : j = l.length := by omega
      have j1 : ¬ ((l.length : Nat) : Int) < l.length := by omega
      have HF : Hid (WZ wr w.heap.size (.slice ob l.length cap) (recsL 3 0 l) ∧ Below w.heap.size w wr) := by
        rw [List.take_length] at hown
        refine ⟨?_, HB.out.1⟩
        exact WZ.mono hown (Nat.le_succ _)
      clear hown HB
      go_wp2
      go_ret
      exact ⟨_, rfl, HF.out.1, HF.out.2⟩
end Go.Proofs.YtldkdoddklfdlaaGreatDoor

namespace Go.Proofs.YtldkdoddklfdlaaGreatDoor
set_option maxRecDepth 20000
open Go.RowKit

theorem bel_alloc (w : World) (o : Obj) : Below w.heap.size w (w.alloc o) := (Below.refl _ _).alloc (Nat.le_refl _) _
theorem wts_new1 (w : World) (g : Nat) (a : Int) (r : ByteArray) (t cap : Nat) (hg : g = w.heap.size) : Wts (w.alloc (.cells #[.int .i64 a, .string r] t)) (.slice (some ⟨g, 0, none⟩) 1 cap) [⟨a, r⟩] := by
  subst hg
  refine .inr ⟨w.heap.size, 0, cap, rfl, by simp, fun i x hx => ?_⟩
  have hi : i = 0 := by have := (List.getElem?_eq_some_iff.1 hx).1; simp at this; omega
  subst hi
  cases hx
  have g := heap_alloc_new w (.cells #[.int .i64 a, .string r] t)
  exact ⟨cell_of_row _ _ 0 _ _ _ g, cell_of_row _ _ 1 _ _ _ g⟩
theorem wts_new2 (w : World) (g : Nat) (a b : Int) (r s : ByteArray) (t cap : Nat) (hg : g = w.heap.size) : Wts (w.alloc (.cells #[.int .i64 a, .string r, .int .i64 b, .string s] t)) (.slice (some ⟨g, 0, none⟩) 2 cap) [⟨a, r⟩, ⟨b, s⟩] := by
  subst hg
  refine .inr ⟨w.heap.size, 0, cap, rfl, by simp, fun i x hx => ?_⟩
  have hi : i = 0 ∨ i = 1 := by have := (List.getElem?_eq_some_iff.1 hx).1; simp at this; omega
  have g := heap_alloc_new w (.cells #[.int .i64 a, .string r, .int .i64 b, .string s] t)
  rcases hi with rfl | rfl
  · cases hx
    exact ⟨cell_of_row _ _ 0 _ _ _ g, cell_of_row _ _ 1 _ _ _ g⟩
  · cases hx
    exact ⟨cell_of_row _ _ 2 _ _ _ g, cell_of_row _ _ 3 _ _ _ g⟩
/-- A list of writes that lies outside of a footprint. -/
def WtO (F : Nat → Prop) (w : World) (v : Value) (l : List Wt) : Prop := Wts w v l ∧ (l ≠ [] → Wts.Out v F)
theorem WtO.below {F : Nat → Prop} {w w' : World} {v : Value} {l : List Wt} (h : WtO F w v l) (hb : Below w.heap.size w w') : WtO F w' v l := ⟨h.1.below hb, h.2⟩
theorem out_of {F : Nat → Prop} {g o len cap : Nat} (h : ¬ F g) : Wts.Out (.slice (some ⟨g, o, none⟩) len cap) F := fun g' _ _ _ e => by
  simp only [Value.slice.injEq, Option.some.injEq, Addr.mk.injEq] at e
  obtain ⟨⟨rfl, _⟩, _⟩ := e
  exact h
theorem ba {a w : World} {o : Obj} (h : Below a.heap.size a w) : Below a.heap.size a (w.alloc o) := h.alloc h.size o
theorem bd {a w : World} {B : Nat} (h : Below B a w) : Below B a w.drew := h.drew
theorem Wts.drew {w : World} {v : Value} {l : List Wt} (h : Wts w v l) : Wts w.drew v l := by
  rcases h with h | ⟨g, o, cap, e, hg, hx⟩
  · exact .inl h
  · exact .inr ⟨g, o, cap, e, hg, fun i x hi => ⟨(hx i x hi).c0, (hx i x hi).c1⟩⟩
theorem Wts.al {w : World} {o : Obj} {v : Value} {l : List Wt} (h : Wts w v l) : Wts (w.alloc o) v l := h.below (bel_alloc w o)
theorem ErrT.bel {w w' : World} (h : ErrT w) (hb : Below w.heap.size w w') : ErrT w' := h.below hb (lt_of_cell_ h)
theorem duo_fin {K : VK} {F : Nat → Prop} {B : Nat} {P : PS} {S : K.σ} {w w3 Wc wF : World} (hT : Touch F w w3) (hlt : ∀ k, F k → k < w.heap.size) (hb : Below w3.heap.size w3 Wc) (hd : Duo K wF (grow F Wc wF) B P S) (ht : Touch F Wc wF) : Duo K wF (grow F w wF) B P S ∧ Touch F w wF := by
  have h1 : Touch F w Wc := hT.trans (Touch.of_below hb)
  have h2 : Touch F w wF := h1.trans (ht.mono fun _ h => .inl h)
  refine ⟨hd.mono (fun k hk => ?_) (fun k hk => ?_), h2⟩
  · rcases hk with hk | hk
    · exact .inl hk
    · exact .inr ⟨Nat.le_trans h1.size hk.1, hk.2⟩
  · rcases hk with hk | hk
    · exact Nat.lt_of_lt_of_le (hlt k hk) h2.size
    · exact hk.2
theorem duo_step {K : VK} (HK : VKOk K) {F : Nat → Prop} {B : Nat} {P : PS} {S : K.σ} {w wF wG : World} (h : Duo K wF (grow F w wF) B P S ∧ Touch F w wF) (hb : Below wF.heap.size wF wG) : Duo K wG (grow F w wG) B P S ∧ Touch F w wG := by
  have ht : Touch F w wG := h.2.trans (Touch.of_below hb)
  refine ⟨(h.1.below HK hb).mono (fun k hk => ?_) (fun k hk => ?_), ht⟩
  · rcases hk with hk | hk
    · exact .inl hk
    · exact .inr ⟨hk.1, Nat.lt_of_lt_of_le hk.2 hb.size⟩
  · rcases hk with hk | hk
    · have := h.1.lt k (.inl hk); have := hb.size; omega
    · exact hk.2
theorem keep_block {W3 Wc wF : World} {F : Nat → Prop} {g : Nat} (hb : Below W3.heap.size W3 Wc) (ht : Touch F Wc wF) (hg : g < W3.heap.size) (hF : ¬ F g) : wF.heap[g]? = W3.heap[g]? := (ht.2 g (Nat.lt_of_lt_of_le hg hb.size) hF).trans (hb.block g hg)
theorem keep_cells {W3 Wc wF : World} {F : Nat → Prop} {g : Nat} (hb : Below W3.heap.size W3 Wc) (ht : Touch F Wc wF) (hg : g < W3.heap.size) (hF : ¬ F g) (i : Nat) (v : Value) (h : Wc.cell? ⟨g, i, none⟩ = some v) : wF.cell? ⟨g, i, none⟩ = some v :=
  (World.cell?_of_block (a := ⟨g, i, none⟩) (ht.2 g (Nat.lt_of_lt_of_le hg hb.size) hF)).trans h
/-- follow at one step and at more, the steps' slices just laid. -/
theorem follow_1 (K : VK) (HK : VKOk K) (F : Nat → Prop) (B : Nat) (P : PS) (S : K.σ) (W : World) (v1 : Value) (l1 : List Wt) (g : Nat) (t cap : Nat) (hgW : g = W.heap.size) (h : Duo K W F B P S) (hw : P.wait.length + 8 * total [l1] ≤ 900000) (hg : ErrT W) (hF : ¬ F 3) (h1 : WtO F W v1 l1) :
    Calls Tryz.prog 44 #[.pointer (some ⟨B, 0, none⟩), .slice (some ⟨g, 0, none⟩) 1 cap] (W.alloc (.cells #[v1] t)) fun e w' => (∃ v, e = .returned v ∧ RetV (folE [l1] P) v) ∧ Duo K w' (grow F (W.alloc (.cells #[v1] t)) w') B (folP [l1] P) S ∧ Touch F (W.alloc (.cells #[v1] t)) w' := by
  subst hgW
  have hb := bel_alloc W (.cells #[v1] t)
  refine (h.below HK hb).plateC HK (E := fun e => ∃ v, e = .returned v ∧ RetV (folE [l1] P) v) fun F1 hp hin => ?_
  refine follow_any W.heap.size 0 cap [l1] B F1 P _ ⟨by simp, fun hk => by have := h.lt _ (hin _ hk); omega, fun i l hl => ?_⟩ (by simp) hp hw (hg.touch (Touch.of_below hb (F := F)) hF) (fun hk => hF (hin _ hk))
  have hi : i = 0 := by have := (List.getElem?_eq_some_iff.1 hl).1; simp at this; omega
  subst hi
  cases hl
  exact ⟨v1, cell_of_row _ _ 0 _ _ _ (heap_alloc_new W _), (h1.below hb).1, fun hn g o len cap e hk => h1.2 hn g o len cap e (hin g hk)⟩
theorem follow_2 (K : VK) (HK : VKOk K) (F : Nat → Prop) (B : Nat) (P : PS) (S : K.σ) (W : World) (v1 v2 : Value) (l1 l2 : List Wt) (g : Nat) (t cap : Nat) (hgW : g = W.heap.size) (h : Duo K W F B P S) (hw : P.wait.length + 8 * total [l1, l2] ≤ 900000) (hg : ErrT W) (hF : ¬ F 3) (h1 : WtO F W v1 l1) (h2 : WtO F W v2 l2) :
    Calls Tryz.prog 44 #[.pointer (some ⟨B, 0, none⟩), .slice (some ⟨g, 0, none⟩) 2 cap] (W.alloc (.cells #[v1, v2] t)) fun e w' => (∃ v, e = .returned v ∧ RetV (folE [l1, l2] P) v) ∧ Duo K w' (grow F (W.alloc (.cells #[v1, v2] t)) w') B (folP [l1, l2] P) S ∧ Touch F (W.alloc (.cells #[v1, v2] t)) w' := by
  subst hgW
  have hb := bel_alloc W (.cells #[v1, v2] t)
  refine (h.below HK hb).plateC HK (E := fun e => ∃ v, e = .returned v ∧ RetV (folE [l1, l2] P) v) fun F1 hp hin => ?_
  refine follow_any W.heap.size 0 cap [l1, l2] B F1 P _ ⟨by simp, fun hk => by have := h.lt _ (hin _ hk); omega, fun i l hl => ?_⟩ (by simp) hp hw (hg.touch (Touch.of_below hb (F := F)) hF) (fun hk => hF (hin _ hk))
  have hi : i = 0 ∨ i = 1 := by have := (List.getElem?_eq_some_iff.1 hl).1; simp at this; omega
  rcases hi with rfl | rfl
  · cases hl
    exact ⟨v1, cell_of_row _ _ 0 _ _ _ (heap_alloc_new W _), (h1.below hb).1, fun hn g o len cap e hk => h1.2 hn g o len cap e (hin g hk)⟩
  · cases hl
    exact ⟨v2, cell_of_row _ _ 1 _ _ _ (heap_alloc_new W _), (h2.below hb).1, fun hn g o len cap e hk => h2.2 hn g o len cap e (hin g hk)⟩
theorem follow_4 (K : VK) (HK : VKOk K) (F : Nat → Prop) (B : Nat) (P : PS) (S : K.σ) (W : World) (v1 v2 v3 v4 : Value) (l1 l2 l3 l4 : List Wt) (g : Nat) (t cap : Nat) (hgW : g = W.heap.size) (h : Duo K W F B P S) (hw : P.wait.length + 8 * total [l1, l2, l3, l4] ≤ 900000) (hg : ErrT W) (hF : ¬ F 3) (h1 : WtO F W v1 l1) (h2 : WtO F W v2 l2) (h3 : WtO F W v3 l3) (h4 : WtO F W v4 l4) :
    Calls Tryz.prog 44 #[.pointer (some ⟨B, 0, none⟩), .slice (some ⟨g, 0, none⟩) 4 cap] (W.alloc (.cells #[v1, v2, v3, v4] t)) fun e w' => (∃ v, e = .returned v ∧ RetV (folE [l1, l2, l3, l4] P) v) ∧ Duo K w' (grow F (W.alloc (.cells #[v1, v2, v3, v4] t)) w') B (folP [l1, l2, l3, l4] P) S ∧ Touch F (W.alloc (.cells #[v1, v2, v3, v4] t)) w' := by
  subst hgW
  have hb := bel_alloc W (.cells #[v1, v2, v3, v4] t)
  refine (h.below HK hb).plateC HK (E := fun e => ∃ v, e = .returned v ∧ RetV (folE [l1, l2, l3, l4] P) v) fun F1 hp hin => ?_
  refine follow_any W.heap.size 0 cap [l1, l2, l3, l4] B F1 P _ ⟨by simp, fun hk => by have := h.lt _ (hin _ hk); omega, fun i l hl => ?_⟩ (by simp) hp hw (hg.touch (Touch.of_below hb (F := F)) hF) (fun hk => hF (hin _ hk))
  have hi : i = 0 ∨ i = 1 ∨ i = 2 ∨ i = 3 := by have := (List.getElem?_eq_some_iff.1 hl).1; simp at this; omega
  rcases hi with rfl | rfl | rfl | rfl
  · cases hl
    exact ⟨v1, cell_of_row _ _ 0 _ _ _ (heap_alloc_new W _), (h1.below hb).1, fun hn g o len cap e hk => h1.2 hn g o len cap e (hin g hk)⟩
  · cases hl
    exact ⟨v2, cell_of_row _ _ 1 _ _ _ (heap_alloc_new W _), (h2.below hb).1, fun hn g o len cap e hk => h2.2 hn g o len cap e (hin g hk)⟩
  · cases hl
    exact ⟨v3, cell_of_row _ _ 2 _ _ _ (heap_alloc_new W _), (h3.below hb).1, fun hn g o len cap e hk => h3.2 hn g o len cap e (hin g hk)⟩
  · cases hl
    exact ⟨v4, cell_of_row _ _ 3 _ _ _ (heap_alloc_new W _), (h4.below hb).1, fun hn g o len cap e hk => h4.2 hn g o len cap e (hin g hk)⟩
end Go.Proofs.YtldkdoddklfdlaaGreatDoor

namespace Go.Proofs.YtldkdoddklfdlaaGreatDoor
set_option maxRecDepth 20000
open Go.RowKit

/-- What a law's world is of. -/
structure LaidW (w0 w : World) (X : ByteArray) (S : PS) (G B1 B2 B3 B4 : Nat) : Prop where
  row : w.heap[G]? = some (.cells #[.pointer (some ⟨B1, 0, none⟩), .pointer (some ⟨B2, 0, none⟩), .pointer (some ⟨B3, 0, none⟩), .pointer (some ⟨B4, 0, none⟩)] 36 (0, 0))
  own : w0.heap.size ≤ G
  dev : ∃ m, w0.heap.size ≤ m ∧ m ≤ G ∧ Plate w (fun k => w0.heap.size ≤ k ∧ k < m) B1 S ∧ ∃ m2, m ≤ m2 ∧ m2 ≤ G ∧ RefP w (fun k => m ≤ k ∧ k < m2) B2 S
  real : RealV w B3 X
  ref : RefR w B4 X
set_option maxHeartbeats 4000000 in
theorem laid_any (n : Nat) (hn : n ≤ 32768) : ∃ X : ByteArray, X.size = 32 ∧ ∀ w, TabR w → Calls Tryz.prog 4 #[.int .i64 n] w fun e w' => ∃ G B1 B2 B3 B4, e = .returned (.pointer (some ⟨G, 0, none⟩)) ∧ LaidW w w' X (newP n) G B1 B2 B3 B4 ∧ Below w.heap.size w w' := by
  obtain ⟨X, hX, k1, k2⟩ := stretch6 ⟨#[112]⟩ (by decide)
  refine ⟨X, hX, fun w ht => ?_⟩
  have HT : Hid (∀ W, Below w.heap.size w W → TabR W) := fun W hW => prims6.tab ht hW
  have h1 := new_any n hn w
  have h2 := fun W => rnew_any n hn W
  have h3 := fun W (hW : Below w.heap.size w W) => real_yes W (k1 W (HT.out W hW))
  have h4 := fun W => rreal_yes W (k2 W)
  clear k1 k2 ht
  go_enter Tryz.func4, Tryz.ntmps4
  go_wp2_with fail
  refine h1.mono ?_
  rintro e w1 ⟨B1, rfl, hp1, hb1⟩
  have H1 : Hid (Plate w1 (fun k => w.heap.size ≤ k ∧ k < w1.heap.size) B1 (newP n) ∧ Below w.heap.size w w1) := ⟨hp1, hb1⟩
  clear h1 hp1 hb1
  go_wp2_with fail
  refine (h2 _).mono ?_
  rintro e w2 ⟨B2, rfl, hp2, hb2⟩
  have H2 : Hid (RefP w2 (fun k => w1.heap.size ≤ k ∧ k < w2.heap.size) B2 (newP n) ∧ Below w1.heap.size w1 w2) := ⟨hp2, hb2⟩
  clear h2 hp2 hb2
  go_wp2_with fail
  refine (h3 _ (H1.out.2.trans (H2.out.2.mono H1.out.2.size))).mono ?_
  rintro e w3 ⟨B3, rfl, hp3, hb3⟩
  have H3 : Hid (RealV w3 B3 X ∧ Below w2.heap.size w2 w3) := ⟨hp3, hb3⟩
  clear h3 hp3 hb3
  go_wp2_with fail
  refine (h4 _).mono ?_
  rintro e w4 ⟨B4, rfl, hp4, hb4⟩
  have H4 : Hid (RefR w4 B4 X ∧ Below w3.heap.size w3 w4) := ⟨hp4, hb4⟩
  clear h4 hp4 hb4
  have HF : Hid (∃ W, W = w4.alloc (.cells #[.pointer (some ⟨B1, 0, none⟩), .pointer (some ⟨B2, 0, none⟩), .pointer (some ⟨B3, 0, none⟩), .pointer (some ⟨B4, 0, none⟩)] 36) ∧ LaidW w W X (newP n) w4.heap.size B1 B2 B3 B4 ∧ Below w.heap.size w W) := by
    have z1 := H1.out.2.size
    have z2 := H2.out.2.size
    have z3 := H3.out.2.size
    have z4 := H4.out.2.size
    have hA := bel_alloc w4 (.cells #[.pointer (some ⟨B1, 0, none⟩), .pointer (some ⟨B2, 0, none⟩), .pointer (some ⟨B3, 0, none⟩), .pointer (some ⟨B4, 0, none⟩)] 36)
    have b24 : Below w2.heap.size w2 w4 := H3.out.2.trans (H4.out.2.mono z3)
    have b14 : Below w1.heap.size w1 w4 := H2.out.2.trans (b24.mono z2)
    refine ⟨_, rfl, ⟨heap_alloc_new w4 _, by omega, ⟨w1.heap.size, z1, by omega, (H1.out.1.below b14).below hA, w2.heap.size, z2, by omega, (H2.out.1.keep fun k hk _ => b24.block k hk).keep fun k hk _ => hA.block k hk⟩, (H3.out.1.below H4.out.2).below hA, H4.out.1.keep hA⟩, ?_⟩
    exact (H1.out.2.trans (b14.mono z1)).trans (hA.mono (by omega))
  clear H1 H2 H3 H4
  obtain ⟨W, hW, hL, hB⟩ := HF.out
  have HL : Hid (LaidW w W X (newP n) w4.heap.size B1 B2 B3 B4 ∧ Below w.heap.size w W) := ⟨hL, hB⟩
  have hW2 := hW.symm
  clear HF hL hB hW
  go_wp2
  go_ret
  exact ⟨_, _, _, _, _, rfl, HL.out.1, HL.out.2⟩
end Go.Proofs.YtldkdoddklfdlaaGreatDoor

namespace Go.Proofs.YtldkdoddklfdlaaGreatDoor
set_option maxRecDepth 20000
open Go.RowKit

theorem jpri_ret (tmps : Array Value) (g : Nat) (w' : World) (c : Int) (cs : Array Value) (b : Bool) (R : Ending → World → Prop) (h0 : tmps.getD 4 undef = .int .i64 c) (h1 : tmps.getD 5 undef = .pointer (some ⟨g, 0, none⟩)) (h2 : tmps.getD 6 undef = .bool b) (hg : w'.heap[g]? = some (.cells cs 23 (0, 0))) (hs : cs.size = 5) (hR : R (.returned (.tuple #[.int .i64 c, .agg cs, .bool b])) w') :
    bodyPost Tryz.prog Tryz.f93 R .ret { tmps := tmps, defers := [] } w' := by
  have hr := run_loadVar_row (P := Tryz.prog) w' g 23 23 cs (0, 0) _ hg Tryz.underlying23 rfl (by rw [hs]; kernel_rfl)
  simp at h0 h1 h2
  exact bodyPost_ret (v := .tuple #[.int .i64 c, .agg cs, .bool b]) (by simp [results, Tryz.results93, asAddr, hr, h0, h1, h2]) rfl hR
theorem set5 {w : World} {b t : Nat} {z0 z1 z2 z3 z4 : Value} (h : w.heap[b]? = some (.cells #[z0, z1, z2, z3, z4] t (0, 0))) (v0 v1 v2 v3 v4 : Value) :
    (((((w.setCell ⟨b, 0, none⟩ v0).setCell ⟨b, 1, none⟩ v1).setCell ⟨b, 2, none⟩ v2).setCell ⟨b, 3, none⟩ v3).setCell ⟨b, 4, none⟩ v4).heap[b]? = some (.cells #[v0, v1, v2, v3, v4] t (0, 0)) := by
  have h0 := heap_setCell_same w b 0 _ _ v0 h
  have h1 := heap_setCell_same _ b 1 _ _ v1 h0
  have h2 := heap_setCell_same _ b 2 _ _ v2 h1
  have h3 := heap_setCell_same _ b 3 _ _ v3 h2
  exact heap_setCell_same _ b 4 _ _ v4 h3
/-- The text of a promise's superblock. -/
theorem piT_pad (r : Rg) (h : r.body.size = 448) : padE (r.body.extract 34 448) 448 = 0 := by
  have : (r.body.extract 34 448).size = 414 := by simp [h]
  unfold padE
  rw [this]
  rfl
set_option maxHeartbeats 800000 in
theorem jpri_in (ok : Bool) (h : Hd) (s T : ByteArray) (N : Int) (c : Sp) (y : Int) (live : Int) (w : World) (hs : ok = true → s.size = 448)
    (hg : ok = true → ∀ w, Calls Tryz.prog 125 #[.string s, .int .i64 0, .int .i64 2] w fun e w' => e = .returned (.tuple #[.int .i64 N, .int .i64 0]) ∧ w' = w)
    (hp : ok = true → ∀ w, Calls Tryz.prog 68 #[.string (s.extract 34 448), .int .i64 448] w fun e w' => e = .returned (.tuple #[.string T, .int .i64 0]) ∧ Below w.heap.size w w')
    (ho : ∀ w, Calls Tryz.prog 119 #[.string T] w fun e w' => e = .returned (.tuple #[.agg c.arr, .int .i64 y]) ∧ Below w.heap.size w w')
    (P1 : Int) (P2 : Array Value) (P3 : Bool) (hyes : (ok = true ∧ h.v2 = 2 ∧ N ≤ 24 ∧ y = 0 ∧ c.lv = live) → P1 = N ∧ P2 = c.arr ∧ P3 = true) (hno : ¬ (ok = true ∧ h.v2 = 2 ∧ N ≤ 24 ∧ y = 0 ∧ c.lv = live) → P1 = 0 ∧ P2 = Sp.zero.arr ∧ P3 = false) :
    Calls Tryz.prog 93 #[.agg #[.bool ok, .int .i64 h.v0, .int .i64 h.v1, .int .i64 h.v2, .int .i64 h.v3, .int .i64 h.v4, .int .i64 h.v5, .int .i64 h.v6, .int .i64 h.v7, .string s], .int .i64 live] w fun e w' => e = .returned (.tuple #[.int .i64 P1, .agg P2, .bool P3]) ∧ Below w.heap.size w w' := by
  obtain ⟨c0, c1, c2, c3, r⟩ := c
  unfold Sp.arr at ho
  have HY : Hid ((ok = true ∧ h.v2 = 2 ∧ N ≤ 24 ∧ y = 0 ∧ c3 = live) → P1 = N ∧ P2 = #[.int .i64 c0, .int .i64 c1, .int .i64 c2, .int .i64 c3, .string r] ∧ P3 = true) := hyes
  have HN : Hid (¬ (ok = true ∧ h.v2 = 2 ∧ N ≤ 24 ∧ y = 0 ∧ c3 = live) → P1 = 0 ∧ P2 = #[.int .i64 0, .int .i64 0, .int .i64 0, .int .i64 0, .string ⟨#[]⟩] ∧ P3 = false) := hno
  clear hyes hno
  have hb0 : Below w.heap.size w ((w.alloc (.cells #[.bool ok, .int .i64 h.v0, .int .i64 h.v1, .int .i64 h.v2, .int .i64 h.v3, .int .i64 h.v4, .int .i64 h.v5, .int .i64 h.v6, .int .i64 h.v7, .string s] 125)).alloc (.cells #[.int .i64 0, .int .i64 0, .int .i64 0, .int .i64 0, .string ⟨#[]⟩] 23)) := ((Below.refl _ _).alloc (Nat.le_refl _) _).alloc (by simp) _
  by_cases h1 : ok = true ∧ h.v2 = 2
  case neg =>
    have HE : Hid _ := HN.out (fun h => h1 ⟨h.1, h.2.1⟩)
    have HB : Hid _ := hb0
    clear ho hb0 hg hp hs
    cases ok with
    | false =>
      go_enter Tryz.func93, Tryz.ntmps93
      go_wp2
      exact jpri_ret _ (w.heap.size + 1) _ 0 #[.int .i64 0, .int .i64 0, .int .i64 0, .int .i64 0, .string ⟨#[]⟩] false _ rfl rfl rfl (heap_alloc2_new w _ _) rfl ⟨by rw [HE.out.1, HE.out.2.1, HE.out.2.2], HB.out⟩
    | true =>
      have k2 : (h.v2 != 2) = true := by simp; exact fun e => h1 ⟨rfl, e⟩
      clear h1
      go_enter Tryz.func93, Tryz.ntmps93
      go_wp2
      exact jpri_ret _ (w.heap.size + 1) _ 0 #[.int .i64 0, .int .i64 0, .int .i64 0, .int .i64 0, .string ⟨#[]⟩] false _ rfl rfl rfl (heap_alloc2_new w _ _) rfl ⟨by rw [HE.out.1, HE.out.2.1, HE.out.2.2], HB.out⟩
  obtain ⟨rfl, h2⟩ := h1
  have k2 : (h.v2 != 2) = false := by simp [h2]
  have hgc := hg rfl
  have hpc := hp rfl
  have hsc := hs rfl
  clear hg hp hs
  have hs34 : (34 : Int) ≤ s.size := by omega
  have hcut : s.extract 34 s.size = s.extract 34 448 := by rw [hsc]
  by_cases hN : N ≤ 24
  case neg =>
    have HE : Hid _ := HN.out (fun h => hN h.2.2.1)
    have k3 : decide (N > 24) = true := by simp; omega
    have k4 : decide (24 < N) = true := by simp; omega
    have HB : Hid _ := hb0
    clear ho hb0 hpc h2 hN hcut hs34
    go_enter Tryz.func93, Tryz.ntmps93
    go_wp2_with fail
    refine (hgc _).mono ?_
    rintro e w1 ⟨rfl, rfl⟩
    clear hgc
    go_wp2
    exact jpri_ret _ (w.heap.size + 1) _ 0 #[.int .i64 0, .int .i64 0, .int .i64 0, .int .i64 0, .string ⟨#[]⟩] false _ rfl rfl rfl (heap_alloc2_new w _ _) rfl ⟨by rw [HE.out.1, HE.out.2.1, HE.out.2.2], HB.out⟩
  have k4 : decide (24 < N) = false := by simp; omega
  have H2 : Hid (h.v2 = 2 ∧ N ≤ 24) := ⟨h2, hN⟩
  clear h2 hN
  go_enter Tryz.func93, Tryz.ntmps93
  go_wp2_with fail
  refine (hgc _).mono ?_
  rintro e w1 ⟨rfl, rfl⟩
  clear hgc
  go_wp2_with fail
  try rw [hcut]
  refine (hpc _).mono ?_
  rintro e w1 ⟨rfl, hb1⟩
  have hbw1 := hb0.trans (hb1.mono hb0.size)
  have g1 := (hb1.block (w.heap.size + 1) (by simp)).trans (heap_alloc2_new w _ _)
  clear hpc hb0 hb1 hcut hs34
  go_wp2_with fail
  refine (ho _).mono ?_
  rintro e w2 ⟨rfl, hb2⟩
  have hlt1 := lt_of_block g1
  have hbw2 := hbw1.trans (hb2.mono hbw1.size)
  have g2 := (hb2.block (w.heap.size + 1) hlt1).trans g1
  have hlt2 := lt_of_block g2
  have g3 : (w2.alloc (.cells #[.int .i64 c0, .int .i64 c1, .int .i64 c2, .int .i64 c3, .string r] 23)).heap[w.heap.size + 1]? = some (.cells #[.int .i64 0, .int .i64 0, .int .i64 0, .int .i64 0, .string ⟨#[]⟩] 23 (0, 0)) := (Below.heap_alloc _ _ _ hlt2).trans g2
  have gc : (w2.alloc (.cells #[.int .i64 c0, .int .i64 c1, .int .i64 c2, .int .i64 c3, .string r] 23)).heap[w2.heap.size]? = some (.cells #[.int .i64 c0, .int .i64 c1, .int .i64 c2, .int .i64 c3, .string r] 23 (0, 0)) := heap_alloc_new w2 _
  have hb3 : Below w.heap.size w (w2.alloc (.cells #[.int .i64 c0, .int .i64 c1, .int .i64 c2, .int .i64 c3, .string r] 23)) := hbw2.alloc (by omega) _
  clear ho hb2 hbw1 g1 hlt1
  by_cases h3 : y = 0 ∧ c3 = live
  · obtain ⟨rfl, h4⟩ := h3
    have k5 : (c3 != live) = false := by simp [h4]
    have hall : true = true ∧ h.v2 = 2 ∧ N ≤ 24 ∧ (0 : Int) = 0 ∧ c3 = live := ⟨rfl, H2.out.1, H2.out.2, rfl, h4⟩
    have HE : Hid _ := HY.out ⟨trivial, hall.2⟩
    clear h4 hall
    have q0 : w2.cell? ⟨w.heap.size + 1, 0, none⟩ = some (.int .i64 0) := cell_of_row _ _ 0 _ _ _ g2
    have q1 : w2.cell? ⟨w.heap.size + 1, 1, none⟩ = some (.int .i64 0) := cell_of_row _ _ 1 _ _ _ g2
    have q2 : w2.cell? ⟨w.heap.size + 1, 2, none⟩ = some (.int .i64 0) := cell_of_row _ _ 2 _ _ _ g2
    have q3 : w2.cell? ⟨w.heap.size + 1, 3, none⟩ = some (.int .i64 0) := cell_of_row _ _ 3 _ _ _ g2
    have q4 : w2.cell? ⟨w.heap.size + 1, 4, none⟩ = some (.string ⟨#[]⟩) := cell_of_row _ _ 4 _ _ _ g2
    have f0 := frozen_of_row w2 (w.heap.size + 1) 0 _ _ g2
    have f1 := frozen_of_row w2 (w.heap.size + 1) 1 _ _ g2
    have f2 := frozen_of_row w2 (w.heap.size + 1) 2 _ _ g2
    have f3 := frozen_of_row w2 (w.heap.size + 1) 3 _ _ g2
    have f4 := frozen_of_row w2 (w.heap.size + 1) 4 _ _ g2
    have HG : Hid (w2.heap[w.heap.size + 1]? = some (.cells #[.int .i64 0, .int .i64 0, .int .i64 0, .int .i64 0, .string ⟨#[]⟩] 23 (0, 0)) ∧ Below w.heap.size w w2) := ⟨g2, hbw2⟩
    have hfin : Hid ((((((w2.setCell ⟨w.heap.size + 1, 0, none⟩ (.int .i64 c0)).setCell ⟨w.heap.size + 1, 1, none⟩ (.int .i64 c1)).setCell ⟨w.heap.size + 1, 2, none⟩ (.int .i64 c2)).setCell ⟨w.heap.size + 1, 3, none⟩ (.int .i64 c3)).setCell ⟨w.heap.size + 1, 4, none⟩ (.string r)).heap[w.heap.size + 1]? = some (.cells #[.int .i64 c0, .int .i64 c1, .int .i64 c2, .int .i64 c3, .string r] 23 (0, 0)) ∧ Below w.heap.size w (((((w2.setCell ⟨w.heap.size + 1, 0, none⟩ (.int .i64 c0)).setCell ⟨w.heap.size + 1, 1, none⟩ (.int .i64 c1)).setCell ⟨w.heap.size + 1, 2, none⟩ (.int .i64 c2)).setCell ⟨w.heap.size + 1, 3, none⟩ (.int .i64 c3)).setCell ⟨w.heap.size + 1, 4, none⟩ (.string r))) := ⟨set5 g2 _ _ _ _ _, ((((hbw2.setCell (p := ⟨w.heap.size + 1, 0, none⟩) (by simp) _).setCell (p := ⟨w.heap.size + 1, 1, none⟩) (by simp) _).setCell (p := ⟨w.heap.size + 1, 2, none⟩) (by simp) _).setCell (p := ⟨w.heap.size + 1, 3, none⟩) (by simp) _).setCell (p := ⟨w.heap.size + 1, 4, none⟩) (by simp) _⟩
    have HF2 : Hid (((((((w2.setCell ⟨w.heap.size + 1, 0, none⟩ (.int .i64 c0)).setCell ⟨w.heap.size + 1, 1, none⟩ (.int .i64 c1)).setCell ⟨w.heap.size + 1, 2, none⟩ (.int .i64 c2)).setCell ⟨w.heap.size + 1, 3, none⟩ (.int .i64 c3)).setCell ⟨w.heap.size + 1, 4, none⟩ (.string r)).alloc (.cells #[.int .i64 c0, .int .i64 c1, .int .i64 c2, .int .i64 c3, .string r] 23)).drew.heap[w.heap.size + 1]? = some (.cells #[.int .i64 c0, .int .i64 c1, .int .i64 c2, .int .i64 c3, .string r] 23 (0, 0)) ∧ Below w.heap.size w ((((((w2.setCell ⟨w.heap.size + 1, 0, none⟩ (.int .i64 c0)).setCell ⟨w.heap.size + 1, 1, none⟩ (.int .i64 c1)).setCell ⟨w.heap.size + 1, 2, none⟩ (.int .i64 c2)).setCell ⟨w.heap.size + 1, 3, none⟩ (.int .i64 c3)).setCell ⟨w.heap.size + 1, 4, none⟩ (.string r)).alloc (.cells #[.int .i64 c0, .int .i64 c1, .int .i64 c2, .int .i64 c3, .string r] 23)).drew) := ⟨(Below.heap_alloc (((((w2.setCell ⟨w.heap.size + 1, 0, none⟩ (.int .i64 c0)).setCell ⟨w.heap.size + 1, 1, none⟩ (.int .i64 c1)).setCell ⟨w.heap.size + 1, 2, none⟩ (.int .i64 c2)).setCell ⟨w.heap.size + 1, 3, none⟩ (.int .i64 c3)).setCell ⟨w.heap.size + 1, 4, none⟩ (.string r)) _ _ (lt_of_block hfin.out.1)).trans hfin.out.1, (hfin.out.2.alloc hfin.out.2.size _).drew⟩
    clear g3 gc hb3 g2 hbw2 HG hfin
    go_wp2_with fail
    go_region
    clear q0 q1 q2 q3 q4 f0 f1 f2 f3 f4
    go_wp2_with fail
    refine jpri_ret _ (w.heap.size + 1) _ N #[.int .i64 c0, .int .i64 c1, .int .i64 c2, .int .i64 c3, .string r] true _ rfl rfl rfl ?_ rfl ⟨?_, ?_⟩
    · exact HF2.out.1
    · rw [HE.out.1, HE.out.2.1, HE.out.2.2]
    · exact HF2.out.2
  · have hway : (y != 0) = true ∨ ((y != 0) = false ∧ (c3 != live) = true) := by
      by_cases e1 : y = 0
      · exact .inr ⟨by simp [e1], by simp; exact fun e3 => h3 ⟨e1, e3⟩⟩
      · exact .inl (by simpa using e1)
    have hall : ¬ (true = true ∧ h.v2 = 2 ∧ N ≤ 24 ∧ y = 0 ∧ c3 = live) := fun h => h3 h.2.2.2
    have HE : Hid _ := HN.out (fun h => hall ⟨rfl, h.2⟩)
    clear h3 gc hall hbw2 g2
    rcases hway with k5 | ⟨k5, k6⟩
    · go_wp2_with (refine wpList_store_row rfl 23 _ _ rfl (w.heap.size + 1) #[.int .i64 0, .int .i64 0, .int .i64 0, .int .i64 0, .string ⟨#[]⟩] rfl rfl 23 _ g3 (by kernel_rfl) rfl (by simp [Value.oneCell']) ?_)
      exact jpri_ret _ (w.heap.size + 1) _ 0 #[.int .i64 0, .int .i64 0, .int .i64 0, .int .i64 0, .string ⟨#[]⟩] false _ rfl rfl rfl (setRow_heap _ _ _ _ _ _ g3) rfl ⟨by rw [HE.out.1, HE.out.2.1, HE.out.2.2], below_setRow hb3 (by omega) _⟩
    · go_wp2_with (refine wpList_store_row rfl 23 _ _ rfl (w.heap.size + 1) #[.int .i64 0, .int .i64 0, .int .i64 0, .int .i64 0, .string ⟨#[]⟩] rfl rfl 23 _ g3 (by kernel_rfl) rfl (by simp [Value.oneCell']) ?_)
      exact jpri_ret _ (w.heap.size + 1) _ 0 #[.int .i64 0, .int .i64 0, .int .i64 0, .int .i64 0, .string ⟨#[]⟩] false _ rfl rfl rfl (setRow_heap _ _ _ _ _ _ g3) rfl ⟨by rw [HE.out.1, HE.out.2.1, HE.out.2.2], below_setRow hb3 (by omega) _⟩
theorem jpri_any (r : Rg) (live : Int) (w : World) (hs : r.ok = true → r.body.size = 448) :
    Calls Tryz.prog 93 #[.agg r.arr, .int .i64 live] w fun e w' => e = .returned (.tuple #[.int .i64 (piN r live), .agg (piS r live).arr, .bool (piB r live)]) ∧ Below w.heap.size w w' := by
  have h := jpri_in r.ok r.h r.body (piT r) (getN r.body 0 2) (spOf (piT r)) (superOE (piT r)) live w hs (fun ho w => by
    have hg := get_any r.body 0 2 (by rw [hs ho]; decide) w
    have e : getE r.body 0 2 = 0 := by
      have h4 := hs ho
      unfold getE
      rw [if_neg (by decide), if_neg (by omega)]
    rw [e] at hg
    exact hg) (fun ho w => by
    have hp := pad_any (r.body.extract 34 448) 448 w
    rw [piT_pad r (hs ho)] at hp
    exact hp) fun w => by
    have ho := superOf_any (piT r) w
    rw [superOC_arr] at ho
    exact ho
  have hc : (r.ok = true ∧ r.h.v2 = 2 ∧ getN r.body 0 2 ≤ 24 ∧ superOE (piT r) = 0 ∧ (spOf (piT r)).lv = live) ↔ piB r live = true := by
    unfold piB
    exact decide_eq_true_iff.symm
  refine h (piN r live) (piS r live).arr (piB r live) (fun hy => ?_) (fun hn => ?_)
  · have hb := hc.1 hy
    have e1 : piN r live = getN r.body 0 2 := if_pos hb
    have e2 : piS r live = spOf (piT r) := if_pos hb
    exact ⟨e1, congrArg Sp.arr e2, hb⟩
  · have hb : ¬ piB r live = true := fun e => hn (hc.2 e)
    have e1 : piN r live = 0 := if_neg hb
    have e2 : piS r live = Sp.zero := if_neg hb
    exact ⟨e1, congrArg Sp.arr e2, Bool.eq_false_iff.2 hb⟩
end Go.Proofs.YtldkdoddklfdlaaGreatDoor

namespace Go.Proofs.YtldkdoddklfdlaaGreatDoor
set_option maxRecDepth 20000
open Go.RowKit

theorem atS_size (raws : List ByteArray) (masks : List Int) (a : Int) : (atS raws masks a).size = 512 := by
  unfold atS
  split
  · next h =>
    unfold atB at h
    exact (of_decide_eq_true h).2.2.2
  · exact fillS_size 0 512
theorem rcdB_no {raws : List ByteArray} {masks : List Int} {log : Int} {n j : Nat} (hj : j < n) (h : ¬ atM raws masks (log + (j : Int)) = 0) : rcdB raws masks log n = false := by
  unfold rcdB
  rw [List.all_eq_false]
  exact ⟨j, List.mem_range.2 hj, by simpa using h⟩
theorem rcdB_yes {raws : List ByteArray} {masks : List Int} {log : Int} {n : Nat} (h : ∀ j, j < n → atM raws masks (log + (j : Int)) = 0) : rcdB raws masks log n = true := by
  unfold rcdB
  rw [List.all_eq_true]
  exact fun j hj => by simpa using h j (List.mem_range.1 hj)
theorem rcdL_succ (raws : List ByteArray) (masks : List Int) (log : Int) (n : Nat) : rcdL raws masks log (n + 1) = rcdL raws masks log n ++ [rcdW raws masks log n] := by simp [rcdL, List.range_succ]
theorem rcdL_length (raws : List ByteArray) (masks : List Int) (log : Int) (n : Nat) : (rcdL raws masks log n).length = n := by simp [rcdL]
structure RdR (w : World) (oa ob : Option Addr) (ca cb : Nat) (raws : List ByteArray) (masks : List Int) (A : Array Value) (j : Nat) (wr : World) : Prop where
  ok : ∀ i, i < j → atM raws masks (3 + (i : Int)) = 0
  below : Below w.heap.size w wr
  lay : wr.heap[w.heap.size]? = some (.cells A 103 (0, 0))
  img : wr.heap[w.heap.size + 1]? = some (.cells #[.slice oa raws.length ca, .slice ob masks.length cb] 131 (0, 0))
set_option maxHeartbeats 4000000 in
theorem recorded_any (n q s2 t : Nat) (oa ob : Option Addr) (ca cb : Nat) (raws : List ByteArray) (masks : List Int) (m : Nat) (hm : m ≤ 1000) (w : World) (h1 : List1 Value.string w (.slice oa raws.length ca) raws) (h2 : List1 (Value.int .i64) w (.slice ob masks.length cb) masks) :
    Calls Tryz.prog 94 #[.agg (layA n q s2 t), .agg #[.slice oa raws.length ca, .slice ob masks.length cb], .int .i64 (m : Int)] w fun e w' => ∃ v', e = .returned (.tuple #[v', .bool (rcdB raws masks 3 m)]) ∧ (rcdB raws masks 3 m = true → WZ w' w.heap.size v' (rcdL raws masks 3 m)) ∧ (rcdB raws masks 3 m = false → v' = .slice none 0 0) ∧ Below w.heap.size w w' := by
  obtain ⟨i0, hi0, hz0, hz1, hz2⟩ := info_parts jn_info_wt
  have H12 : Hid (List1 Value.string w (.slice oa raws.length ca) raws ∧ List1 (Value.int .i64) w (.slice ob masks.length cb) masks) := ⟨h1, h2⟩
  obtain ⟨A, hA⟩ : ∃ A, A = layA n q s2 t := ⟨_, rfl⟩
  have hA2 : A[2]? = some (.int .i64 3) := by rw [hA]; rfl
  rw [← hA]
  clear hA h1 h2
  have HI : Hid (RdR w oa ob ca cb raws masks A 0 ((w.alloc (.cells A 103)).alloc (.cells #[.slice oa raws.length ca, .slice ob masks.length cb] 131)) ∧ A[2]? = some (.int .i64 3)) := ⟨⟨fun i hi => absurd hi (Nat.not_lt_zero _), ((Below.refl _ _).alloc (Nat.le_refl _) _).alloc (by simp) _, heap_alloc2_old w _ _, heap_alloc2_new w _ _⟩, hA2⟩
  clear hA2
  obtain ⟨rl, hrl⟩ : ∃ rl, rl = raws.length := ⟨_, rfl⟩
  obtain ⟨ml, hml⟩ : ∃ ml, ml = masks.length := ⟨_, rfl⟩
  rw [← hrl, ← hml]
  have HL : Hid (rl = raws.length ∧ ml = masks.length) := ⟨hrl, hml⟩
  obtain ⟨Y, hY⟩ : ∃ Y, Y = rcdB raws masks 3 m := ⟨_, rfl⟩
  rw [← hY]
  have HY : Hid (Y = rcdB raws masks 3 m) := hY
  clear hrl hml hY
  go_enter Tryz.func94, Tryz.ntmps94
  go_wp2_with fail
  go_loopw [8, 15] (fun sv iv wr => ∃ (j : Nat), j ≤ m ∧ iv = .int .i64 (j : Int) ∧ WZ wr (w.heap.size + 2) sv (rcdL raws masks 3 j) ∧ Hid (RdR w oa ob ca cb raws masks A j wr)) (fun _ iv _ => m - (intOf iv).toNat)
  case atStart => exact ⟨0, Nat.zero_le _, rfl, WZ.nil _ _, by have := HI.out.1; rw [← HL.out.1, ← HL.out.2] at this; exact this⟩
  case round =>
    obtain ⟨j, hj, rfl, hown, HR⟩ := hrel
    have hrl := rcdL_length raws masks 3 j
    obtain ⟨oc, cap, rfl⟩ := hown.form
    rw [hrl] at hown ⊢
    have hz := lt_of_block HR.out.img
    by_cases hlt : j < m
    · have j1 : (j : Int) < m := by omega
      have d0 : wr.cell? ⟨w.heap.size, 2, none⟩ = some (.int .i64 3) := by simp [World.cell?, HR.out.lay, HI.out.2]
      have d1 : wr.cell? ⟨w.heap.size + 1, 0, none⟩ = some (.slice oa rl ca) := by rw [HL.out.1]; exact cell_of_row _ _ 0 _ _ _ HR.out.img
      have d2 : wr.cell? ⟨w.heap.size + 1, 1, none⟩ = some (.slice ob ml cb) := by rw [HL.out.2]; exact cell_of_row _ _ 1 _ _ _ HR.out.img
      have hat := at_any wr oa ob ca cb raws masks (3 + (j : Int)) (H12.out.1.below HR.out.below) (H12.out.2.below HR.out.below)
      rw [← HL.out.1, ← HL.out.2] at hat
      have hs5 := atS_size raws masks (3 + (j : Int))
      have HN : Hid (rcdL raws masks 3 (j + 1) = rcdL raws masks 3 j ++ [⟨(hdOf ((atS raws masks (3 + (j : Int))).extract 0 48)).v1, atS raws masks (3 + (j : Int))⟩]) := rcdL_succ raws masks 3 j
      have hh := fun w => bheadOf_any ((atS raws masks (3 + (j : Int))).extract 0 48) w
      generalize hx : (atS raws masks (3 + (j : Int))).extract 0 48 = x at *
      generalize atS raws masks (3 + (j : Int)) = r at *
      generalize hdOf x = h at *
      generalize headE x = E at *
      have h48 : (48 : Int) ≤ r.size := by omega
      clear hs5
      by_cases hM : atM raws masks (3 + (j : Int)) = 0
      · have HM : Hid (∀ i, i < j + 1 → atM raws masks (3 + (i : Int)) = 0) := fun i hi => by
          by_cases e : i = j
          · subst e; exact hM
          · exact HR.out.ok i (by omega)
        rw [hM] at hat
        generalize rcdL raws masks 3 j = d at *
        subst hrl
        go_wp2_with fail
        refine hat.mono ?_
        rintro e w1 ⟨rfl, hb1⟩
        have HR1 : Hid (Below w.heap.size w w1 ∧ w1.heap[w.heap.size]? = some (.cells A 103 (0, 0)) ∧ w1.heap[w.heap.size + 1]? = some (.cells #[.slice oa raws.length ca, .slice ob masks.length cb] 131 (0, 0)) ∧ WZ w1 (w.heap.size + 2) (.slice oc d.length cap) d) := ⟨HR.out.below.trans (hb1.mono HR.out.below.size), (hb1.block _ (by omega)).trans HR.out.lay, (hb1.block _ hz).trans HR.out.img, hown.below hb1⟩
        clear hat hb1 d0 d1 d2 hown HR
        go_wp2_with fail
        try rw [hx]
        refine (hh _).mono ?_
        rintro e w2 ⟨rfl, hb2⟩
        have hzz : w.heap.size + 1 < w1.heap.size := lt_of_block HR1.out.2.2.1
        have hb12 := hb2.size
        have hown2 := HR1.out.2.2.2.below hb2
        have hbw2 : Below w.heap.size w w2 := HR1.out.1.trans (hb2.mono HR1.out.1.size)
        have hl2 := (hb2.block _ (show w.heap.size < w1.heap.size by omega)).trans HR1.out.2.1
        have hi2 := (hb2.block _ hzz).trans HR1.out.2.2.1
        have hownC := World.ownsRow.alloc (World.ownsRow.alloc hown2 (.cells #[.int .i64 h.v0, .int .i64 h.v1, .int .i64 h.v2, .int .i64 h.v3, .int .i64 h.v4, .int .i64 h.v5, .int .i64 h.v6, .int .i64 h.v7] 51)) (.cells #[.int .i64 h.v1, .string r] 27)
        have hnew : ((w2.alloc (.cells #[.int .i64 h.v0, .int .i64 h.v1, .int .i64 h.v2, .int .i64 h.v3, .int .i64 h.v4, .int .i64 h.v5, .int .i64 h.v6, .int .i64 h.v7] 51)).alloc (.cells #[.int .i64 h.v1, .string r] 27)).heap[w2.heap.size + 1]? = some (.cells #[.int .i64 h.v1, .string r] 27 (0, 0)) := heap_alloc2_new w2 _ _
        have hone : ∀ u ∈ ([.int .i64 h.v1, .string r] : List Value), u.oneCell' = true := by intro u hu; simp at hu; rcases hu with rfl | rfl <;> rfl
        have HO : Hid (WZ w2 (w.heap.size + 2) (.slice oc d.length cap) d ∧ Below w.heap.size w ((w2.alloc (.cells #[.int .i64 h.v0, .int .i64 h.v1, .int .i64 h.v2, .int .i64 h.v3, .int .i64 h.v4, .int .i64 h.v5, .int .i64 h.v6, .int .i64 h.v7] 51)).alloc (.cells #[.int .i64 h.v1, .string r] 27)) ∧ ((w2.alloc (.cells #[.int .i64 h.v0, .int .i64 h.v1, .int .i64 h.v2, .int .i64 h.v3, .int .i64 h.v4, .int .i64 h.v5, .int .i64 h.v6, .int .i64 h.v7] 51)).alloc (.cells #[.int .i64 h.v1, .string r] 27)).heap[w.heap.size]? = some (.cells A 103 (0, 0)) ∧ ((w2.alloc (.cells #[.int .i64 h.v0, .int .i64 h.v1, .int .i64 h.v2, .int .i64 h.v3, .int .i64 h.v4, .int .i64 h.v5, .int .i64 h.v6, .int .i64 h.v7] 51)).alloc (.cells #[.int .i64 h.v1, .string r] 27)).heap[w.heap.size + 1]? = some (.cells #[.slice oa raws.length ca, .slice ob masks.length cb] 131 (0, 0))) :=
          ⟨hown2, (hbw2.alloc hbw2.size _).alloc (by have := hbw2.size; simp; omega) _, (Below.heap_alloc _ _ _ (by simp; omega)).trans ((Below.heap_alloc _ _ _ (by omega)).trans hl2), (Below.heap_alloc _ _ _ (by simp; omega)).trans ((Below.heap_alloc _ _ _ (by omega)).trans hi2)⟩
        clear hh hb2 hown2 hbw2 hl2 hi2 HR1 hx hM
        go_wp2_with (first | (at_builtin; (refine wpList_append_own _ rfl _ _ 59 rfl (w.heap.size + 2) 27 i0 _ 2 24 Tryz.underlying59 hi0 hz0 hz1 hz2 rfl (by decide) (.slice oc d.length cap) d.length (d.flatMap Wt.cells) rfl hownC ⟨w2.heap.size + 1, 0, none⟩ 1 1 [.int .i64 h.v1, .string r] rfl rfl (World.news_of_block hnew) hone (by unfold maxLen; omega) (by omega) (by simp; omega) ?_)))
        intro v1 wB hown3 hgrow3 _
        have hTB : Below (w.heap.size + 2) ((w2.alloc (.cells #[.int .i64 h.v0, .int .i64 h.v1, .int .i64 h.v2, .int .i64 h.v3, .int .i64 h.v4, .int .i64 h.v5, .int .i64 h.v6, .int .i64 h.v7] 51)).alloc (.cells #[.int .i64 h.v1, .string r] 27)) wB := (Below.refl _ _).grown hgrow3 (by simp; omega) fun k hk => (World.ownsRow.lt HO.out.1 k hk).1
        have HF : Hid (WZ wB (w.heap.size + 2) v1 (rcdL raws masks 3 (d.length + 1)) ∧ RdR w oa ob ca cb raws masks A (d.length + 1) wB) := by
          refine ⟨?_, HM.out, HO.out.2.1.trans (hTB.mono (by omega)), (hTB.block w.heap.size (by omega)).trans HO.out.2.2.1, (hTB.block (w.heap.size + 1) (by omega)).trans HO.out.2.2.2⟩
          unfold WZ
          rw [HN.out, List.length_append, List.length_singleton, List.flatMap_append, List.flatMap_singleton]
          exact hown3
        clear hownC hnew hown3 hgrow3 hTB hone
        go_wp2
        go_roundw
        case rel => exact ⟨d.length + 1, by omega, by go_num, HF.out.1, HF.out.2⟩
        case measure => simp [intOf]; omega
      · have HF : Hid (Y = false) := by show Y = false; rw [HY.out]; exact rcdB_no hlt hM
        generalize atM raws masks (3 + (j : Int)) = M at *
        have hM1 : (M != 0) = true := by simpa using hM
        clear hown hh hM
        go_wp2_with fail
        refine hat.mono ?_
        rintro e w1 ⟨rfl, hb1⟩
        have HB : Hid (Below w.heap.size w w1) := HR.out.below.trans (hb1.mono HR.out.below.size)
        clear hat hb1 d0 d1 d2
        go_wp2
        go_ret2
        exact ⟨_, by rw [HF.out]; rfl, (fun h => by rw [HF.out] at h; cases h), fun _ => rfl, HB.out⟩
    · obtain rfl : j = m := by omega
      have j1 : ¬ (j : Int) < j := by omega
      have HF : Hid (Y = true ∧ WZ wr w.heap.size (.slice oc j cap) (rcdL raws masks 3 j) ∧ Below w.heap.size w wr) := ⟨HY.out.trans (rcdB_yes HR.out.ok), WZ.mono hown (by omega), HR.out.below⟩
      clear hown HR
      go_wp2
      go_ret2
      exact ⟨_, by rw [HF.out.1]; rfl, fun _ => HF.out.2.1, (fun h => by rw [HF.out.1] at h; cases h), HF.out.2.2⟩
end Go.Proofs.YtldkdoddklfdlaaGreatDoor
