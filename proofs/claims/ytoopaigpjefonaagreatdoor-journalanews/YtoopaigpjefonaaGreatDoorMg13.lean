/- journal's records and joined. · journal's Format and Anew at a device and a vault that lie apart. · journal's Format: refused; and followed. -/
import Derived.Test.YtoopaigpjefonaaGreatDoorMg11
import Derived.Test.YtoopaigpjefonaaGreatDoorMg12
import Derived.Maps.AppendAt
import Derived.Deep.AppendLies
import Derived.Deep.RegionHeld3
namespace Go.Proofs.YtoopaigpjefonaaGreatDoor
set_option maxRecDepth 20000
open Go.RowKit

theorem flatW_at : ∀ (l : List Wt) (i : Nat) (x : Wt), l[i]? = some x → ∀ c, c < 2 → (l.flatMap Wt.cells)[i * 2 + c]? = x.cells[c]?
  | [], i, x, h, _, _ => by simp at h
  | y :: l, 0, x, h, c, hc => by
    obtain rfl : y = x := by simpa using h
    rw [List.flatMap_cons, List.getElem?_append_left (by show 0 * 2 + c < 2; omega), Nat.zero_mul, Nat.zero_add]
  | y :: l, i + 1, x, h, c, hc => by
    have h3 : y.cells.length = 2 := rfl
    rw [List.flatMap_cons, List.getElem?_append_right (by rw [h3]; omega), h3, show (i + 1) * 2 + c - 2 = i * 2 + c by omega]
    exact flatW_at l i x (by simpa using h) c hc
/-- A list of writes that one owns. -/
def WZ (w : World) (base : Nat) (v : Value) (l : List Wt) : Prop := w.ownsRow base 68 2 v l.length (l.flatMap Wt.cells)
theorem WZ.nil (w : World) (base : Nat) : WZ w base (.slice none 0 0) [] := World.ownsRow_nil _ _ _ _
theorem WZ.mono {w : World} {base b2 : Nat} {v : Value} {l : List Wt} (h : WZ w base v l) (hb : b2 ≤ base) : WZ w b2 v l := by
  refine ⟨h.1, ?_⟩
  rcases h.2 with h0 | ⟨g, cap, cur, e, h0, r⟩
  · exact .inl h0
  · exact .inr ⟨g, cap, cur, e, Nat.le_trans hb h0, r⟩
theorem WZ.form {w : World} {base : Nat} {v : Value} {l : List Wt} (h : WZ w base v l) : ∃ oa cap, v = .slice oa l.length cap := by
  rcases h.2 with ⟨e, h0⟩ | ⟨g, cap, cur, e, _⟩
  · exact ⟨none, 0, by rw [e, h0]⟩
  · exact ⟨_, _, e⟩
theorem WZ.below {w w' : World} {base : Nat} {v : Value} {l : List Wt} (h : WZ w base v l) (hb : Below w.heap.size w w') : WZ w' base v l := by
  refine ⟨h.1, ?_⟩
  rcases h.2 with h0 | ⟨g, cap, cur, e, h0, hg, h1, h2, h3, h4⟩
  · exact .inl h0
  · exact .inr ⟨g, cap, cur, e, h0, (hb.block g (lt_of_block hg)).trans hg, h1, h2, h3, h4⟩
theorem WZ.wts {w : World} {base : Nat} {v : Value} {l : List Wt} (h : WZ w base v l) : Wts w v l ∧ ∀ g o len cap, v = .slice (some ⟨g, o, none⟩) len cap → base ≤ g ∧ g < w.heap.size := by
  have hh := h
  unfold WZ at hh
  rcases h.2 with ⟨e, h0⟩ | ⟨g, cap, cur, e, h0, hg, h1, h2, h3, h4⟩
  · exact ⟨.inl ⟨none, 0, e, List.eq_nil_of_length_eq_zero h0⟩, fun g o len cap e' => by rw [e] at e'; cases e'⟩
  · subst e
    refine ⟨.inr ⟨g, 0, cap, rfl, lt_of_block hg, fun i x hx => ?_⟩, fun g' o len cap' e' => ?_⟩
    · have hi := (List.getElem?_eq_some_iff.1 hx).1
      have k : ∀ c, c < 2 → w.cell? ⟨g, 0 + i * 2 + c, none⟩ = x.cells[c]? := fun c hc => by
        have := hh.cellAt (i * 2 + c) (by omega)
        rw [Nat.zero_add, this, flatW_at l i x hx c hc]
      exact ⟨k 0 (by omega), k 1 (by omega)⟩
    · simp only [Value.slice.injEq, Option.some.injEq, Addr.mk.injEq] at e'
      obtain ⟨⟨rfl, _⟩, _⟩ := e'
      exact ⟨h0, lt_of_block hg⟩
theorem jn_info_wt : (Tryz.prog.info? 68).map (fun i => (i.zero, i.size, i.bytes)) = some (some (.agg #[.int .i64 0, .string ⟨#[]⟩]), 2, 24) := by kernel_rfl
/-- What a round of joined knows. -/
structure JoR (w : World) (l : List Wt) (j : Nat) (wr : World) : Prop where
  bl : Bl w.heap.size w.heap.size (joinB (l.take j)).data.toList wr
  below : Below w.heap.size w wr
theorem joinB_size (l : List Wt) : (joinB l).data.toList.length = (joinB l).size := by simp
theorem joinB_snoc (l : List Wt) (x : Wt) : (joinB (l ++ [x])).data.toList = (joinB l).data.toList ++ x.raw.data.toList := by
  induction l with
  | nil => simp [joinB]
  | cons y l ih => simp [joinB, ih]
theorem joinB_le : ∀ l : List Wt, (∀ x ∈ l, x.raw.size ≤ 512) → (joinB l).data.toList.length ≤ 512 * l.length
  | [], _ => by simp [joinB]
  | x :: l, h => by
    have h1 := joinB_le l fun y hy => h y (List.mem_cons_of_mem _ hy)
    have h2 := h x (List.mem_cons_self ..)
    have h3 : (joinB (x :: l)).data.toList = x.raw.data.toList ++ (joinB l).data.toList := by simp [joinB]
    rw [h3, List.length_append, List.length_cons]
    have h4 : x.raw.data.toList.length = x.raw.size := by simp
    omega
set_option maxHeartbeats 4000000 in
theorem joined_any (v : Value) (l : List Wt) (w : World) (hv : Wts w v l) (hll : l.length ≤ 1000) (hsz : ∀ x ∈ l, x.raw.size ≤ 512) :
    Calls Tryz.prog 95 #[v] w fun e w' => e = .returned (.string (joinB l)) ∧ Below w.heap.size w w' := by
  obtain ⟨oa, ca, rfl⟩ := hv.form
  have HV : Hid (Wts w (.slice oa l.length ca) l ∧ ∀ x ∈ l, x.raw.size ≤ 512) := ⟨hv, hsz⟩
  have HB0 : Hid (Bl w.heap.size w.heap.size [] (w.alloc (.cells #[.pointer none, .slice none 0 0] 156))) :=
    (show Lib.IsBuilder 156 5 w.heap.size w.heap.size (Lib.byteCells []) (w.alloc (.cells #[.pointer none, .slice none 0 0] 156)) from .inl ⟨Nat.le_refl _, _, heap_alloc_new w _, World.ownsRow_nil _ _ _ _, fun h => by cases h⟩)
  clear hv hsz
  go_enter Tryz.func95, Tryz.ntmps95
  go_wp2_with fail
  go_loopw [8] (fun iv wr => ∃ (j : Nat), j ≤ l.length ∧ iv = .int .i64 (j : Int) ∧ Hid (JoR w l j wr)) (fun iv _ => l.length - (intOf iv).toNat)
  case atStart => exact ⟨0, Nat.zero_le _, rfl, HB0.out, (Below.refl _ _).alloc (Nat.le_refl _) _⟩
  case round =>
    clear HB0
    obtain ⟨j, hj, rfl, HR⟩ := hrel
    by_cases hlt : j < l.length
    · have j1 : (j : Int) < l.length := by omega
      obtain ⟨g, o, rfl, hg, hc⟩ := HV.out.1.at hlt
      have hgw := Nat.lt_of_lt_of_le hg HR.out.below.size
      obtain ⟨c0, c1⟩ := hc.keep (HR.out.below.block g hg)
      have hT : l.take (j + 1) = l.take j ++ [l[j]] := by rw [List.take_add_one, List.getElem?_eq_getElem hlt]; rfl
      have HT : Hid ((joinB (l.take (j + 1))).data.toList = (joinB (l.take j)).data.toList ++ l[j].raw.data.toList) := by
        show _ = _
        rw [hT, joinB_snoc]
      have hs1 := HV.out.2 _ (List.getElem_mem hlt)
      have hs2 : (joinB (l.take j)).data.toList.length ≤ 512 * j := by
        have := joinB_le (l.take j) fun x hx => HV.out.2 x (List.mem_of_mem_take hx)
        rw [List.length_take] at this
        have : min j l.length ≤ j := Nat.min_le_left _ _
        omega
      clear hc hT
      generalize l[j] = x at *
      obtain ⟨a, r⟩ := x
      simp only at c0 c1 hs1 HT
      have hbA : Below wr.heap.size wr (wr.alloc (.cells #[.int .i64 a, .string r] 68)) := (Below.refl _ _).alloc (Nat.le_refl _) _
      have hwc := ptWrite_any w.heap.size w.heap.size _ r _ (Bl_keep HR.out.bl hbA) (by omega) (Nat.le_trans HR.out.below.size hbA.size)
      have HB1 : Hid (Below w.heap.size w (wr.alloc (.cells #[.int .i64 a, .string r] 68))) := HR.out.below.trans (hbA.mono HR.out.below.size)
      clear hbA
      go_wp2_with fail
      refine hwc.mono ?_
      rintro e w3 ⟨rfl, hB3, hb3⟩
      have HF : Hid (JoR w l (j + 1) w3) := ⟨by rw [HT.out]; exact hB3, HB1.out.trans hb3⟩
      clear hwc hB3 hb3
      go_wp2
      go_roundw
      case rel => exact ⟨j + 1, by omega, by go_num, HF⟩
      case measure => simp [intOf]; omega
    · obtain rfl : j = l.length := by omega
      have j1 : ¬ ((l.length : Nat) : Int) < l.length := by omega
      have hs := ctString_any w.heap.size w.heap.size _ wr HR.out.bl HR.out.below.size
      rw [List.take_length] at hs
      have HX : Hid ((⟨(joinB l).data.toList.toArray⟩ : ByteArray) = joinB l) := by show _ = _; simp
      rw [HX.out] at hs
      go_wp2_with fail
      refine hs.mono ?_
      rintro e w2 ⟨rfl, hb2⟩
      have HL2 : Hid (Below w.heap.size w w2) := HR.out.below.trans hb2
      clear hs hb2
      go_wp2
      go_ret
      exact ⟨rfl, HL2.out⟩
theorem recsL_length (log : Int) : ∀ (l : List Wt) (i : Nat), (recsL log i l).length = l.length
  | [], _ => rfl
  | x :: l, i => by simp [recsL, recsL_length log l (i + 1)]
theorem recsL_snoc (log : Int) (x : Wt) : ∀ (l : List Wt) (i : Nat), recsL log i (l ++ [x]) = recsL log i l ++ [⟨log + ((i + l.length : Nat) : Int), x.raw⟩]
  | [], i => rfl
  | y :: l, i => by
    rw [List.cons_append, recsL, recsL_snoc log x l (i + 1), recsL, List.length_cons, show i + 1 + l.length = i + (l.length + 1) by omega]
    rfl
set_option maxHeartbeats 4000000 in
theorem records_any (n q s2 t : Nat) (v : Value) (l : List Wt) (w : World) (hv : Wts w v l) (hll : l.length ≤ 1000) :
    Calls Tryz.prog 57 #[.agg (layA n q s2 t), v] w fun e w' => ∃ v', e = .returned v' ∧ WZ w' w.heap.size v' (recsL 3 0 l) ∧ Below w.heap.size w w' := by
  obtain ⟨oa, ca, rfl⟩ := hv.form
  obtain ⟨i0, hi0, hz0, hz1, hz2⟩ := info_parts jn_info_wt
  have HV : Hid (Wts w (.slice oa l.length ca) l) := hv
  have hr0 : (w.alloc (.cells (layA n q s2 t) 51)).heap[w.heap.size]? = some (.cells (layA n q s2 t) 51 (0, 0)) := heap_alloc_new w _
  obtain ⟨A, hA⟩ : ∃ A, A = layA n q s2 t := ⟨_, rfl⟩
  have hA2 : A[2]? = some (.int .i64 3) := by rw [hA]; rfl
  rw [← hA] at hr0 ⊢
  clear hA hv
  have HI : Hid ((w.alloc (.cells A 51)).heap[w.heap.size]? = some (.cells A 51 (0, 0)) ∧ Below w.heap.size w (w.alloc (.cells A 51)) ∧ A[2]? = some (.int .i64 3)) := ⟨hr0, (Below.refl _ _).alloc (Nat.le_refl _) _, hA2⟩
  clear hr0 hA2
  go_enter Tryz.func57, Tryz.ntmps57
  go_wp2_with fail
  go_loopw [5, 10] (fun sv iv wr => ∃ (j : Nat), j ≤ l.length ∧ iv = .int .i64 (j : Int) ∧ WZ wr (w.heap.size + 1) sv (recsL 3 0 (l.take j)) ∧ Hid (Below w.heap.size w wr ∧ wr.heap[w.heap.size]? = some (.cells A 51 (0, 0)))) (fun _ iv _ => l.length - (intOf iv).toNat)
  case atStart => exact ⟨0, Nat.zero_le _, rfl, WZ.nil _ _, HI.out.2.1, HI.out.1⟩
  case round =>
    obtain ⟨j, hj, rfl, hown, HB⟩ := hrel
    have hrl : (recsL 3 0 (l.take j)).length = j := by rw [recsL_length, List.length_take]; omega
    obtain ⟨ob, cap, rfl⟩ := hown.form
    rw [hrl] at hown ⊢
    by_cases hlt : j < l.length
    · have j1 : (j : Int) < l.length := by omega
      obtain ⟨g, o, rfl, hg, hc⟩ := HV.out.at hlt
      have hgw := Nat.lt_of_lt_of_le hg HB.out.1.size
      obtain ⟨c0, c1⟩ := hc.keep (HB.out.1.block g hg)
      have HN : Hid (recsL 3 0 (l.take (j + 1)) = recsL 3 0 (l.take j) ++ [⟨3 + (j : Int), l[j].raw⟩]) := by
        show _ = _
        rw [List.take_add_one, List.getElem?_eq_getElem hlt]
        show recsL 3 0 (l.take j ++ [l[j]]) = _
        rw [recsL_snoc, Nat.zero_add, List.length_take, Nat.min_eq_left (by omega)]
      clear hc
      generalize l[j] = x at *
      obtain ⟨a, r⟩ := x
      simp only at c0 c1 HN
      generalize recsL 3 0 (l.take j) = d at *
      subst hrl
      have e2 : (wr.alloc (.cells #[.int .i64 a, .string r] 68)).cell? ⟨w.heap.size, 2, none⟩ = some (.int .i64 3) := by
        have hz := lt_of_block HB.out.2
        have hx := (Below.heap_alloc wr (.cells #[.int .i64 a, .string r] 68) _ hz).trans HB.out.2
        simp [World.cell?, hx, HI.out.2.2]
      have hz := lt_of_block HB.out.2
      have hb1 : Below w.heap.size w (wr.alloc (.cells #[.int .i64 a, .string r] 68)) := HB.out.1.alloc HB.out.1.size _
      have hown1 := World.ownsRow.alloc hown (.cells #[.int .i64 a, .string r] 68)
      have hownC := World.ownsRow.alloc hown1 (.cells #[.int .i64 (3 + (d.length : Int)), .string r] 68)
      have hnew : ((wr.alloc (.cells #[.int .i64 a, .string r] 68)).alloc (.cells #[.int .i64 (3 + (d.length : Int)), .string r] 68)).heap[wr.heap.size + 1]? = some (.cells #[.int .i64 (3 + (d.length : Int)), .string r] 68 (0, 0)) := heap_alloc2_new wr _ _
      have hone : ∀ u ∈ ([.int .i64 (3 + (d.length : Int)), .string r] : List Value), u.oneCell' = true := by intro u hu; simp at hu; rcases hu with rfl | rfl <;> rfl
      have HO : Hid (WZ wr (w.heap.size + 1) (.slice ob d.length cap) d ∧ Below w.heap.size w ((wr.alloc (.cells #[.int .i64 a, .string r] 68)).alloc (.cells #[.int .i64 (3 + (d.length : Int)), .string r] 68)) ∧ ((wr.alloc (.cells #[.int .i64 a, .string r] 68)).alloc (.cells #[.int .i64 (3 + (d.length : Int)), .string r] 68)).heap[w.heap.size]? = some (.cells A 51 (0, 0))) := ⟨hown, hb1.alloc hb1.size _, (Below.heap_alloc _ _ _ (by simp; omega)).trans ((Below.heap_alloc _ _ _ hz).trans HB.out.2)⟩
      have hbs := HB.out.1.size
      clear hown hown1 hb1 HB HI
      go_wp2_with (first | (at_builtin; (refine wpList_append_own _ rfl _ _ 76 rfl (w.heap.size + 1) 68 i0 _ 2 24 Tryz.underlying76 hi0 hz0 hz1 hz2 rfl (by decide) (.slice ob d.length cap) d.length (d.flatMap Wt.cells) rfl hownC ⟨wr.heap.size + 1, 0, none⟩ 1 1 [.int .i64 (3 + (d.length : Int)), .string r] rfl rfl (World.news_of_block hnew) hone (by unfold maxLen; omega) (by omega) (by simp; omega) ?_)))
      intro v1 wB hown2 hgrow2 _
      have hTB : Below (w.heap.size + 1) ((wr.alloc (.cells #[.int .i64 a, .string r] 68)).alloc (.cells #[.int .i64 (3 + (d.length : Int)), .string r] 68)) wB := (Below.refl _ _).grown hgrow2 (by simp; omega) fun k hk => (World.ownsRow.lt HO.out.1 k hk).1
      have HF : Hid (WZ wB (w.heap.size + 1) v1 (recsL 3 0 (l.take (d.length + 1))) ∧ Below w.heap.size w wB ∧ wB.heap[w.heap.size]? = some (.cells A 51 (0, 0))) := by
        refine ⟨?_, HO.out.2.1.trans (hTB.mono (by omega)), (hTB.block w.heap.size (by omega)).trans HO.out.2.2⟩
        unfold WZ
        rw [HN.out, List.length_append, List.length_singleton, List.flatMap_append, List.flatMap_singleton]
        exact hown2
      clear hownC hnew hown2 hgrow2 hTB hone c0 c1 e2
      go_wp2
      go_roundw
      case rel => exact ⟨d.length + 1, by omega, by go_num, HF.out.1, HF.out.2.1, HF.out.2.2⟩
      case measure => simp [intOf]; omega
    · obtain rfl : j = l.length := by omega
      have j1 : ¬ ((l.length : Nat) : Int) < l.length := by omega
      have HF : Hid (WZ wr w.heap.size (.slice ob l.length cap) (recsL 3 0 l) ∧ Below w.heap.size w wr) := by
        rw [List.take_length] at hown
        refine ⟨?_, HB.out.1⟩
        exact WZ.mono hown (Nat.le_succ _)
      clear hown HB
      go_wp2
      go_ret
      exact ⟨_, rfl, HF.out.1, HF.out.2⟩
end Go.Proofs.YtoopaigpjefonaaGreatDoor

namespace Go.Proofs.YtoopaigpjefonaaGreatDoor
set_option maxRecDepth 20000
open Go.RowKit

theorem bel_alloc (w : World) (o : Obj) : Below w.heap.size w (w.alloc o) := (Below.refl _ _).alloc (Nat.le_refl _) _
theorem wts_new1 (w : World) (g : Nat) (a : Int) (r : ByteArray) (t cap : Nat) (hg : g = w.heap.size) : Wts (w.alloc (.cells #[.int .i64 a, .string r] t)) (.slice (some ⟨g, 0, none⟩) 1 cap) [⟨a, r⟩] := by
  subst hg
  refine .inr ⟨w.heap.size, 0, cap, rfl, by simp, fun i x hx => ?_⟩
  have hi : i = 0 := by have := (List.getElem?_eq_some_iff.1 hx).1; simp at this; omega
  subst hi
  cases hx
  have g := heap_alloc_new w (.cells #[.int .i64 a, .string r] t)
  exact ⟨cell_of_row _ _ 0 _ _ _ g, cell_of_row _ _ 1 _ _ _ g⟩
theorem wts_new2 (w : World) (g : Nat) (a b : Int) (r s : ByteArray) (t cap : Nat) (hg : g = w.heap.size) : Wts (w.alloc (.cells #[.int .i64 a, .string r, .int .i64 b, .string s] t)) (.slice (some ⟨g, 0, none⟩) 2 cap) [⟨a, r⟩, ⟨b, s⟩] := by
  subst hg
  refine .inr ⟨w.heap.size, 0, cap, rfl, by simp, fun i x hx => ?_⟩
  have hi : i = 0 ∨ i = 1 := by have := (List.getElem?_eq_some_iff.1 hx).1; simp at this; omega
  have g := heap_alloc_new w (.cells #[.int .i64 a, .string r, .int .i64 b, .string s] t)
  rcases hi with rfl | rfl
  · cases hx
    exact ⟨cell_of_row _ _ 0 _ _ _ g, cell_of_row _ _ 1 _ _ _ g⟩
  · cases hx
    exact ⟨cell_of_row _ _ 2 _ _ _ g, cell_of_row _ _ 3 _ _ _ g⟩
/-- A list of writes that lies outside of a footprint. -/
def WtO (F : Nat → Prop) (w : World) (v : Value) (l : List Wt) : Prop := Wts w v l ∧ (l ≠ [] → Wts.Out v F)
theorem WtO.below {F : Nat → Prop} {w w' : World} {v : Value} {l : List Wt} (h : WtO F w v l) (hb : Below w.heap.size w w') : WtO F w' v l := ⟨h.1.below hb, h.2⟩
theorem out_of {F : Nat → Prop} {g o len cap : Nat} (h : ¬ F g) : Wts.Out (.slice (some ⟨g, o, none⟩) len cap) F := fun g' _ _ _ e => by
  simp only [Value.slice.injEq, Option.some.injEq, Addr.mk.injEq] at e
  obtain ⟨⟨rfl, _⟩, _⟩ := e
  exact h
theorem ba {a w : World} {o : Obj} (h : Below a.heap.size a w) : Below a.heap.size a (w.alloc o) := h.alloc h.size o
theorem bd {a w : World} {B : Nat} (h : Below B a w) : Below B a w.drew := h.drew
theorem Wts.drew {w : World} {v : Value} {l : List Wt} (h : Wts w v l) : Wts w.drew v l := by
  rcases h with h | ⟨g, o, cap, e, hg, hx⟩
  · exact .inl h
  · exact .inr ⟨g, o, cap, e, hg, fun i x hi => ⟨(hx i x hi).c0, (hx i x hi).c1⟩⟩
theorem Wts.al {w : World} {o : Obj} {v : Value} {l : List Wt} (h : Wts w v l) : Wts (w.alloc o) v l := h.below (bel_alloc w o)
theorem ErrT.bel {w w' : World} (h : ErrT w) (hb : Below w.heap.size w w') : ErrT w' := h.below hb (lt_of_cell_ h)
theorem duo_fin {K : VK} {F : Nat → Prop} {B : Nat} {P : PS} {S : K.σ} {w w3 Wc wF : World} (hT : Touch F w w3) (hlt : ∀ k, F k → k < w.heap.size) (hb : Below w3.heap.size w3 Wc) (hd : Duo K wF (grow F Wc wF) B P S) (ht : Touch F Wc wF) : Duo K wF (grow F w wF) B P S ∧ Touch F w wF := by
  have h1 : Touch F w Wc := hT.trans (Touch.of_below hb)
  have h2 : Touch F w wF := h1.trans (ht.mono fun _ h => .inl h)
  refine ⟨hd.mono (fun k hk => ?_) (fun k hk => ?_), h2⟩
  · rcases hk with hk | hk
    · exact .inl hk
    · exact .inr ⟨Nat.le_trans h1.size hk.1, hk.2⟩
  · rcases hk with hk | hk
    · exact Nat.lt_of_lt_of_le (hlt k hk) h2.size
    · exact hk.2
theorem duo_step {K : VK} (HK : VKOk K) {F : Nat → Prop} {B : Nat} {P : PS} {S : K.σ} {w wF wG : World} (h : Duo K wF (grow F w wF) B P S ∧ Touch F w wF) (hb : Below wF.heap.size wF wG) : Duo K wG (grow F w wG) B P S ∧ Touch F w wG := by
  have ht : Touch F w wG := h.2.trans (Touch.of_below hb)
  refine ⟨(h.1.below HK hb).mono (fun k hk => ?_) (fun k hk => ?_), ht⟩
  · rcases hk with hk | hk
    · exact .inl hk
    · exact .inr ⟨hk.1, Nat.lt_of_lt_of_le hk.2 hb.size⟩
  · rcases hk with hk | hk
    · have := h.1.lt k (.inl hk); have := hb.size; omega
    · exact hk.2
theorem keep_block {W3 Wc wF : World} {F : Nat → Prop} {g : Nat} (hb : Below W3.heap.size W3 Wc) (ht : Touch F Wc wF) (hg : g < W3.heap.size) (hF : ¬ F g) : wF.heap[g]? = W3.heap[g]? := (ht.2 g (Nat.lt_of_lt_of_le hg hb.size) hF).trans (hb.block g hg)
theorem keep_cells {W3 Wc wF : World} {F : Nat → Prop} {g : Nat} (hb : Below W3.heap.size W3 Wc) (ht : Touch F Wc wF) (hg : g < W3.heap.size) (hF : ¬ F g) (i : Nat) (v : Value) (h : Wc.cell? ⟨g, i, none⟩ = some v) : wF.cell? ⟨g, i, none⟩ = some v :=
  (World.cell?_of_block (a := ⟨g, i, none⟩) (ht.2 g (Nat.lt_of_lt_of_le hg hb.size) hF)).trans h
/-- follow at one step and at more, the steps' slices just laid. -/
theorem follow_1 (K : VK) (HK : VKOk K) (F : Nat → Prop) (B : Nat) (P : PS) (S : K.σ) (W : World) (v1 : Value) (l1 : List Wt) (g : Nat) (t cap : Nat) (hgW : g = W.heap.size) (h : Duo K W F B P S) (hw : P.wait.length + 8 * total [l1] ≤ 900000) (hg : ErrT W) (hF : ¬ F 3) (h1 : WtO F W v1 l1) :
    Calls Tryz.prog 31 #[.pointer (some ⟨B, 0, none⟩), .slice (some ⟨g, 0, none⟩) 1 cap] (W.alloc (.cells #[v1] t)) fun e w' => (∃ v, e = .returned v ∧ RetV (folE [l1] P) v) ∧ Duo K w' (grow F (W.alloc (.cells #[v1] t)) w') B (folP [l1] P) S ∧ Touch F (W.alloc (.cells #[v1] t)) w' := by
  subst hgW
  have hb := bel_alloc W (.cells #[v1] t)
  refine (h.below HK hb).plateC HK (E := fun e => ∃ v, e = .returned v ∧ RetV (folE [l1] P) v) fun F1 hp hin => ?_
  refine follow_any W.heap.size 0 cap [l1] B F1 P _ ⟨by simp, fun hk => by have := h.lt _ (hin _ hk); omega, fun i l hl => ?_⟩ (by simp) hp hw (hg.touch (Touch.of_below hb (F := F)) hF) (fun hk => hF (hin _ hk))
  have hi : i = 0 := by have := (List.getElem?_eq_some_iff.1 hl).1; simp at this; omega
  subst hi
  cases hl
  exact ⟨v1, cell_of_row _ _ 0 _ _ _ (heap_alloc_new W _), (h1.below hb).1, fun hn g o len cap e hk => h1.2 hn g o len cap e (hin g hk)⟩
theorem follow_2 (K : VK) (HK : VKOk K) (F : Nat → Prop) (B : Nat) (P : PS) (S : K.σ) (W : World) (v1 v2 : Value) (l1 l2 : List Wt) (g : Nat) (t cap : Nat) (hgW : g = W.heap.size) (h : Duo K W F B P S) (hw : P.wait.length + 8 * total [l1, l2] ≤ 900000) (hg : ErrT W) (hF : ¬ F 3) (h1 : WtO F W v1 l1) (h2 : WtO F W v2 l2) :
    Calls Tryz.prog 31 #[.pointer (some ⟨B, 0, none⟩), .slice (some ⟨g, 0, none⟩) 2 cap] (W.alloc (.cells #[v1, v2] t)) fun e w' => (∃ v, e = .returned v ∧ RetV (folE [l1, l2] P) v) ∧ Duo K w' (grow F (W.alloc (.cells #[v1, v2] t)) w') B (folP [l1, l2] P) S ∧ Touch F (W.alloc (.cells #[v1, v2] t)) w' := by
  subst hgW
  have hb := bel_alloc W (.cells #[v1, v2] t)
  refine (h.below HK hb).plateC HK (E := fun e => ∃ v, e = .returned v ∧ RetV (folE [l1, l2] P) v) fun F1 hp hin => ?_
  refine follow_any W.heap.size 0 cap [l1, l2] B F1 P _ ⟨by simp, fun hk => by have := h.lt _ (hin _ hk); omega, fun i l hl => ?_⟩ (by simp) hp hw (hg.touch (Touch.of_below hb (F := F)) hF) (fun hk => hF (hin _ hk))
  have hi : i = 0 ∨ i = 1 := by have := (List.getElem?_eq_some_iff.1 hl).1; simp at this; omega
  rcases hi with rfl | rfl
  · cases hl
    exact ⟨v1, cell_of_row _ _ 0 _ _ _ (heap_alloc_new W _), (h1.below hb).1, fun hn g o len cap e hk => h1.2 hn g o len cap e (hin g hk)⟩
  · cases hl
    exact ⟨v2, cell_of_row _ _ 1 _ _ _ (heap_alloc_new W _), (h2.below hb).1, fun hn g o len cap e hk => h2.2 hn g o len cap e (hin g hk)⟩
theorem follow_4 (K : VK) (HK : VKOk K) (F : Nat → Prop) (B : Nat) (P : PS) (S : K.σ) (W : World) (v1 v2 v3 v4 : Value) (l1 l2 l3 l4 : List Wt) (g : Nat) (t cap : Nat) (hgW : g = W.heap.size) (h : Duo K W F B P S) (hw : P.wait.length + 8 * total [l1, l2, l3, l4] ≤ 900000) (hg : ErrT W) (hF : ¬ F 3) (h1 : WtO F W v1 l1) (h2 : WtO F W v2 l2) (h3 : WtO F W v3 l3) (h4 : WtO F W v4 l4) :
    Calls Tryz.prog 31 #[.pointer (some ⟨B, 0, none⟩), .slice (some ⟨g, 0, none⟩) 4 cap] (W.alloc (.cells #[v1, v2, v3, v4] t)) fun e w' => (∃ v, e = .returned v ∧ RetV (folE [l1, l2, l3, l4] P) v) ∧ Duo K w' (grow F (W.alloc (.cells #[v1, v2, v3, v4] t)) w') B (folP [l1, l2, l3, l4] P) S ∧ Touch F (W.alloc (.cells #[v1, v2, v3, v4] t)) w' := by
  subst hgW
  have hb := bel_alloc W (.cells #[v1, v2, v3, v4] t)
  refine (h.below HK hb).plateC HK (E := fun e => ∃ v, e = .returned v ∧ RetV (folE [l1, l2, l3, l4] P) v) fun F1 hp hin => ?_
  refine follow_any W.heap.size 0 cap [l1, l2, l3, l4] B F1 P _ ⟨by simp, fun hk => by have := h.lt _ (hin _ hk); omega, fun i l hl => ?_⟩ (by simp) hp hw (hg.touch (Touch.of_below hb (F := F)) hF) (fun hk => hF (hin _ hk))
  have hi : i = 0 ∨ i = 1 ∨ i = 2 ∨ i = 3 := by have := (List.getElem?_eq_some_iff.1 hl).1; simp at this; omega
  rcases hi with rfl | rfl | rfl | rfl
  · cases hl
    exact ⟨v1, cell_of_row _ _ 0 _ _ _ (heap_alloc_new W _), (h1.below hb).1, fun hn g o len cap e hk => h1.2 hn g o len cap e (hin g hk)⟩
  · cases hl
    exact ⟨v2, cell_of_row _ _ 1 _ _ _ (heap_alloc_new W _), (h2.below hb).1, fun hn g o len cap e hk => h2.2 hn g o len cap e (hin g hk)⟩
  · cases hl
    exact ⟨v3, cell_of_row _ _ 2 _ _ _ (heap_alloc_new W _), (h3.below hb).1, fun hn g o len cap e hk => h3.2 hn g o len cap e (hin g hk)⟩
  · cases hl
    exact ⟨v4, cell_of_row _ _ 3 _ _ _ (heap_alloc_new W _), (h4.below hb).1, fun hn g o len cap e hk => h4.2 hn g o len cap e (hin g hk)⟩
end Go.Proofs.YtoopaigpjefonaaGreatDoor

namespace Go.Proofs.YtoopaigpjefonaaGreatDoor
set_option maxRecDepth 20000
open Go.RowKit

set_option maxHeartbeats 2000000 in
theorem format_bad (p v : Value) (a0 a1 a2 a3 : Int) (r : ByteArray) (w : World) (hI : ∀ W, Below w.heap.size w W → Calls Tryz.prog 27 #[p, .agg #[.int .i64 a0, .int .i64 a1, .int .i64 a2, .int .i64 a3, .string r]] W fun e W' => e = .returned (.bool false) ∧ Below W.heap.size W W') :
    Calls Tryz.prog 9 #[p, v, .agg #[.int .i64 a0, .int .i64 a1, .int .i64 a2, .int .i64 a3, .string r]] w fun e w' => e = .returned (.int .i64 1) ∧ Below w.heap.size w w' := by
  have hb0 := bel_alloc w (.cells #[.int .i64 a0, .int .i64 a1, .int .i64 a2, .int .i64 a3, .string r] 23)
  have h1 := hI _ hb0
  have HB : Hid _ := hb0
  clear hI hb0
  go_enter Tryz.func9, Tryz.ntmps9
  go_wp2_with fail
  refine h1.mono ?_
  rintro e w1 ⟨rfl, hb1⟩
  have HB1 : Hid (Below w.heap.size w w1) := HB.out.trans (hb1.mono HB.out.size)
  clear h1 hb1 HB
  go_wp2
  go_ret
  exact ⟨rfl, HB1.out⟩
set_option maxHeartbeats 4000000 in
theorem format_in (K : VK) (HK : VKOk K) (F : Nat → Prop) (B : Nat) (P : PS) (S : K.σ) (s : Sp) (w : World) (A : Int) (R : ByteArray) (h : Duo K w F B P S) (hr : K.room S 1) (hw : P.wait.length ≤ 100000) (hg : ErrT w) (hF : ¬ F 3) (hlv : loE (P.kept.length : Nat) = 0 ∧ loN (P.kept.length : Nat) = s.lv) (he : s.err = 0) (hs : sonE P s = 0) (hA : sonA P s = A) (hA1 : 0 ≤ A ∧ A ≤ 1) (hR : sonR K P S s = R) :
    Calls Tryz.prog 9 #[.pointer (some ⟨B, 0, none⟩), K.v, .agg s.arr] w fun e w' => e = .returned (.int .i64 (ansE (folE [[⟨1 - A, fillS 0 512⟩, ⟨2, fillS 0 512⟩], [⟨A, R⟩]] P))) ∧ Duo K w' (grow F w w') B (folP [[⟨1 - A, fillS 0 512⟩, ⟨2, fillS 0 512⟩], [⟨A, R⟩]] P) (sonS K P S s) ∧ Touch F w w' := by
  obtain ⟨w0, hw0⟩ : ∃ w0, w.alloc (.cells s.arr 23) = w0 := ⟨_, rfl⟩
  have hb0 : Below w.heap.size w w0 := by rw [← hw0]; exact bel_alloc w _
  have g0 : w0.heap[w.heap.size]? = some (.cells s.arr 23 (0, 0)) := by rw [← hw0]; exact heap_alloc_new w _
  have hI := isOf_duo K HK F B P S s w0 (h.below HK hb0)
  rw [decide_eq_true hlv] at hI
  have hU := fun W (hW : Below w0.heap.size w0 W) => unseal_duo K HK F B P S s W ((h.below HK hb0).below HK hW) (HK.less hr (by omega))
  rw [he] at hU
  have hO := fun W (hW : Below w0.heap.size w0 W) => superOn_any K HK F B P S s W ((h.below HK hb0).below HK hW) hr
  rw [hs, hA, hR] at hO
  have hbl := fun (a : Int) (W : World) => jblank_any a W
  have hans := answer_any (folE [[⟨1 - A, fillS 0 512⟩, ⟨2, fillS 0 512⟩], [⟨A, R⟩]] P)
  have hwr : IntKind.i64.wrap (1 - A) = 1 - A := by
    rcases (show A = 0 ∨ A = 1 by omega) with rfl | rfl <;> rfl
  rw [← hwr] at hans ⊢
  clear hwr
  have HW3 : Hid (P.wait.length + 8 * total [[(⟨IntKind.i64.wrap (1 - A), fillS 0 512⟩ : Wt), ⟨2, fillS 0 512⟩], [⟨A, R⟩]] ≤ 900000) := by show P.wait.length + 8 * 3 ≤ 900000; omega
  have HH : Hid (Below w.heap.size w w0 ∧ ErrT w ∧ ¬ F 3 ∧ (∀ k, F k → k < w.heap.size) ∧ P.wait.length ≤ 100000) := ⟨hb0, hg, hF, h.lt, hw⟩
  have hsz0 : w.heap.size < w0.heap.size := lt_of_block g0
  obtain ⟨a0, a1, a2, a3, r⟩ := s
  unfold Sp.arr at *
  simp only at g0 hI hU hO hw0
  generalize fillS 0 512 = z at *
  have c0 : w0.cell? ⟨w.heap.size, 0, none⟩ = some (.int .i64 a0) := cell_of_row _ _ 0 _ _ _ g0
  have c1 : w0.cell? ⟨w.heap.size, 1, none⟩ = some (.int .i64 a1) := cell_of_row _ _ 1 _ _ _ g0
  have c2 : w0.cell? ⟨w.heap.size, 2, none⟩ = some (.int .i64 a2) := cell_of_row _ _ 2 _ _ _ g0
  have c3 : w0.cell? ⟨w.heap.size, 3, none⟩ = some (.int .i64 a3) := cell_of_row _ _ 3 _ _ _ g0
  have c4 : w0.cell? ⟨w.heap.size, 4, none⟩ = some (.string r) := cell_of_row _ _ 4 _ _ _ g0
  clear h hr hw hg hF hlv he hs hA hR hb0
  go_enter Tryz.func9, Tryz.ntmps9
  go_wp2_with fail
  try rw [hw0]
  refine hI.mono ?_
  rintro e w1 ⟨rfl, hb1⟩
  have d0 := (hb1.cell (p := ⟨w.heap.size, 0, none⟩) hsz0).trans c0
  have d1 := (hb1.cell (p := ⟨w.heap.size, 1, none⟩) hsz0).trans c1
  have d2 := (hb1.cell (p := ⟨w.heap.size, 2, none⟩) hsz0).trans c2
  have d3 := (hb1.cell (p := ⟨w.heap.size, 3, none⟩) hsz0).trans c3
  have d4 := (hb1.cell (p := ⟨w.heap.size, 4, none⟩) hsz0).trans c4
  have HB1 : Hid (Below w0.heap.size w0 w1) := hb1
  clear hI c0 c1 c2 c3 c4
  go_wp2_with fail
  refine (hU _ hb1).mono ?_
  rintro e w2 ⟨rfl, hb2⟩
  have hsz1 := Nat.lt_of_lt_of_le hsz0 hb1.size
  have e0 := (hb2.cell (p := ⟨w.heap.size, 0, none⟩) hsz1).trans d0
  have e1 := (hb2.cell (p := ⟨w.heap.size, 1, none⟩) hsz1).trans d1
  have e2 := (hb2.cell (p := ⟨w.heap.size, 2, none⟩) hsz1).trans d2
  have e3 := (hb2.cell (p := ⟨w.heap.size, 3, none⟩) hsz1).trans d3
  have e4 := (hb2.cell (p := ⟨w.heap.size, 4, none⟩) hsz1).trans d4
  have hb02 : Below w0.heap.size w0 w2 := hb1.trans (hb2.mono hb1.size)
  have HB2 : Hid (Below w0.heap.size w0 w2) := hb02
  clear hU d0 d1 d2 d3 d4 hb1 hb2 HB1
  go_wp2_with fail
  refine (hO _ hb02).mono ?_
  rintro e w3 ⟨rfl, hd3, ht3⟩
  have HB3 : Hid (Duo K w3 F B P (sonS K P S ⟨a0, a1, a2, a3, r⟩) ∧ Touch F w2 w3) := ⟨hd3, ht3⟩
  clear hO hd3 ht3 e0 e1 e2 e3 e4 hb02
  go_wp2_with fail
  have HKS : Hid (∀ W, Below (w3.alloc (.cells #[.int .i64 A, .string R] 68)).heap.size (w3.alloc (.cells #[.int .i64 A, .string R] 68)) W → W.cell? ⟨w3.heap.size, 0, none⟩ = some (.int .i64 A) ∧ W.cell? ⟨w3.heap.size, 1, none⟩ = some (.string R)) := fun W hW => by
    have g := (hW.block w3.heap.size (by simp)).trans (heap_alloc_new w3 (.cells #[.int .i64 A, .string R] 68))
    exact ⟨cell_of_row _ _ 0 _ _ _ g, cell_of_row _ _ 1 _ _ _ g⟩
  have HBX : Hid (True ∧ Below (w3.alloc (.cells #[.int .i64 A, .string R] 68)).heap.size (w3.alloc (.cells #[.int .i64 A, .string R] 68)) (w3.alloc (.cells #[.int .i64 A, .string R] 68))) := ⟨trivial, Below.refl _ _⟩
  have HT3 : Hid (Touch F w (w3.alloc (.cells #[.int .i64 A, .string R] 68))) := ((Touch.of_below HH.out.1).trans ((Touch.of_below (HB2.out)).trans ((HB3.out.2.mono fun _ h => .inl (.inl h))))).trans (Touch.of_below (bel_alloc _ _))
  have HD3 : Hid (Duo K (w3.alloc (.cells #[.int .i64 A, .string R] 68)) F B P (sonS K P S ⟨a0, a1, a2, a3, r⟩)) := HB3.out.1.below HK (bel_alloc _ _)
  have HE3 : Hid (ErrT (w3.alloc (.cells #[.int .i64 A, .string R] 68))) := HH.out.2.1.touch HT3.out HH.out.2.2.1
  have hz3 : w.heap.size ≤ w3.heap.size := by have := HT3.out.size; have q1 := HH.out.1.size; have q2 := HB2.out.size; have q3 := HB3.out.2.size; omega
  clear hw0 g0 hsz0 hsz1 HB2 HB3
  go_region_held3 (fun w' => w'.cell? ⟨w3.heap.size, 0, none⟩ = some (.int .i64 A) ∧ w'.cell? ⟨w3.heap.size, 1, none⟩ = some (.string R)) (first | exact hsG | exact hsF | exact HKS.out _ (by (repeat (first | exact HBX.out.2 | refine bd ?_ | refine ba ?_)))) (first
    | (go_at_call 32; refine (hbl _ _).mono ?_; rintro e wN ⟨rfl, hsN⟩; have HBY : Hid (Below (w3.alloc (.cells #[.int .i64 A, .string R] 68)).heap.size (w3.alloc (.cells #[.int .i64 A, .string R] 68)) wN) := (show Below (w3.alloc (.cells #[.int .i64 A, .string R] 68)).heap.size (w3.alloc (.cells #[.int .i64 A, .string R] 68)) _ from (by (repeat (first | exact HBX.out.2 | refine bd ?_ | refine ba ?_)))).trans (hsN.mono (show (w3.alloc (.cells #[.int .i64 A, .string R] 68)).heap.size ≤ _ from (show Below (w3.alloc (.cells #[.int .i64 A, .string R] 68)).heap.size (w3.alloc (.cells #[.int .i64 A, .string R] 68)) _ from (by (repeat (first | exact HBX.out.2 | refine bd ?_ | refine ba ?_)))).size)); have hzN : w3.heap.size + 1 ≤ wN.heap.size := (by have q := HBY.out.size; simpa using q); have HBX : Hid (True ∧ Below (w3.alloc (.cells #[.int .i64 A, .string R] 68)).heap.size (w3.alloc (.cells #[.int .i64 A, .string R] 68)) wN) := ⟨trivial, HBY.out⟩; clear HBY)
    | (go_at_call 31; refine (follow_2 K HK F B P (sonS K P S ⟨a0, a1, a2, a3, r⟩) _ _ _ [⟨IntKind.i64.wrap (1 - A), z⟩, ⟨2, z⟩] [⟨A, R⟩] _ _ 2 ?_ ?_ HW3.out ?_ HH.out.2.2.1 ⟨?_, fun _ => ?_⟩ ⟨?_, fun _ => ?_⟩).mono ?_; (focus (simp; done)); (focus (exact HD3.out.below HK (by (repeat (first | exact HBX.out.2 | refine bd ?_ | refine ba ?_))); done)); (focus (exact HE3.out.bel (by (repeat (first | exact HBX.out.2 | refine bd ?_ | refine ba ?_))); done)); (focus ((repeat (first | exact wts_new2 _ _ _ _ _ _ _ _ (by simp) | refine Wts.drew ?_ | refine Wts.al ?_ | refine Wts.below ?_ (by assumption))); done)); (focus ((exact out_of (fun hk => by have q := HH.out.2.2.2.1 _ hk; omega)); done)); (focus ((repeat (first | exact wts_new1 _ _ _ _ _ _ (by simp) | refine Wts.drew ?_ | refine Wts.al ?_ | refine Wts.below ?_ (by assumption))); done)); (focus ((exact out_of (fun hk => by have q := HH.out.2.2.2.1 _ hk; omega)); done)); rintro e wF ⟨⟨fv, rfl, hrv⟩, hdF, htF⟩;  have HFin : Hid _ := duo_fin HT3.out HH.out.2.2.2.1 (by (repeat (first | exact HBX.out.2 | refine bd ?_ | refine ba ?_))) hdF htF; have hsF : wF.cell? ⟨w3.heap.size, 0, none⟩ = some (.int .i64 A) ∧ wF.cell? ⟨w3.heap.size, 1, none⟩ = some (.string R) := ⟨keep_cells (W3 := w3.alloc (.cells #[.int .i64 A, .string R] 68)) (by (repeat (first | exact HBX.out.2 | refine bd ?_ | refine ba ?_))) htF (by simp) (fun hk => by have q := HH.out.2.2.2.1 _ hk; omega) 0 _ (HKS.out _ (by (repeat (first | exact HBX.out.2 | refine bd ?_ | refine ba ?_)))).1, keep_cells (W3 := w3.alloc (.cells #[.int .i64 A, .string R] 68)) (by (repeat (first | exact HBX.out.2 | refine bd ?_ | refine ba ?_))) htF (by simp) (fun hk => by have q := HH.out.2.2.2.1 _ hk; omega) 1 _ (HKS.out _ (by (repeat (first | exact HBX.out.2 | refine bd ?_ | refine ba ?_)))).2⟩; clear hdF htF)
    | (go_at_call 30; refine (hans _ hrv _).mono ?_; rintro e wG ⟨rfl, hG⟩; have HGin : Hid _ := duo_step HK HFin.out hG; have hsG : wG.cell? ⟨w3.heap.size, 0, none⟩ = some (.int .i64 A) ∧ wG.cell? ⟨w3.heap.size, 1, none⟩ = some (.string R) := ⟨(hG.cell (p := ⟨w3.heap.size, 0, none⟩) (World.block_lt_of_cell? _ _ hsF.1)).trans hsF.1, (hG.cell (p := ⟨w3.heap.size, 1, none⟩) (World.block_lt_of_cell? _ _ hsF.2)).trans hsF.2⟩; clear hG))
  all_goals
    have HZ : Hid _ := HGin.out
    clear HGin HFin hsF hsG hrv hans hbl
    go_wp2
    go_ret
    exact ⟨rfl, HZ.out⟩
end Go.Proofs.YtoopaigpjefonaaGreatDoor
