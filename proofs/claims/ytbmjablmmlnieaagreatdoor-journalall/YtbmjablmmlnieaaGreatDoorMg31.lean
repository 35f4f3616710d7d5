/- journal's superIn: the superblock that a slot's reading is. · journal's Choose: the superblock of two slots' readings. -/
import Derived.Test.YtbmjablmmlnieaaGreatDoorMg23
import Derived.Laws.Small
import Derived.BigFrame
namespace Go.Proofs.YtbmjablmmlnieaaGreatDoor
set_option maxRecDepth 20000
open Go.RowKit

theorem jsin_ret (tmps : Array Value) (g : Nat) (w' : World) (cs : Array Value) (b : Bool) (R : Ending → World → Prop) (h1 : tmps.getD 6 undef = .pointer (some ⟨g, 0, none⟩)) (h2 : tmps.getD 7 undef = .bool b) (hg : w'.heap[g]? = some (.cells cs 33 (0, 0))) (hs : cs.size = 5) (hR : R (.returned (.tuple #[.agg cs, .bool b])) w') :
    bodyPost Tryz.prog Tryz.f29 R .ret { tmps := tmps, defers := [] } w' := by
  have hr := run_loadVar_row (P := Tryz.prog) w' g 33 33 cs (0, 0) _ hg Tryz.underlying33 rfl (by rw [hs]; kernel_rfl)
  simp at h1 h2
  exact bodyPost_ret (v := .tuple #[.agg cs, .bool b]) (by simp [results, Tryz.results29, asAddr, hr, h1, h2]) rfl hR
set_option maxHeartbeats 4000000 in
theorem jsin_in (ok : Bool) (h : Hd) (s : ByteArray) (c : Sp) (y : Int) (slot live : Int) (w : World)
    (ho : ∀ w, Calls Tryz.prog 62 #[.string s] w fun e w' => e = .returned (.tuple #[.agg c.arr, .int .i64 y]) ∧ Below w.heap.size w w') :
    Calls Tryz.prog 29 #[.agg #[.bool ok, .int .i64 h.v0, .int .i64 h.v1, .int .i64 h.v2, .int .i64 h.v3, .int .i64 h.v4, .int .i64 h.v5, .int .i64 h.v6, .int .i64 h.v7, .string s], .int .i64 slot, .int .i64 live] w fun e w' => e = .returned (.tuple #[.agg (if ok = true ∧ h.v2 = 1 ∧ y = 0 ∧ c.ep.tmod 2 = slot ∧ c.lv = live then c else Sp.zero).arr, .bool (decide (ok = true ∧ h.v2 = 1 ∧ y = 0 ∧ c.ep.tmod 2 = slot ∧ c.lv = live))]) ∧ Below w.heap.size w w' := by
  obtain ⟨c0, c1, c2, c3, r⟩ := c
  simp only [Sp.arr, Sp.zero] at *
  by_cases h1 : ok = true ∧ h.v2 = 1
  · obtain ⟨rfl, h2⟩ := h1
    by_cases h3 : y = 0 ∧ c1.tmod 2 = slot ∧ c3 = live
    · obtain ⟨rfl, h4, h5⟩ := h3
      rw [if_pos ⟨rfl, h2, rfl, h4, h5⟩, decide_eq_true (p := _ ∧ _) ⟨rfl, h2, rfl, h4, h5⟩]
      have k2 : (h.v2 != 1) = false := by simp [h2]
      have k4 : (c1.tmod 2 != slot) = false := by simp [h4]
      have k5 : (c3 != live) = false := by simp [h5]
      clear h2 h4 h5
      go_enter Tryz.func29, Tryz.ntmps29
      go_wp2_with fail
      refine (ho _).mono ?_
      rintro e w1 ⟨rfl, hb1⟩
      have g1 := (hb1.block (w.heap.size + 1) (by simp)).trans (heap_alloc2_new w _ _)
      have hbw : Below w.heap.size w w1 := (((Below.refl _ _).alloc (Nat.le_refl _) _).alloc (by simp) _).trans (hb1.mono (by simp; omega))
      have hlt := lt_of_block g1
      have g2 : (w1.alloc (.cells #[.int .i64 c0, .int .i64 c1, .int .i64 c2, .int .i64 c3, .string r] 33)).heap[w.heap.size + 1]? = some (.cells #[.int .i64 0, .int .i64 0, .int .i64 0, .int .i64 0, .string ⟨#[]⟩] 33 (0, 0)) := (Below.heap_alloc _ _ _ hlt).trans g1
      have gc : (w1.alloc (.cells #[.int .i64 c0, .int .i64 c1, .int .i64 c2, .int .i64 c3, .string r] 33)).heap[w1.heap.size]? = some (.cells #[.int .i64 c0, .int .i64 c1, .int .i64 c2, .int .i64 c3, .string r] 33 (0, 0)) := heap_alloc_new w1 _
      have hb2 : Below w.heap.size w (w1.alloc (.cells #[.int .i64 c0, .int .i64 c1, .int .i64 c2, .int .i64 c3, .string r] 33)) := hbw.alloc (by omega) _
      clear ho hb1 g1 hbw
      go_wp2_with (first | refine wpList_load_row rfl 33 _ rfl w1.heap.size rfl 33 _ (0, 0) _ gc Tryz.underlying33 rfl (by kernel_rfl) ?_ | refine wpList_store_row rfl 33 _ _ rfl (w.heap.size + 1) #[.int .i64 c0, .int .i64 c1, .int .i64 c2, .int .i64 c3, .string r] rfl rfl 33 _ g2 (by kernel_rfl) rfl (by simp [Value.oneCell']) ?_)
      exact jsin_ret _ (w.heap.size + 1) _ #[.int .i64 c0, .int .i64 c1, .int .i64 c2, .int .i64 c3, .string r] true _ rfl rfl (setRow_heap _ _ _ _ _ _ g2) rfl ⟨rfl, below_setRow hb2 (by omega) _⟩
    · rw [if_neg (fun h => h3 h.2.2), decide_eq_false (p := _ ∧ _) (fun h => h3 h.2.2)]
      have k2 : (h.v2 != 1) = false := by simp [h2]
      have hway : (y != 0) = true ∨ ((y != 0) = false ∧ (c1.tmod 2 != slot) = true) ∨ ((y != 0) = false ∧ (c1.tmod 2 != slot) = false ∧ (c3 != live) = true) := by
        by_cases e1 : y = 0
        · by_cases e2 : c1.tmod 2 = slot
          · exact .inr (.inr ⟨by simp [e1], by simp [e2], by simp; exact fun e3 => h3 ⟨e1, e2, e3⟩⟩)
          · exact .inr (.inl ⟨by simp [e1], by simpa using e2⟩)
        · exact .inl (by simpa using e1)
      clear h2 h3
      rcases hway with k3 | ⟨k3, k4⟩ | ⟨k3, k4, k5⟩
      all_goals
        go_enter Tryz.func29, Tryz.ntmps29
        go_wp2_with fail
        refine (ho _).mono ?_
        rintro e w1 ⟨rfl, hb1⟩
        have g1 := (hb1.block (w.heap.size + 1) (by simp)).trans (heap_alloc2_new w _ _)
        have hbw : Below w.heap.size w w1 := (((Below.refl _ _).alloc (Nat.le_refl _) _).alloc (by simp) _).trans (hb1.mono (by simp; omega))
        have hlt := lt_of_block g1
        have g2 : (w1.alloc (.cells #[.int .i64 c0, .int .i64 c1, .int .i64 c2, .int .i64 c3, .string r] 33)).heap[w.heap.size + 1]? = some (.cells #[.int .i64 0, .int .i64 0, .int .i64 0, .int .i64 0, .string ⟨#[]⟩] 33 (0, 0)) := (Below.heap_alloc _ _ _ hlt).trans g1
        have gc : (w1.alloc (.cells #[.int .i64 c0, .int .i64 c1, .int .i64 c2, .int .i64 c3, .string r] 33)).heap[w1.heap.size]? = some (.cells #[.int .i64 c0, .int .i64 c1, .int .i64 c2, .int .i64 c3, .string r] 33 (0, 0)) := heap_alloc_new w1 _
        have hb2 : Below w.heap.size w (w1.alloc (.cells #[.int .i64 c0, .int .i64 c1, .int .i64 c2, .int .i64 c3, .string r] 33)) := hbw.alloc (by omega) _
        clear ho hb1 g1 hbw
        go_wp2_with (refine wpList_store_row rfl 33 _ _ rfl (w.heap.size + 1) #[.int .i64 0, .int .i64 0, .int .i64 0, .int .i64 0, .string ⟨#[]⟩] rfl rfl 33 _ g2 (by kernel_rfl) rfl (by simp [Value.oneCell']) ?_)
        exact jsin_ret _ (w.heap.size + 1) _ #[.int .i64 0, .int .i64 0, .int .i64 0, .int .i64 0, .string ⟨#[]⟩] false _ rfl rfl (setRow_heap _ _ _ _ _ _ g2) rfl ⟨rfl, below_setRow hb2 (by omega) _⟩
  · rw [if_neg (fun h => h1 ⟨h.1, h.2.1⟩), decide_eq_false (p := _ ∧ _) (fun h => h1 ⟨h.1, h.2.1⟩)]
    have hb0 : Below w.heap.size w ((w.alloc (.cells #[.bool ok, .int .i64 h.v0, .int .i64 h.v1, .int .i64 h.v2, .int .i64 h.v3, .int .i64 h.v4, .int .i64 h.v5, .int .i64 h.v6, .int .i64 h.v7, .string s] 81)).alloc (.cells #[.int .i64 0, .int .i64 0, .int .i64 0, .int .i64 0, .string ⟨#[]⟩] 33)) := ((Below.refl _ _).alloc (Nat.le_refl _) _).alloc (by simp) _
    have HB : Hid _ := hb0
    clear ho hb0
    cases ok with
    | false =>
      go_enter Tryz.func29, Tryz.ntmps29
      go_wp2
      exact jsin_ret _ (w.heap.size + 1) _ #[.int .i64 0, .int .i64 0, .int .i64 0, .int .i64 0, .string ⟨#[]⟩] false _ rfl rfl (heap_alloc2_new w _ _) rfl ⟨rfl, HB.out⟩
    | true =>
      have k2 : (h.v2 != 1) = true := by simp; exact fun e => h1 ⟨rfl, e⟩
      clear h1
      go_enter Tryz.func29, Tryz.ntmps29
      go_wp2
      exact jsin_ret _ (w.heap.size + 1) _ #[.int .i64 0, .int .i64 0, .int .i64 0, .int .i64 0, .string ⟨#[]⟩] false _ rfl rfl (heap_alloc2_new w _ _) rfl ⟨rfl, HB.out⟩
theorem jsin_any (r : Rg) (slot live : Int) (w : World) :
    Calls Tryz.prog 29 #[.agg r.arr, .int .i64 slot, .int .i64 live] w fun e w' => e = .returned (.tuple #[.agg (sinS r slot live).arr, .bool (sinB r slot live)]) ∧ Below w.heap.size w w' := by
  have h := jsin_in r.ok r.h r.body (spOf r.body) (superOE r.body) slot live w fun w => superOf_any r.body w
  have e : sinS r slot live = if r.ok = true ∧ r.h.v2 = 1 ∧ superOE r.body = 0 ∧ (spOf r.body).ep.tmod 2 = slot ∧ (spOf r.body).lv = live then spOf r.body else Sp.zero := by
    unfold sinS sinB
    by_cases hc : r.ok = true ∧ r.h.v2 = 1 ∧ superOE r.body = 0 ∧ (spOf r.body).ep.tmod 2 = slot ∧ (spOf r.body).lv = live
    · rw [if_pos hc, if_pos (decide_eq_true hc)]
    · rw [if_neg hc, if_neg (by simpa using hc)]
  rw [e]
  exact h
end Go.Proofs.YtbmjablmmlnieaaGreatDoor

namespace Go.Proofs.YtbmjablmmlnieaaGreatDoor
set_option maxRecDepth 20000
open Go.RowKit

/-- A list of readings that lies. -/
def RgAt (W : World) (g o : Nat) (r : Rg) : Prop := W.cell? ⟨g, o, none⟩ = some (.bool r.ok) ∧ W.cell? ⟨g, o + 1, none⟩ = some (.int .i64 r.h.v0) ∧ W.cell? ⟨g, o + 2, none⟩ = some (.int .i64 r.h.v1) ∧ W.cell? ⟨g, o + 3, none⟩ = some (.int .i64 r.h.v2) ∧ W.cell? ⟨g, o + 4, none⟩ = some (.int .i64 r.h.v3) ∧ W.cell? ⟨g, o + 5, none⟩ = some (.int .i64 r.h.v4) ∧ W.cell? ⟨g, o + 6, none⟩ = some (.int .i64 r.h.v5) ∧ W.cell? ⟨g, o + 7, none⟩ = some (.int .i64 r.h.v6) ∧ W.cell? ⟨g, o + 8, none⟩ = some (.int .i64 r.h.v7) ∧ W.cell? ⟨g, o + 9, none⟩ = some (.string r.body)
def Rgs (W : World) (v : Value) (l : List Rg) : Prop := (∃ oa cap, v = .slice oa 0 cap ∧ l = []) ∨ ∃ g o cap, v = .slice (some ⟨g, o, none⟩) l.length cap ∧ g < W.heap.size ∧ ∀ i r, l[i]? = some r → RgAt W g (o + i * 10) r
theorem RgAt.keep {W W' : World} {g o : Nat} {r : Rg} (h : RgAt W g o r) (k : W'.heap[g]? = W.heap[g]?) : RgAt W' g o r := by
  obtain ⟨h0, h1, h2, h3, h4, h5, h6, h7, h8, h9⟩ := h
  have e := fun i => World.cell?_of_block (w := W) (w' := W') (a := ⟨g, i, none⟩) k
  exact ⟨(e _).trans h0, (e _).trans h1, (e _).trans h2, (e _).trans h3, (e _).trans h4, (e _).trans h5, (e _).trans h6, (e _).trans h7, (e _).trans h8, (e _).trans h9⟩
theorem Rgs.form {W : World} {v : Value} {l : List Rg} (h : Rgs W v l) : ∃ oa cap, v = .slice oa l.length cap := by
  rcases h with ⟨oa, cap, rfl, rfl⟩ | ⟨g, o, cap, rfl, _⟩
  · exact ⟨oa, cap, rfl⟩
  · exact ⟨_, cap, rfl⟩
theorem Rgs.at {W : World} {oa : Option Addr} {cap : Nat} {l : List Rg} (h : Rgs W (.slice oa l.length cap) l) {i : Nat} (hi : i < l.length) : ∃ g o, oa = some ⟨g, o, none⟩ ∧ g < W.heap.size ∧ RgAt W g (o + i * 10) l[i] := by
  rcases h with ⟨_, _, _, rfl⟩ | ⟨g, o, cap', e, hg, hx⟩
  · simp at hi
  · simp only [Value.slice.injEq] at e
    exact ⟨g, o, e.1, hg, hx i _ (List.getElem?_eq_getElem hi)⟩
/-- What a round of Choose knows. -/
structure ChR (w : World) (l : List Rg) (live : Int) (j : Nat) (wr : World) (fnd : Bool) (bs : Sp) : Prop where
  fndE : fnd = (chN l live j).isSome
  bsE : bs = osp (chN l live j)
  below : Below w.heap.size w wr
  res : wr.heap[w.heap.size]? = some (.cells #[.int .i64 0, .int .i64 0, .int .i64 0, .int .i64 0, .string ⟨#[]⟩] 33 (0, 0))
  best : wr.heap[w.heap.size + 1]? = some (.cells bs.arr 33 (0, 0))
theorem chN_yes {l : List Rg} {live : Int} {j : Nat} {r : Rg} (h : l[j]? = some r) (h1 : sinB r j live = true) (h2 : (chN l live j).isSome = false ∨ (osp (chN l live j)).ep < (spOf r.body).ep) : chN l live (j + 1) = some (spOf r.body) := by
  unfold chN
  rw [h]
  show (if _ then _ else _) = _
  rw [if_pos]
  refine ⟨h1, fun b hb => ?_⟩
  rw [hb] at h2
  rcases h2 with h2 | h2
  · cases h2
  · exact h2
theorem chN_no {l : List Rg} {live : Int} {j : Nat} {r : Rg} (h : l[j]? = some r) (h1 : sinB r j live = false ∨ ((chN l live j).isSome = true ∧ ¬ (osp (chN l live j)).ep < (spOf r.body).ep)) : chN l live (j + 1) = chN l live j := by
  rw [chN, h]
  show (if _ then _ else _) = _
  rw [if_neg]
  rintro ⟨h2, h3⟩
  rcases h1 with h1 | ⟨h1, h4⟩
  · rw [h1] at h2; cases h2
  · obtain ⟨b, hb⟩ := Option.isSome_iff_exists.1 h1
    rw [hb] at h4
    exact h4 (h3 b hb)
theorem jcho_ret (tmps : Array Value) (g : Nat) (w' : World) (cs : Array Value) (b : Bool) (R : Ending → World → Prop) (h1 : tmps.getD 4 undef = .pointer (some ⟨g, 0, none⟩)) (h2 : tmps.getD 5 undef = .bool b) (hg : w'.heap[g]? = some (.cells cs 33 (0, 0))) (hs : cs.size = 5) (hR : R (.returned (.tuple #[.agg cs, .bool b])) w') :
    bodyPost Tryz.prog Tryz.f11 R .ret { tmps := tmps, defers := [] } w' := by
  have hr := run_loadVar_row (P := Tryz.prog) w' g 33 33 cs (0, 0) _ hg Tryz.underlying33 rfl (by rw [hs]; kernel_rfl)
  simp at h1 h2
  exact bodyPost_ret (v := .tuple #[.agg cs, .bool b]) (by simp [results, Tryz.results11, asAddr, hr, h1, h2]) rfl hR
set_option maxHeartbeats 4000000 in
theorem jcho_any (v : Value) (l : List Rg) (live : Int) (w : World) (hv : Rgs w v l) :
    Calls Tryz.prog 11 #[v, .int .i64 live] w fun e w' => e = .returned (.tuple #[.agg (osp (chO l live)).arr, .bool (chO l live).isSome]) ∧ Below w.heap.size w w' := by
  obtain ⟨oa, ca, rfl⟩ := hv.form
  have HV : Hid (Rgs w (.slice oa l.length ca) l) := hv
  obtain ⟨m, hm⟩ : ∃ m : Nat, m = min 2 l.length := ⟨_, rfl⟩
  have HM : Hid (m ≤ l.length ∧ chO l live = chN l live m) := ⟨by omega, by rw [hm]; rfl⟩
  have hm2 : m ≤ 2 := by omega
  have hmn : ∀ (ts : Array TypeId) (t : TypeId) (w : World), (Builtin.min_ ts t #[.int .i64 2, .int .i64 (l.length : Int)]).run Tryz.prog w = .ok (.int .i64 (m : Int)) w := fun ts t w => by
    rw [run_min_int2]
    congr 2
    split <;> omega
  rw [HM.out.2]
  clear hv hm
  have HI : Hid (ChR w l live 0 ((w.alloc (.cells #[.int .i64 0, .int .i64 0, .int .i64 0, .int .i64 0, .string ⟨#[]⟩] 33)).alloc (.cells #[.int .i64 0, .int .i64 0, .int .i64 0, .int .i64 0, .string ⟨#[]⟩] 33)) false Sp.zero) := ⟨rfl, rfl, ((Below.refl _ _).alloc (Nat.le_refl _) _).alloc (by simp) _, heap_alloc2_old w _ _, heap_alloc2_new w _ _⟩
  obtain ⟨X, hX⟩ : ∃ X, X = osp (chN l live m) := ⟨_, rfl⟩
  obtain ⟨Y, hY⟩ : ∃ Y, Y = (chN l live m).isSome := ⟨_, rfl⟩
  rw [← hX, ← hY]
  have HX : Hid (X = osp (chN l live m) ∧ Y = (chN l live m).isSome) := ⟨hX, hY⟩
  clear hX hY
  go_enter Tryz.func11, Tryz.ntmps11
  go_wp2_with fail
  go_loopw [7, 14] (fun fv iv wr => ∃ (j : Nat) (fnd : Bool) (bs : Sp), j ≤ m ∧ iv = .int .i64 (j : Int) ∧ fv = .bool fnd ∧ Hid (ChR w l live j wr fnd bs)) (fun _ iv _ => m - (intOf iv).toNat)
  case atStart => exact ⟨0, false, Sp.zero, Nat.zero_le _, rfl, rfl, HI⟩
  case round =>
    clear HI hmn
    obtain ⟨j, fnd, bs, hj, rfl, rfl, HR⟩ := hrel
    by_cases hlt : j < m
    · have j1 : (j : Int) < m := by omega
      have hjl : j < l.length := by have := HM.out.1; omega
      have j2 : (j : Int) < l.length := by omega
      obtain ⟨g, o, rfl, hg, hat⟩ := HV.out.at hjl
      have hgw := Nat.lt_of_lt_of_le hg HR.out.below.size
      obtain ⟨d0, d1, d2, d3, d4, d5, d6, d7, d8, d9⟩ := hat.keep (HR.out.below.block g hg)
      have hs := jsin_any l[j] (j : Int) live
      have HL : Hid (l[j]? = some l[j]) := List.getElem?_eq_getElem hjl
      generalize l[j] = r at *
      unfold Rg.arr readA at hs
      go_wp2_with fail
      refine (hs _).mono ?_
      rintro e w2 ⟨rfl, hb2⟩
      have hbw2 : Below w.heap.size w w2 := HR.out.below.trans (hb2.mono HR.out.below.size)
      have gres := (hb2.block _ (lt_of_block HR.out.res)).trans HR.out.res
      have gbest := (hb2.block _ (lt_of_block HR.out.best)).trans HR.out.best
      have hF := HR.out.fndE
      have hB := HR.out.bsE
      have HQ : Hid ((sinB r (j : Int) live = true → sinS r (j : Int) live = spOf r.body) ∧ (sinB r (j : Int) live = false → chN l live (j + 1) = chN l live j) ∧ (sinB r (j : Int) live = true → fnd = false ∨ bs.ep < (spOf r.body).ep → chN l live (j + 1) = some (spOf r.body)) ∧ (fnd = true → ¬ bs.ep < (spOf r.body).ep → chN l live (j + 1) = chN l live j)) := by
        rw [hF, hB]
        exact ⟨fun h => if_pos h, fun h => chN_no HL.out (.inl h), fun h h2 => chN_yes HL.out h h2, fun h h2 => chN_no HL.out (.inr ⟨h, h2⟩)⟩
      have HO : Hid (fnd = (chN l live j).isSome ∧ bs = osp (chN l live j)) := ⟨hF, hB⟩
      clear hs hb2 d0 d1 d2 d3 d4 d5 d6 d7 d8 d9 hat HR hF hB HL
      generalize sinB r (j : Int) live = q at *
      generalize sinS r (j : Int) live = c at *
      generalize spOf r.body = sp at *
      obtain ⟨c0, c1, c2, c3, rt⟩ := c
      obtain ⟨b0, b1, b2, b3, br⟩ := bs
      unfold Sp.arr at gbest
      simp only [Sp.arr]
      have hlt2 := lt_of_block gbest
      have gc : (w2.alloc (.cells #[.int .i64 c0, .int .i64 c1, .int .i64 c2, .int .i64 c3, .string rt] 33)).heap[w2.heap.size]? = some (.cells #[.int .i64 c0, .int .i64 c1, .int .i64 c2, .int .i64 c3, .string rt] 33 (0, 0)) := heap_alloc_new w2 _
      have hb3 : Below w.heap.size w (w2.alloc (.cells #[.int .i64 c0, .int .i64 c1, .int .i64 c2, .int .i64 c3, .string rt] 33)) := hbw2.alloc (by omega) _
      have gr3 : (w2.alloc (.cells #[.int .i64 c0, .int .i64 c1, .int .i64 c2, .int .i64 c3, .string rt] 33)).heap[w.heap.size]? = some (.cells #[.int .i64 0, .int .i64 0, .int .i64 0, .int .i64 0, .string ⟨#[]⟩] 33 (0, 0)) := (Below.heap_alloc _ _ _ (by omega)).trans gres
      have gb3 : (w2.alloc (.cells #[.int .i64 c0, .int .i64 c1, .int .i64 c2, .int .i64 c3, .string rt] 33)).heap[w.heap.size + 1]? = some (.cells #[.int .i64 b0, .int .i64 b1, .int .i64 b2, .int .i64 b3, .string br] 33 (0, 0)) := (Below.heap_alloc _ _ _ hlt2).trans gbest
      have e1 : (w2.alloc (.cells #[.int .i64 c0, .int .i64 c1, .int .i64 c2, .int .i64 c3, .string rt] 33)).cell? ⟨w.heap.size + 1, 1, none⟩ = some (.int .i64 b1) := cell_of_row _ _ 1 _ _ _ gb3
      have HN : Hid (chN l live (j + 1) = chN l live j → ChR w l live (j + 1) (w2.alloc (.cells #[.int .i64 c0, .int .i64 c1, .int .i64 c2, .int .i64 c3, .string rt] 33)) fnd ⟨b0, b1, b2, b3, br⟩) := fun h => ⟨by rw [h]; exact HO.out.1, by rw [h]; exact HO.out.2, hb3, gr3, gb3⟩
      have HY : Hid (chN l live (j + 1) = some ⟨c0, c1, c2, c3, rt⟩ → ChR w l live (j + 1) ((w2.alloc (.cells #[.int .i64 c0, .int .i64 c1, .int .i64 c2, .int .i64 c3, .string rt] 33)).setRow (w.heap.size + 1) #[.int .i64 c0, .int .i64 c1, .int .i64 c2, .int .i64 c3, .string rt]) true ⟨c0, c1, c2, c3, rt⟩) := fun h => ⟨by rw [h]; rfl, by rw [h]; rfl, below_setRow hb3 (by omega) _, (setRow_other _ _ _ _ (by omega)).trans gr3, setRow_heap _ _ _ _ _ _ gb3⟩
      clear hbw2 gres gbest hb3 gr3 HV
      cases q with
      | false =>
        have HF := HN.out (HQ.out.2.1 rfl)
        have HF : Hid _ := HF
        clear HN HY HQ HO gc gb3
        go_wp2
        go_roundw
        case rel => exact ⟨j + 1, fnd, ⟨b0, b1, b2, b3, br⟩, by omega, by go_num, rfl, HF⟩
        case measure => simp [intOf]; omega
      | true =>
        have ec : Sp.mk c0 c1 c2 c3 rt = sp := HQ.out.1 rfl
        have ec1 : sp.ep = c1 := by rw [← ec]
        cases fnd with
        | false =>
          have HF : Hid _ := HY.out (by rw [ec]; exact HQ.out.2.2.1 rfl (.inl rfl))
          clear HN HY HQ HO ec ec1 e1
          go_wp2_with (first | refine wpList_load_row rfl 33 _ rfl w2.heap.size rfl 33 _ (0, 0) _ gc Tryz.underlying33 rfl (by kernel_rfl) ?_ | refine wpList_store_row rfl 33 _ _ rfl (w.heap.size + 1) #[.int .i64 c0, .int .i64 c1, .int .i64 c2, .int .i64 c3, .string rt] rfl rfl 33 _ gb3 (by kernel_rfl) rfl (by simp [Value.oneCell']) ?_)
          go_roundw
          case rel => exact ⟨j + 1, true, ⟨c0, c1, c2, c3, rt⟩, by omega, by go_num, rfl, HF⟩
          case measure => simp [intOf]; omega
        | true =>
          by_cases hcmp : b1 < c1
          · have HF : Hid _ := HY.out (by rw [ec]; exact HQ.out.2.2.1 rfl (.inr (by rw [ec1]; exact hcmp)))
            have k1 : decide (b1 < c1) = true := by simpa using hcmp
            clear HN HY HQ HO ec ec1 hcmp
            go_wp2_with (first | refine wpList_load_row rfl 33 _ rfl w2.heap.size rfl 33 _ (0, 0) _ gc Tryz.underlying33 rfl (by kernel_rfl) ?_ | refine wpList_store_row rfl 33 _ _ rfl (w.heap.size + 1) #[.int .i64 c0, .int .i64 c1, .int .i64 c2, .int .i64 c3, .string rt] rfl rfl 33 _ gb3 (by kernel_rfl) rfl (by simp [Value.oneCell']) ?_)
            go_roundw
            case rel => exact ⟨j + 1, true, ⟨c0, c1, c2, c3, rt⟩, by omega, by go_num, rfl, HF⟩
            case measure => simp [intOf]; omega
          · have HF : Hid _ := HN.out (HQ.out.2.2.2 rfl (by rw [ec1]; exact hcmp))
            have k1 : decide (b1 < c1) = false := by simpa using hcmp
            clear HN HY HQ HO ec ec1 hcmp gc gb3
            go_wp2
            go_roundw
            case rel => exact ⟨j + 1, true, ⟨b0, b1, b2, b3, br⟩, by omega, by go_num, rfl, HF⟩
            case measure => simp [intOf]; omega
    · have j1 : ¬ (j : Int) < m := by omega
      obtain rfl : j = m := by omega
      have gres := HR.out.res
      have gbest := HR.out.best
      have HF : Hid (Below w.heap.size w wr ∧ bs = X ∧ fnd = Y) := ⟨HR.out.below, by rw [HX.out.1]; exact HR.out.bsE, by rw [HX.out.2]; exact HR.out.fndE⟩
      clear HR
      obtain ⟨b0, b1, b2, b3, br⟩ := bs
      unfold Sp.arr at gbest
      go_wp2_with (first | refine wpList_load_row rfl 33 _ rfl (w.heap.size + 1) rfl 33 _ (0, 0) _ gbest Tryz.underlying33 rfl (by kernel_rfl) ?_ | refine wpList_store_row rfl 33 _ _ rfl w.heap.size #[.int .i64 b0, .int .i64 b1, .int .i64 b2, .int .i64 b3, .string br] rfl rfl 33 _ gres (by kernel_rfl) rfl (by simp [Value.oneCell']) ?_)
      exact jcho_ret _ w.heap.size _ #[.int .i64 b0, .int .i64 b1, .int .i64 b2, .int .i64 b3, .string br] fnd _ rfl rfl (setRow_heap _ _ _ _ _ _ gres) rfl ⟨by rw [← HF.out.2.1, ← HF.out.2.2]; rfl, below_setRow HF.out.1 (Nat.le_refl _) _⟩
end Go.Proofs.YtbmjablmmlnieaaGreatDoor
