/- journal's superIn: the superblock that a slot's reading is. · journal's Choose: the superblock of two slots' readings. · What is sealed is told again; a superblock and a promise are read as what they were; nothing of the program's calls. -/
import Derived.Test.YtoopaigpjefonaaGreatDoorMg11
import Derived.Laws.Small
import Derived.BigFrame
import Derived.Test.YtoopaigpjefonaaGreatDoorMg16
import Derived.Test.YtoopaigpjefonaaGreatDoorMg12
namespace Go.Proofs.YtoopaigpjefonaaGreatDoor
set_option maxRecDepth 20000
open Go.RowKit

theorem jsin_ret (tmps : Array Value) (g : Nat) (w' : World) (cs : Array Value) (b : Bool) (R : Ending → World → Prop) (h1 : tmps.getD 6 undef = .pointer (some ⟨g, 0, none⟩)) (h2 : tmps.getD 7 undef = .bool b) (hg : w'.heap[g]? = some (.cells cs 23 (0, 0))) (hs : cs.size = 5) (hR : R (.returned (.tuple #[.agg cs, .bool b])) w') :
    bodyPost Tryz.prog Tryz.f99 R .ret { tmps := tmps, defers := [] } w' := by
  have hr := run_loadVar_row (P := Tryz.prog) w' g 23 23 cs (0, 0) _ hg Tryz.underlying23 rfl (by rw [hs]; kernel_rfl)
  simp at h1 h2
  exact bodyPost_ret (v := .tuple #[.agg cs, .bool b]) (by simp [results, Tryz.results99, asAddr, hr, h1, h2]) rfl hR
set_option maxHeartbeats 4000000 in
theorem jsin_in (ok : Bool) (h : Hd) (s : ByteArray) (c : Sp) (y : Int) (slot live : Int) (w : World)
    (ho : ∀ w, Calls Tryz.prog 138 #[.string s] w fun e w' => e = .returned (.tuple #[.agg c.arr, .int .i64 y]) ∧ Below w.heap.size w w') :
    Calls Tryz.prog 99 #[.agg #[.bool ok, .int .i64 h.v0, .int .i64 h.v1, .int .i64 h.v2, .int .i64 h.v3, .int .i64 h.v4, .int .i64 h.v5, .int .i64 h.v6, .int .i64 h.v7, .string s], .int .i64 slot, .int .i64 live] w fun e w' => e = .returned (.tuple #[.agg (if ok = true ∧ h.v2 = 1 ∧ y = 0 ∧ c.ep.tmod 2 = slot ∧ c.lv = live then c else Sp.zero).arr, .bool (decide (ok = true ∧ h.v2 = 1 ∧ y = 0 ∧ c.ep.tmod 2 = slot ∧ c.lv = live))]) ∧ Below w.heap.size w w' := by
  obtain ⟨c0, c1, c2, c3, r⟩ := c
  simp only [Sp.arr, Sp.zero] at *
  by_cases h1 : ok = true ∧ h.v2 = 1
  · obtain ⟨rfl, h2⟩ := h1
    by_cases h3 : y = 0 ∧ c1.tmod 2 = slot ∧ c3 = live
    · obtain ⟨rfl, h4, h5⟩ := h3
      rw [if_pos ⟨rfl, h2, rfl, h4, h5⟩, decide_eq_true (p := _ ∧ _) ⟨rfl, h2, rfl, h4, h5⟩]
      have k2 : (h.v2 != 1) = false := by simp [h2]
      have k4 : (c1.tmod 2 != slot) = false := by simp [h4]
      have k5 : (c3 != live) = false := by simp [h5]
      clear h2 h4 h5
      go_enter Tryz.func99, Tryz.ntmps99
      go_wp2_with fail
      refine (ho _).mono ?_
      rintro e w1 ⟨rfl, hb1⟩
      have g1 := (hb1.block (w.heap.size + 1) (by simp)).trans (heap_alloc2_new w _ _)
      have hbw : Below w.heap.size w w1 := (((Below.refl _ _).alloc (Nat.le_refl _) _).alloc (by simp) _).trans (hb1.mono (by simp; omega))
      have hlt := lt_of_block g1
      have g2 : (w1.alloc (.cells #[.int .i64 c0, .int .i64 c1, .int .i64 c2, .int .i64 c3, .string r] 23)).heap[w.heap.size + 1]? = some (.cells #[.int .i64 0, .int .i64 0, .int .i64 0, .int .i64 0, .string ⟨#[]⟩] 23 (0, 0)) := (Below.heap_alloc _ _ _ hlt).trans g1
      have gc : (w1.alloc (.cells #[.int .i64 c0, .int .i64 c1, .int .i64 c2, .int .i64 c3, .string r] 23)).heap[w1.heap.size]? = some (.cells #[.int .i64 c0, .int .i64 c1, .int .i64 c2, .int .i64 c3, .string r] 23 (0, 0)) := heap_alloc_new w1 _
      have hb2 : Below w.heap.size w (w1.alloc (.cells #[.int .i64 c0, .int .i64 c1, .int .i64 c2, .int .i64 c3, .string r] 23)) := hbw.alloc (by omega) _
      clear ho hb1 g1 hbw
      go_wp2_with (first | refine wpList_load_row rfl 23 _ rfl w1.heap.size rfl 23 _ (0, 0) _ gc Tryz.underlying23 rfl (by kernel_rfl) ?_ | refine wpList_store_row rfl 23 _ _ rfl (w.heap.size + 1) #[.int .i64 c0, .int .i64 c1, .int .i64 c2, .int .i64 c3, .string r] rfl rfl 23 _ g2 (by kernel_rfl) rfl (by simp [Value.oneCell']) ?_)
      exact jsin_ret _ (w.heap.size + 1) _ #[.int .i64 c0, .int .i64 c1, .int .i64 c2, .int .i64 c3, .string r] true _ rfl rfl (setRow_heap _ _ _ _ _ _ g2) rfl ⟨rfl, below_setRow hb2 (by omega) _⟩
    · rw [if_neg (fun h => h3 h.2.2), decide_eq_false (p := _ ∧ _) (fun h => h3 h.2.2)]
      have k2 : (h.v2 != 1) = false := by simp [h2]
      have hway : (y != 0) = true ∨ ((y != 0) = false ∧ (c1.tmod 2 != slot) = true) ∨ ((y != 0) = false ∧ (c1.tmod 2 != slot) = false ∧ (c3 != live) = true) := by
        by_cases e1 : y = 0
        · by_cases e2 : c1.tmod 2 = slot
          · exact .inr (.inr ⟨by simp [e1], by simp [e2], by simp; exact fun e3 => h3 ⟨e1, e2, e3⟩⟩)
          · exact .inr (.inl ⟨by simp [e1], by simpa using e2⟩)
        · exact .inl (by simpa using e1)
      clear h2 h3
      rcases hway with k3 | ⟨k3, k4⟩ | ⟨k3, k4, k5⟩
      all_goals
        go_enter Tryz.func99, Tryz.ntmps99
        go_wp2_with fail
        refine (ho _).mono ?_
        rintro e w1 ⟨rfl, hb1⟩
        have g1 := (hb1.block (w.heap.size + 1) (by simp)).trans (heap_alloc2_new w _ _)
        have hbw : Below w.heap.size w w1 := (((Below.refl _ _).alloc (Nat.le_refl _) _).alloc (by simp) _).trans (hb1.mono (by simp; omega))
        have hlt := lt_of_block g1
        have g2 : (w1.alloc (.cells #[.int .i64 c0, .int .i64 c1, .int .i64 c2, .int .i64 c3, .string r] 23)).heap[w.heap.size + 1]? = some (.cells #[.int .i64 0, .int .i64 0, .int .i64 0, .int .i64 0, .string ⟨#[]⟩] 23 (0, 0)) := (Below.heap_alloc _ _ _ hlt).trans g1
        have gc : (w1.alloc (.cells #[.int .i64 c0, .int .i64 c1, .int .i64 c2, .int .i64 c3, .string r] 23)).heap[w1.heap.size]? = some (.cells #[.int .i64 c0, .int .i64 c1, .int .i64 c2, .int .i64 c3, .string r] 23 (0, 0)) := heap_alloc_new w1 _
        have hb2 : Below w.heap.size w (w1.alloc (.cells #[.int .i64 c0, .int .i64 c1, .int .i64 c2, .int .i64 c3, .string r] 23)) := hbw.alloc (by omega) _
        clear ho hb1 g1 hbw
        go_wp2_with (refine wpList_store_row rfl 23 _ _ rfl (w.heap.size + 1) #[.int .i64 0, .int .i64 0, .int .i64 0, .int .i64 0, .string ⟨#[]⟩] rfl rfl 23 _ g2 (by kernel_rfl) rfl (by simp [Value.oneCell']) ?_)
        exact jsin_ret _ (w.heap.size + 1) _ #[.int .i64 0, .int .i64 0, .int .i64 0, .int .i64 0, .string ⟨#[]⟩] false _ rfl rfl (setRow_heap _ _ _ _ _ _ g2) rfl ⟨rfl, below_setRow hb2 (by omega) _⟩
  · rw [if_neg (fun h => h1 ⟨h.1, h.2.1⟩), decide_eq_false (p := _ ∧ _) (fun h => h1 ⟨h.1, h.2.1⟩)]
    have hb0 : Below w.heap.size w ((w.alloc (.cells #[.bool ok, .int .i64 h.v0, .int .i64 h.v1, .int .i64 h.v2, .int .i64 h.v3, .int .i64 h.v4, .int .i64 h.v5, .int .i64 h.v6, .int .i64 h.v7, .string s] 125)).alloc (.cells #[.int .i64 0, .int .i64 0, .int .i64 0, .int .i64 0, .string ⟨#[]⟩] 23)) := ((Below.refl _ _).alloc (Nat.le_refl _) _).alloc (by simp) _
    have HB : Hid _ := hb0
    clear ho hb0
    cases ok with
    | false =>
      go_enter Tryz.func99, Tryz.ntmps99
      go_wp2
      exact jsin_ret _ (w.heap.size + 1) _ #[.int .i64 0, .int .i64 0, .int .i64 0, .int .i64 0, .string ⟨#[]⟩] false _ rfl rfl (heap_alloc2_new w _ _) rfl ⟨rfl, HB.out⟩
    | true =>
      have k2 : (h.v2 != 1) = true := by simp; exact fun e => h1 ⟨rfl, e⟩
      clear h1
      go_enter Tryz.func99, Tryz.ntmps99
      go_wp2
      exact jsin_ret _ (w.heap.size + 1) _ #[.int .i64 0, .int .i64 0, .int .i64 0, .int .i64 0, .string ⟨#[]⟩] false _ rfl rfl (heap_alloc2_new w _ _) rfl ⟨rfl, HB.out⟩
theorem jsin_any (r : Rg) (slot live : Int) (w : World) :
    Calls Tryz.prog 99 #[.agg r.arr, .int .i64 slot, .int .i64 live] w fun e w' => e = .returned (.tuple #[.agg (sinS r slot live).arr, .bool (sinB r slot live)]) ∧ Below w.heap.size w w' := by
  have h := jsin_in r.ok r.h r.body (spOf r.body) (superOE r.body) slot live w fun w => superOf_any r.body w
  have e : sinS r slot live = if r.ok = true ∧ r.h.v2 = 1 ∧ superOE r.body = 0 ∧ (spOf r.body).ep.tmod 2 = slot ∧ (spOf r.body).lv = live then spOf r.body else Sp.zero := by
    unfold sinS sinB
    by_cases hc : r.ok = true ∧ r.h.v2 = 1 ∧ superOE r.body = 0 ∧ (spOf r.body).ep.tmod 2 = slot ∧ (spOf r.body).lv = live
    · rw [if_pos hc, if_pos (decide_eq_true hc)]
    · rw [if_neg hc, if_neg (by simpa using hc)]
  rw [e]
  exact h
end Go.Proofs.YtoopaigpjefonaaGreatDoor

namespace Go.Proofs.YtoopaigpjefonaaGreatDoor
set_option maxRecDepth 20000
open Go.RowKit

/-- A list of readings that lies. -/
def RgAt (W : World) (g o : Nat) (r : Rg) : Prop := W.cell? ⟨g, o, none⟩ = some (.bool r.ok) ∧ W.cell? ⟨g, o + 1, none⟩ = some (.int .i64 r.h.v0) ∧ W.cell? ⟨g, o + 2, none⟩ = some (.int .i64 r.h.v1) ∧ W.cell? ⟨g, o + 3, none⟩ = some (.int .i64 r.h.v2) ∧ W.cell? ⟨g, o + 4, none⟩ = some (.int .i64 r.h.v3) ∧ W.cell? ⟨g, o + 5, none⟩ = some (.int .i64 r.h.v4) ∧ W.cell? ⟨g, o + 6, none⟩ = some (.int .i64 r.h.v5) ∧ W.cell? ⟨g, o + 7, none⟩ = some (.int .i64 r.h.v6) ∧ W.cell? ⟨g, o + 8, none⟩ = some (.int .i64 r.h.v7) ∧ W.cell? ⟨g, o + 9, none⟩ = some (.string r.body)
def Rgs (W : World) (v : Value) (l : List Rg) : Prop := (∃ oa cap, v = .slice oa 0 cap ∧ l = []) ∨ ∃ g o cap, v = .slice (some ⟨g, o, none⟩) l.length cap ∧ g < W.heap.size ∧ ∀ i r, l[i]? = some r → RgAt W g (o + i * 10) r
theorem RgAt.keep {W W' : World} {g o : Nat} {r : Rg} (h : RgAt W g o r) (k : W'.heap[g]? = W.heap[g]?) : RgAt W' g o r := by
  obtain ⟨h0, h1, h2, h3, h4, h5, h6, h7, h8, h9⟩ := h
  have e := fun i => World.cell?_of_block (w := W) (w' := W') (a := ⟨g, i, none⟩) k
  exact ⟨(e _).trans h0, (e _).trans h1, (e _).trans h2, (e _).trans h3, (e _).trans h4, (e _).trans h5, (e _).trans h6, (e _).trans h7, (e _).trans h8, (e _).trans h9⟩
theorem Rgs.form {W : World} {v : Value} {l : List Rg} (h : Rgs W v l) : ∃ oa cap, v = .slice oa l.length cap := by
  rcases h with ⟨oa, cap, rfl, rfl⟩ | ⟨g, o, cap, rfl, _⟩
  · exact ⟨oa, cap, rfl⟩
  · exact ⟨_, cap, rfl⟩
theorem Rgs.at {W : World} {oa : Option Addr} {cap : Nat} {l : List Rg} (h : Rgs W (.slice oa l.length cap) l) {i : Nat} (hi : i < l.length) : ∃ g o, oa = some ⟨g, o, none⟩ ∧ g < W.heap.size ∧ RgAt W g (o + i * 10) l[i] := by
  rcases h with ⟨_, _, _, rfl⟩ | ⟨g, o, cap', e, hg, hx⟩
  · simp at hi
  · simp only [Value.slice.injEq] at e
    exact ⟨g, o, e.1, hg, hx i _ (List.getElem?_eq_getElem hi)⟩
/-- What a round of Choose knows. -/
structure ChR (w : World) (l : List Rg) (live : Int) (j : Nat) (wr : World) (fnd : Bool) (bs : Sp) : Prop where
  fndE : fnd = (chN l live j).isSome
  bsE : bs = osp (chN l live j)
  below : Below w.heap.size w wr
  res : wr.heap[w.heap.size]? = some (.cells #[.int .i64 0, .int .i64 0, .int .i64 0, .int .i64 0, .string ⟨#[]⟩] 23 (0, 0))
  best : wr.heap[w.heap.size + 1]? = some (.cells bs.arr 23 (0, 0))
theorem chN_yes {l : List Rg} {live : Int} {j : Nat} {r : Rg} (h : l[j]? = some r) (h1 : sinB r j live = true) (h2 : (chN l live j).isSome = false ∨ (osp (chN l live j)).ep < (spOf r.body).ep) : chN l live (j + 1) = some (spOf r.body) := by
  unfold chN
  rw [h]
  show (if _ then _ else _) = _
  rw [if_pos]
  refine ⟨h1, fun b hb => ?_⟩
  rw [hb] at h2
  rcases h2 with h2 | h2
  · cases h2
  · exact h2
theorem chN_no {l : List Rg} {live : Int} {j : Nat} {r : Rg} (h : l[j]? = some r) (h1 : sinB r j live = false ∨ ((chN l live j).isSome = true ∧ ¬ (osp (chN l live j)).ep < (spOf r.body).ep)) : chN l live (j + 1) = chN l live j := by
  rw [chN, h]
  show (if _ then _ else _) = _
  rw [if_neg]
  rintro ⟨h2, h3⟩
  rcases h1 with h1 | ⟨h1, h4⟩
  · rw [h1] at h2; cases h2
  · obtain ⟨b, hb⟩ := Option.isSome_iff_exists.1 h1
    rw [hb] at h4
    exact h4 (h3 b hb)
theorem jcho_ret (tmps : Array Value) (g : Nat) (w' : World) (cs : Array Value) (b : Bool) (R : Ending → World → Prop) (h1 : tmps.getD 4 undef = .pointer (some ⟨g, 0, none⟩)) (h2 : tmps.getD 5 undef = .bool b) (hg : w'.heap[g]? = some (.cells cs 23 (0, 0))) (hs : cs.size = 5) (hR : R (.returned (.tuple #[.agg cs, .bool b])) w') :
    bodyPost Tryz.prog Tryz.f59 R .ret { tmps := tmps, defers := [] } w' := by
  have hr := run_loadVar_row (P := Tryz.prog) w' g 23 23 cs (0, 0) _ hg Tryz.underlying23 rfl (by rw [hs]; kernel_rfl)
  simp at h1 h2
  exact bodyPost_ret (v := .tuple #[.agg cs, .bool b]) (by simp [results, Tryz.results59, asAddr, hr, h1, h2]) rfl hR
set_option maxHeartbeats 4000000 in
theorem jcho_any (v : Value) (l : List Rg) (live : Int) (w : World) (hv : Rgs w v l) :
    Calls Tryz.prog 59 #[v, .int .i64 live] w fun e w' => e = .returned (.tuple #[.agg (osp (chO l live)).arr, .bool (chO l live).isSome]) ∧ Below w.heap.size w w' := by
  obtain ⟨oa, ca, rfl⟩ := hv.form
  have HV : Hid (Rgs w (.slice oa l.length ca) l) := hv
  obtain ⟨m, hm⟩ : ∃ m : Nat, m = min 2 l.length := ⟨_, rfl⟩
  have HM : Hid (m ≤ l.length ∧ chO l live = chN l live m) := ⟨by omega, by rw [hm]; rfl⟩
  have hm2 : m ≤ 2 := by omega
  have hmn : ∀ (ts : Array TypeId) (t : TypeId) (w : World), (Builtin.min_ ts t #[.int .i64 2, .int .i64 (l.length : Int)]).run Tryz.prog w = .ok (.int .i64 (m : Int)) w := fun ts t w => by
    rw [run_min_int2]
    congr 2
    split <;> omega
  rw [HM.out.2]
  clear hv hm
  have HI : Hid (ChR w l live 0 ((w.alloc (.cells #[.int .i64 0, .int .i64 0, .int .i64 0, .int .i64 0, .string ⟨#[]⟩] 23)).alloc (.cells #[.int .i64 0, .int .i64 0, .int .i64 0, .int .i64 0, .string ⟨#[]⟩] 23)) false Sp.zero) := ⟨rfl, rfl, ((Below.refl _ _).alloc (Nat.le_refl _) _).alloc (by simp) _, heap_alloc2_old w _ _, heap_alloc2_new w _ _⟩
  obtain ⟨X, hX⟩ : ∃ X, X = osp (chN l live m) := ⟨_, rfl⟩
  obtain ⟨Y, hY⟩ : ∃ Y, Y = (chN l live m).isSome := ⟨_, rfl⟩
  rw [← hX, ← hY]
  have HX : Hid (X = osp (chN l live m) ∧ Y = (chN l live m).isSome) := ⟨hX, hY⟩
  clear hX hY
  go_enter Tryz.func59, Tryz.ntmps59
  go_wp2_with fail
  go_loopw [7, 14] (fun fv iv wr => ∃ (j : Nat) (fnd : Bool) (bs : Sp), j ≤ m ∧ iv = .int .i64 (j : Int) ∧ fv = .bool fnd ∧ Hid (ChR w l live j wr fnd bs)) (fun _ iv _ => m - (intOf iv).toNat)
  case atStart => exact ⟨0, false, Sp.zero, Nat.zero_le _, rfl, rfl, HI⟩
  case round =>
    clear HI hmn
    obtain ⟨j, fnd, bs, hj, rfl, rfl, HR⟩ := hrel
    by_cases hlt : j < m
    · have j1 : (j : Int) < m := by omega
      have hjl : j < l.length := by have := HM.out.1; omega
      have j2 : (j : Int) < l.length := by omega
      obtain ⟨g, o, rfl, hg, hat⟩ := HV.out.at hjl
      have hgw := Nat.lt_of_lt_of_le hg HR.out.below.size
      obtain ⟨d0, d1, d2, d3, d4, d5, d6, d7, d8, d9⟩ := hat.keep (HR.out.below.block g hg)
      have hs := jsin_any l[j] (j : Int) live
      have HL : Hid (l[j]? = some l[j]) := List.getElem?_eq_getElem hjl
      generalize l[j] = r at *
      unfold Rg.arr readA at hs
      go_wp2_with fail
      refine (hs _).mono ?_
      rintro e w2 ⟨rfl, hb2⟩
      have hbw2 : Below w.heap.size w w2 := HR.out.below.trans (hb2.mono HR.out.below.size)
      have gres := (hb2.block _ (lt_of_block HR.out.res)).trans HR.out.res
      have gbest := (hb2.block _ (lt_of_block HR.out.best)).trans HR.out.best
      have hF := HR.out.fndE
      have hB := HR.out.bsE
      have HQ : Hid ((sinB r (j : Int) live = true → sinS r (j : Int) live = spOf r.body) ∧ (sinB r (j : Int) live = false → chN l live (j + 1) = chN l live j) ∧ (sinB r (j : Int) live = true → fnd = false ∨ bs.ep < (spOf r.body).ep → chN l live (j + 1) = some (spOf r.body)) ∧ (fnd = true → ¬ bs.ep < (spOf r.body).ep → chN l live (j + 1) = chN l live j)) := by
        rw [hF, hB]
        exact ⟨fun h => if_pos h, fun h => chN_no HL.out (.inl h), fun h h2 => chN_yes HL.out h h2, fun h h2 => chN_no HL.out (.inr ⟨h, h2⟩)⟩
      have HO : Hid (fnd = (chN l live j).isSome ∧ bs = osp (chN l live j)) := ⟨hF, hB⟩
      clear hs hb2 d0 d1 d2 d3 d4 d5 d6 d7 d8 d9 hat HR hF hB HL
      generalize sinB r (j : Int) live = q at *
      generalize sinS r (j : Int) live = c at *
      generalize spOf r.body = sp at *
      obtain ⟨c0, c1, c2, c3, rt⟩ := c
      obtain ⟨b0, b1, b2, b3, br⟩ := bs
      unfold Sp.arr at gbest
      simp only [Sp.arr]
      have hlt2 := lt_of_block gbest
      have gc : (w2.alloc (.cells #[.int .i64 c0, .int .i64 c1, .int .i64 c2, .int .i64 c3, .string rt] 23)).heap[w2.heap.size]? = some (.cells #[.int .i64 c0, .int .i64 c1, .int .i64 c2, .int .i64 c3, .string rt] 23 (0, 0)) := heap_alloc_new w2 _
      have hb3 : Below w.heap.size w (w2.alloc (.cells #[.int .i64 c0, .int .i64 c1, .int .i64 c2, .int .i64 c3, .string rt] 23)) := hbw2.alloc (by omega) _
      have gr3 : (w2.alloc (.cells #[.int .i64 c0, .int .i64 c1, .int .i64 c2, .int .i64 c3, .string rt] 23)).heap[w.heap.size]? = some (.cells #[.int .i64 0, .int .i64 0, .int .i64 0, .int .i64 0, .string ⟨#[]⟩] 23 (0, 0)) := (Below.heap_alloc _ _ _ (by omega)).trans gres
      have gb3 : (w2.alloc (.cells #[.int .i64 c0, .int .i64 c1, .int .i64 c2, .int .i64 c3, .string rt] 23)).heap[w.heap.size + 1]? = some (.cells #[.int .i64 b0, .int .i64 b1, .int .i64 b2, .int .i64 b3, .string br] 23 (0, 0)) := (Below.heap_alloc _ _ _ hlt2).trans gbest
      have e1 : (w2.alloc (.cells #[.int .i64 c0, .int .i64 c1, .int .i64 c2, .int .i64 c3, .string rt] 23)).cell? ⟨w.heap.size + 1, 1, none⟩ = some (.int .i64 b1) := cell_of_row _ _ 1 _ _ _ gb3
      have HN : Hid (chN l live (j + 1) = chN l live j → ChR w l live (j + 1) (w2.alloc (.cells #[.int .i64 c0, .int .i64 c1, .int .i64 c2, .int .i64 c3, .string rt] 23)) fnd ⟨b0, b1, b2, b3, br⟩) := fun h => ⟨by rw [h]; exact HO.out.1, by rw [h]; exact HO.out.2, hb3, gr3, gb3⟩
      have HY : Hid (chN l live (j + 1) = some ⟨c0, c1, c2, c3, rt⟩ → ChR w l live (j + 1) ((w2.alloc (.cells #[.int .i64 c0, .int .i64 c1, .int .i64 c2, .int .i64 c3, .string rt] 23)).setRow (w.heap.size + 1) #[.int .i64 c0, .int .i64 c1, .int .i64 c2, .int .i64 c3, .string rt]) true ⟨c0, c1, c2, c3, rt⟩) := fun h => ⟨by rw [h]; rfl, by rw [h]; rfl, below_setRow hb3 (by omega) _, (setRow_other _ _ _ _ (by omega)).trans gr3, setRow_heap _ _ _ _ _ _ gb3⟩
      clear hbw2 gres gbest hb3 gr3 HV
      cases q with
      | false =>
        have HF := HN.out (HQ.out.2.1 rfl)
        have HF : Hid _ := HF
        clear HN HY HQ HO gc gb3
        go_wp2
        go_roundw
        case rel => exact ⟨j + 1, fnd, ⟨b0, b1, b2, b3, br⟩, by omega, by go_num, rfl, HF⟩
        case measure => simp [intOf]; omega
      | true =>
        have ec : Sp.mk c0 c1 c2 c3 rt = sp := HQ.out.1 rfl
        have ec1 : sp.ep = c1 := by rw [← ec]
        cases fnd with
        | false =>
          have HF : Hid _ := HY.out (by rw [ec]; exact HQ.out.2.2.1 rfl (.inl rfl))
          clear HN HY HQ HO ec ec1 e1
          go_wp2_with (first | refine wpList_load_row rfl 23 _ rfl w2.heap.size rfl 23 _ (0, 0) _ gc Tryz.underlying23 rfl (by kernel_rfl) ?_ | refine wpList_store_row rfl 23 _ _ rfl (w.heap.size + 1) #[.int .i64 c0, .int .i64 c1, .int .i64 c2, .int .i64 c3, .string rt] rfl rfl 23 _ gb3 (by kernel_rfl) rfl (by simp [Value.oneCell']) ?_)
          go_roundw
          case rel => exact ⟨j + 1, true, ⟨c0, c1, c2, c3, rt⟩, by omega, by go_num, rfl, HF⟩
          case measure => simp [intOf]; omega
        | true =>
          by_cases hcmp : b1 < c1
          · have HF : Hid _ := HY.out (by rw [ec]; exact HQ.out.2.2.1 rfl (.inr (by rw [ec1]; exact hcmp)))
            have k1 : decide (b1 < c1) = true := by simpa using hcmp
            clear HN HY HQ HO ec ec1 hcmp
            go_wp2_with (first | refine wpList_load_row rfl 23 _ rfl w2.heap.size rfl 23 _ (0, 0) _ gc Tryz.underlying23 rfl (by kernel_rfl) ?_ | refine wpList_store_row rfl 23 _ _ rfl (w.heap.size + 1) #[.int .i64 c0, .int .i64 c1, .int .i64 c2, .int .i64 c3, .string rt] rfl rfl 23 _ gb3 (by kernel_rfl) rfl (by simp [Value.oneCell']) ?_)
            go_roundw
            case rel => exact ⟨j + 1, true, ⟨c0, c1, c2, c3, rt⟩, by omega, by go_num, rfl, HF⟩
            case measure => simp [intOf]; omega
          · have HF : Hid _ := HN.out (HQ.out.2.2.2 rfl (by rw [ec1]; exact hcmp))
            have k1 : decide (b1 < c1) = false := by simpa using hcmp
            clear HN HY HQ HO ec ec1 hcmp gc gb3
            go_wp2
            go_roundw
            case rel => exact ⟨j + 1, true, ⟨b0, b1, b2, b3, br⟩, by omega, by go_num, rfl, HF⟩
            case measure => simp [intOf]; omega
    · have j1 : ¬ (j : Int) < m := by omega
      obtain rfl : j = m := by omega
      have gres := HR.out.res
      have gbest := HR.out.best
      have HF : Hid (Below w.heap.size w wr ∧ bs = X ∧ fnd = Y) := ⟨HR.out.below, by rw [HX.out.1]; exact HR.out.bsE, by rw [HX.out.2]; exact HR.out.fndE⟩
      clear HR
      obtain ⟨b0, b1, b2, b3, br⟩ := bs
      unfold Sp.arr at gbest
      go_wp2_with (first | refine wpList_load_row rfl 23 _ rfl (w.heap.size + 1) rfl 23 _ (0, 0) _ gbest Tryz.underlying23 rfl (by kernel_rfl) ?_ | refine wpList_store_row rfl 23 _ _ rfl w.heap.size #[.int .i64 b0, .int .i64 b1, .int .i64 b2, .int .i64 b3, .string br] rfl rfl 23 _ gres (by kernel_rfl) rfl (by simp [Value.oneCell']) ?_)
      exact jcho_ret _ w.heap.size _ #[.int .i64 b0, .int .i64 b1, .int .i64 b2, .int .i64 b3, .string br] fnd _ rfl rfl (setRow_heap _ _ _ _ _ _ gres) rfl ⟨by rw [← HF.out.2.1, ← HF.out.2.2]; rfl, below_setRow HF.out.1 (Nat.le_refl _) _⟩
end Go.Proofs.YtoopaigpjefonaaGreatDoor

namespace Go.Proofs.YtoopaigpjefonaaGreatDoor
set_option maxRecDepth 20000
open Go.RowKit

/-- A superblock's bytes are read as it. -/
theorem sp_list {s : Sp} (h : s.err = 0) : s.txt.data.toList = laidL (superPs s.vol s.ep s.nx s.lv) ++ s.root.data.toList ++ List.replicate 394 0 ∧ (laidL (superPs s.vol s.ep s.nx s.lv)).length = 22 ∧ s.root.size = 32 ∧ laidOk (superPs s.vol s.ep s.nx s.lv) = true := by
  unfold Sp.err superE at h
  split at h
  · next hr =>
    have hl := recE_zero h
    refine ⟨?_, laidL_length _ hl, hr, hl⟩
    unfold Sp.txt superS
    rw [if_pos ⟨hr, hl⟩]
    rfl
  · cases h
theorem sp_inj {s t : Sp} (es : s.err = 0) (et : t.err = 0) (e : s.txt = t.txt) : s = t := by
  obtain ⟨a1, a2, a3, a4⟩ := sp_list es
  obtain ⟨b1, b2, b3, b4⟩ := sp_list et
  rw [e, b1] at a1
  have h1 := List.append_cancel_right a1
  obtain ⟨h2, h3⟩ := List.append_inj h1 (by rw [a2, b2])
  have h4 := laidL_inj (superPs t.vol t.ep t.nx t.lv) (superPs s.vol s.ep s.nx s.lv) rfl b4 a4 h2
  have h5 : s.root = t.root := by
    have h3 : t.root.data.toList = s.root.data.toList := h3
    exact (ByteArray.ext (Array.toList_inj.1 h3)).symm
  obtain ⟨s0, s1, s2, s3, s4⟩ := s
  obtain ⟨t0, t1, t2, t3, t4⟩ := t
  simp [superPs] at h4 h5
  obtain ⟨rfl, rfl, rfl, rfl⟩ := h4
  rw [h5]
theorem jsuper_parts {s : ByteArray} (h : superOE s = 0) : s.size = 448 ∧ allZ (s.extract 54 448) = true := by
  unfold superOE at h
  by_cases h1 : 448 < s.size
  · rw [if_pos h1] at h; omega
  rw [if_neg h1] at h
  by_cases h2 : s.size < 448
  · rw [if_pos h2] at h; omega
  rw [if_neg h2] at h
  by_cases h4 : allZ (s.extract 54 448) = true
  case neg => rw [if_neg h4] at h; omega
  exact ⟨by omega, h4⟩
theorem jsuper_back {s : ByteArray} (h : superOE s = 0) : superE (superON s 0 6) (superON s 6 6) (superON s 12 6) (superON s 18 4) (superOR s) = 0 ∧ superS (superON s 0 6) (superON s 6 6) (superON s 12 6) (superON s 18 4) (superOR s) = s := by
  obtain ⟨h448, hz⟩ := jsuper_parts h
  have e : superPs (superON s 0 6) (superON s 6 6) (superON s 12 6) (superON s 18 4) = pairsOf s.data.toList 0 [6, 6, 6, 4] := by
    simp only [superON, if_pos h]
    rfl
  have er : superOR s = s.extract 22 54 := by rw [superOR, if_pos h]
  have hr : (s.extract 22 54).size = 32 := by simp; omega
  have hl := size_of_list s
  obtain ⟨p1, p2⟩ := pairs_laid s.data.toList [6, 6, 6, 4] 0 (by decide) (by rw [hl, h448]; decide)
  rw [er]
  constructor
  · rw [superE, if_pos hr, e, recE_ok p1]
  · rw [superS, e, if_pos ⟨hr, p1⟩, p2]
    unfold padL
    refine ba_of ?_
    have c2 := text_zeros s 54 448 h448 (by decide) hz
    have c3 := list_three s.data.toList 22 32
    have c4 := text_cut s 22 54
    rw [show (s.data.toList.drop 22).take 32 = _ from c4, c2] at c3
    exact c3.symm
theorem sp_reads {s : Sp} (h : s.err = 0) : superOE s.txt = 0 ∧ spOf s.txt = s := by
  obtain ⟨a1, a2, a3, a4⟩ := sp_list h
  have hs := sp_size h
  have ho : superOE s.txt = 0 := by
    unfold superOE
    rw [if_neg (by omega), if_neg (by omega), if_pos]
    have c := text_cut s.txt 54 448
    have hr : s.root.data.toList.length = 32 := by rw [← a3]; simp
    rw [a1, List.drop_left' (by simp [a2, hr])] at c
    unfold allZ
    rw [← c]
    rfl
  refine ⟨ho, ?_⟩
  obtain ⟨b1, b2⟩ := jsuper_back ho
  exact sp_inj (s := spOf s.txt) b1 h b2
/-- A promise's body is read as what it promises. -/
theorem pro_list {K : VK} (HK : VKOk K) {S : K.σ} {l : List Wt} {s : Sp} (hr : K.room S 1) (hll : l.length ≤ 24) (he : s.err = 0) : (proT K S l s).data.toList = (putS (l.length : Int) 2).data.toList ++ (K.hS S (joinB l)).data.toList ++ (laidL (superPs s.vol s.ep s.nx s.lv) ++ s.root.data.toList) ++ List.replicate 360 0 := by
  obtain ⟨_, h2, h3, _, _⟩ := pro_sizes HK hr hll he
  obtain ⟨a1, a2, a3, a4⟩ := sp_list he
  have hr2 : s.root.data.toList.length = 32 := by rw [← a3]; simp
  have h54 : (s.txt.extract 0 54).data.toList = laidL (superPs s.vol s.ep s.nx s.lv) ++ s.root.data.toList := by
    have c := text_cut s.txt 0 54
    rw [a1, List.drop_zero, List.take_left' (by simp [a2, hr2])] at c
    exact c.symm
  have h4 : (putS (l.length : Int) 2 ++ K.hS S (joinB l) ++ s.txt.extract 0 54).size = 88 := by
    rw [ByteArray.size_append, ByteArray.size_append, h2, h3, ByteArray.size_extract, sp_size he]
    rfl
  unfold proT
  have hp := padS_ok (s := putS (l.length : Int) 2 ++ K.hS S (joinB l) ++ s.txt.extract 0 54) (n := 448) (by decide) (by omega)
  rw [show (448 : Int) = ((448 : Nat) : Int) from rfl, hp, h4]
  simp only [ByteArray.data_append, Array.toList_append, h54]
theorem pro_count {K : VK} (HK : VKOk K) {S : K.σ} {l : List Wt} {s : Sp} (hr : K.room S 1) (hll : l.length ≤ 24) (he : s.err = 0) : getN (proT K S l s) 0 2 = (l.length : Int) := by
  have h1 := pro_list HK hr hll he
  obtain ⟨_, h2, _, _, h5⟩ := pro_sizes HK hr hll he
  rw [show (0 : Int) = ((0 : Nat) : Int) from rfl, show (2 : Int) = ((2 : Nat) : Int) from rfl, getN_ok (by decide) (by decide) (by omega), h1, List.drop_zero]
  have hl : (putS (l.length : Int) 2).data.toList.length = 2 := by rw [← h2]; simp
  have h256 : (256 : Int) ^ 2 = 65536 := by decide
  have hp : putS (l.length : Int) ((2 : Nat) : Int) = strOfNums (leI 2 (l.length : Int)) := putS_ok (by decide) (by decide) (by omega) (by omega)
  rw [List.append_assoc, List.append_assoc, List.take_left' hl, show (2 : Int) = ((2 : Nat) : Int) from rfl, hp]
  show leVal ((leI 2 (l.length : Int)).map fun x => UInt8.ofNat x.toNat) = _
  exact leVal_leI 2 _ (by omega) (by omega)
theorem pro_super {K : VK} (HK : VKOk K) {S : K.σ} {l : List Wt} {s : Sp} (hr : K.room S 1) (hll : l.length ≤ 24) (he : s.err = 0) (ok : Bool) (h : Hd) : piT ⟨ok, h, proT K S l s⟩ = s.txt := by
  have h1 := pro_list HK hr hll he
  obtain ⟨_, h2, h3, _, h5⟩ := pro_sizes HK hr hll he
  obtain ⟨a1, a2, a3, a4⟩ := sp_list he
  have e1 : (putS (l.length : Int) 2).data.toList.length = 2 := by rw [← h2]; simp
  have e2 : (K.hS S (joinB l)).data.toList.length = 32 := by rw [← h3]; simp
  have e3 : s.root.data.toList.length = 32 := by rw [← a3]; simp
  have hx : ((proT K S l s).extract 34 448).data.toList = laidL (superPs s.vol s.ep s.nx s.lv) ++ s.root.data.toList ++ List.replicate 360 0 := by
    rw [← text_cut, h1, List.append_assoc, List.drop_left' (by simp [e1, e2])]
    exact List.take_of_length_le (by simp [a2, e3])
  have hz : ((proT K S l s).extract 34 448).size = 414 := by simp [h5]
  unfold piT
  rw [show (448 : Int) = ((448 : Nat) : Int) from rfl, padS_ok (by decide) (by rw [hz]; decide)]
  refine ba_of ?_
  rw [hx, hz, a1, List.append_assoc, List.append_assoc, List.append_assoc]
  rfl
theorem pro_pi {K : VK} (HK : VKOk K) {S : K.σ} {l : List Wt} {s : Sp} (hr : K.room S 1) (hll : l.length ≤ 24) (he : s.err = 0) : piB ⟨true, s.hdC, proT K S l s⟩ s.lv = true ∧ piN ⟨true, s.hdC, proT K S l s⟩ s.lv = (l.length : Int) ∧ piS ⟨true, s.hdC, proT K S l s⟩ s.lv = s := by
  obtain ⟨b1, b2⟩ := sp_reads he
  have hb : piB ⟨true, s.hdC, proT K S l s⟩ s.lv = true := by
    unfold piB
    rw [pro_super HK hr hll he]
    refine decide_eq_true ⟨rfl, rfl, ?_, b1, by rw [b2]⟩
    dsimp only
    rw [pro_count HK hr hll he]
    omega
  refine ⟨hb, ?_, ?_⟩
  · unfold piN
    rw [if_pos hb]
    dsimp only
    exact pro_count HK hr hll he
  · unfold piS
    rw [if_pos hb, pro_super HK hr hll he, b2]

/-- A block that was sealed under the ideal vault. -/
def Sealed (T : VS) (h : Hd) (s r : ByteArray) : Prop := h.err = 0 ∧ s.size = 448 ∧ numOf T.seals (h.four s) ≠ 0 ∧ r = blkS h s (numOf T.seals (h.four s))
theorem Sealed.size {T : VS} {h : Hd} {s r : ByteArray} (hS : Sealed T h s r) (hl : T.seals.length ≤ 1000000) : r.size = 512 := by
  obtain ⟨e, hs, _, rfl⟩ := hS
  have := numOf_le (h.four s) T.seals
  exact blk_size e hs (by omega)
theorem Sealed.add {T : VS} {h : Hd} {s r : ByteArray} (hS : Sealed T h s r) (g : Hd) (t : ByteArray) : Sealed (bsealP T g t) h s r := by
  obtain ⟨e, hs, hn, hr⟩ := hS
  unfold bsealP
  split
  · exact ⟨e, hs, by show numOf (addN _ _) _ ≠ 0; rw [numOf_add_keeps _ hn]; exact hn, by show r = blkS h s (numOf (addN _ _) _); rw [numOf_add_keeps _ hn]; exact hr⟩
  · exact ⟨e, hs, hn, hr⟩
theorem Sealed.hash {T : VS} {h : Hd} {s r : ByteArray} (hS : Sealed T h s r) (t : ByteArray) : Sealed (hashP T t) h s r := hS
theorem sealed_new (T : VS) {h : Hd} {s : ByteArray} (e : h.err = 0) (hs : s.size = 448) : Sealed (bsealP T h s) h s (bsealS T h s) := by
  have hb : bsealB h s = true := decide_eq_true ⟨hs, e⟩
  unfold bsealP bsealS
  rw [if_pos hb, if_pos hb]
  exact ⟨e, hs, numOf_add_pos _ _, rfl⟩
theorem sealed_told (B : Nat) {T : VS} {h : Hd} {s r : ByteArray} (hS : Sealed T h s r) (hl : T.seals.length ≤ 1000000) {a : Int} (ha : h.v1 = a) : toldR (idealK B) T r a = ⟨true, h, s⟩ := by
  obtain ⟨e, hs, hn, rfl⟩ := hS
  obtain ⟨h1, h2, h3⟩ := bopen_blk T h s hl e hs hn
  have e1 : (idealK B).oE T (blkS h s (numOf T.seals (h.four s))) = 0 := h1
  have e2 : (idealK B).oH T (blkS h s (numOf T.seals (h.four s))) = h := h2
  have e3 : (idealK B).oS T (blkS h s (numOf T.seals (h.four s))) = s := h3
  unfold toldR
  rw [e1, e2, e3, if_pos ⟨rfl, ha⟩]
/-- Super and the promise under the ideal vault. -/
theorem sup_sealed (B : Nat) (T : VS) {s : Sp} (he : s.err = 0) (hh : s.hd.err = 0) : supE s = 0 ∧ Sealed (supP (idealK B) T s) s.hd s.txt (supR (idealK B) T s) ∧ supP (idealK B) T s = bsealP T s.hd s.txt := by
  have h0 : supE s = 0 := by
    unfold supE bsealE
    rw [if_pos he, if_pos (sp_size he)]
    exact hh
  have e1 : supP (idealK B) T s = bsealP T s.hd s.txt := if_pos he
  have e2 : supR (idealK B) T s = bsealS T s.hd s.txt := if_pos h0
  refine ⟨h0, ?_, e1⟩
  rw [e1, e2]
  exact sealed_new T hh (sp_size he)
theorem ideal_pro (B : Nat) (S : VS) (t : ByteArray) (h : Hd) (x : ByteArray) {X : VS} (e : X = (idealK B).sP ((idealK B).hP S t) h x) : X = bsealP (hashP S t) h x := e
theorem ideal_proR (B : Nat) (S : VS) (t : ByteArray) (h : Hd) (x : ByteArray) {X : ByteArray} (e : X = (idealK B).sS ((idealK B).hP S t) h x) : X = bsealS (hashP S t) h x := e
theorem proP_yes (K : VK) (S : K.σ) (l : List Wt) (s : Sp) (he : s.err = 0) : proP K S l s = K.sP (K.hP S (joinB l)) s.hdC (proT K S l s) := if_pos he
theorem proR_yes (K : VK) (S : K.σ) (l : List Wt) (s : Sp) (he : proE K S l s = 0) : proR K S l s = K.sS (K.hP S (joinB l)) s.hdC (proT K S l s) := if_pos he
theorem pro_sealed (B : Nat) (T : VS) {l : List Wt} {s : Sp} (hr : (idealK B).room T 1) (hll : l.length ≤ 24) (he : s.err = 0) (hh : s.hdC.err = 0) : proE (idealK B) T l s = 0 ∧ Sealed (proP (idealK B) T l s) s.hdC (proT (idealK B) T l s) (proR (idealK B) T l s) ∧ proP (idealK B) T l s = bsealP (hashP T (joinB l)) s.hdC (proT (idealK B) T l s) := by
  obtain ⟨_, _, _, _, h5⟩ := pro_sizes (idealOk B) hr hll he
  have h0 : proE (idealK B) T l s = 0 := by
    unfold proE bsealE
    rw [if_pos he, if_pos h5]
    exact hh
  have e1 := ideal_pro B T _ _ _ (proP_yes (idealK B) T l s he)
  have e2 := ideal_proR B T _ _ _ (proR_yes (idealK B) T l s h0)
  refine ⟨h0, ?_, e1⟩
  rw [e1, e2]
  exact sealed_new _ hh h5
theorem load_seen (B : Nat) {P : PS} {n a : Nat} {T : VS} {h : Hd} {s r : ByteArray} (hF : Fine P n) (hs : Seen P a r) (hS : Sealed T h s r) (hl : T.seals.length ≤ 1000000) (ha : h.v1 = (a : Int)) : loadR (idealK B) P T (a : Int) = ⟨true, h, s⟩ := by
  have hg := seen_get hF hs (hS.size hl)
  unfold loadR
  rw [hg]
  rw [if_pos ⟨rfl, rfl⟩]
  exact sealed_told B hS hl ha
theorem look_seen (B : Nat) {P : PS} {n a : Nat} {T : VS} {h : Hd} {s r : ByteArray} (hF : Fine P n) (hs : Seen P a r) (hS : Sealed T h s r) (hl : T.seals.length ≤ 1000000) (ha : h.v1 = (a : Int)) : lookR (idealK B) T (rawsTo P (P.kept.length / 8)) (masksTo P (P.kept.length / 8)) (a : Int) = ⟨true, h, s⟩ := by
  obtain ⟨h1, h2⟩ := seen_at hF hs (hS.size hl)
  unfold lookR
  rw [h1, h2, if_pos rfl]
  exact sealed_told B hS hl ha
/-- Two superblocks in their slots: the later one is chosen. -/
theorem sin_yes {s : Sp} (he : s.err = 0) (h : Hd) (h2 : h.v2 = 1) {slot : Int} (h3 : s.ep.tmod 2 = slot) : sinB ⟨true, h, s.txt⟩ slot s.lv = true := by
  obtain ⟨b1, b2⟩ := sp_reads he
  unfold sinB
  exact decide_eq_true ⟨rfl, h2, b1, by show (spOf s.txt).ep.tmod 2 = slot; rw [b2]; exact h3, by show (spOf s.txt).lv = s.lv; rw [b2]⟩
theorem cho_two {s t : Sp} (es : s.err = 0) (et : t.err = 0) (hl : s.lv = t.lv) (hs : s.ep.tmod 2 = 0) (ht : t.ep.tmod 2 = 1) : chO [⟨true, s.hd, s.txt⟩, ⟨true, t.hd, t.txt⟩] t.lv = some (if s.ep < t.ep then t else s) := by
  have a1 := sin_yes es s.hd rfl hs
  have a2 := sin_yes et t.hd rfl ht
  rw [hl] at a1
  have c0 : chN [⟨true, s.hd, s.txt⟩, ⟨true, t.hd, t.txt⟩] t.lv 1 = some s := by
    have := chN_yes (l := [⟨true, s.hd, s.txt⟩, ⟨true, t.hd, t.txt⟩]) (live := t.lv) (j := 0) (r := ⟨true, s.hd, s.txt⟩) rfl a1 (.inl rfl)
    rw [this]
    exact congrArg some (sp_reads es).2
  show chN _ _ 2 = _
  by_cases hlt : s.ep < t.ep
  · rw [if_pos hlt]
    have := chN_yes (l := [⟨true, s.hd, s.txt⟩, ⟨true, t.hd, t.txt⟩]) (live := t.lv) (j := 1) (r := ⟨true, t.hd, t.txt⟩) rfl a2 (.inr (by rw [c0]; show s.ep < (spOf t.txt).ep; rw [(sp_reads et).2]; exact hlt))
    rw [this]
    exact congrArg some (sp_reads et).2
  · rw [if_neg hlt]
    have := chN_no (l := [⟨true, s.hd, s.txt⟩, ⟨true, t.hd, t.txt⟩]) (live := t.lv) (j := 1) (r := ⟨true, t.hd, t.txt⟩) rfl (.inr ⟨by rw [c0]; rfl, by rw [c0]; show ¬ s.ep < (spOf t.txt).ep; rw [(sp_reads et).2]; exact hlt⟩)
    rw [this, c0]
end Go.Proofs.YtoopaigpjefonaaGreatDoor
