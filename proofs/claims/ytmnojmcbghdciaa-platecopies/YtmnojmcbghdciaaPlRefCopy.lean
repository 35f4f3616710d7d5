/- The document's Copy: another device that stands as this one, in blocks of its own. -/
import Derived.Test.YtmnojmcbghdciaaPlRefNew
import Derived.Test.YtmnojmcbghdciaaPlCopied
import Derived.Laws.AppendOwnNone
namespace Go.Proofs.Ytmnojmcbghdciaa
open Go.RowKit

theorem wpList_append_src {P : Program} (w : World) {ops : Array Oper} {rest : List Oper} {o : Oper} {a : Act} {Q : Exit → Act → World → Prop} (hgd : o.guard = none) (s x : Operand) (t : TypeId)
    (ho : o.op = .call { callee := .builtin .append, args := #[s, x], argTypes := #[t, t] })
    (e : TypeId) (i : TypeInfo) (z : Value) (size bytes : Nat) (ht : P.underlying t = some (.slice e)) (hi : P.info? e = some i) (hz : i.zero = some z)
    (hsize : i.size = size) (hby : i.bytes = bytes) (hzs : z.cells.size = size) (hsz : 0 < size)
    (v : Value) (hs : a.eval s = v) (hown : w.ownsRow 0 e size v 0 [])
    (xv : Value) (m : Nat) (news : List Value) (hx : a.eval x = xv) (hsrc : w.ownsRow 0 e size xv m news) (h1 : ∀ u ∈ news, u.oneCell' = true)
    (h63 : m ≤ maxLen) (hbytes : m * bytes ≤ 140737488355328)
    (h : ∀ v' w', w'.ownsRow 0 e size v' m news → w.grownBy w' v.ownBlock → (v'.ownBlock = v.ownBlock ∨ v'.ownBlock = some w.heap.size) → wpList P ops Q rest (a.put o.dst v') w') :
    wpList P ops Q (o :: rest) a w := by
  rcases hsrc.2 with ⟨rfl, rfl⟩ | ⟨g, cap, cur, rfl, _, hg, _, _, _, _⟩
  · have hn : news = [] := List.eq_nil_of_length_eq_zero (by simpa using hsrc.1)
    subst hn
    exact wpList_append_own_none hgd s x t ho 0 e i size ht hi v 0 [] hs hown hx (h v w hown ⟨rfl, rfl, rfl, Nat.le_refl _, fun _ _ _ => rfl⟩ (.inl rfl))
  · refine wpList_append_own_at w hgd s x t ho 0 e i z size bytes ht hi hz hsize hby hzs hsz v 0 [] hs hown ⟨g, 0, none⟩ m cap news hx hsrc.1 (fun j u hj => by
      by_cases hm : m = 0
      · have := (List.getElem?_eq_some_iff.1 hj).1
        rw [hsrc.1, hm] at this
        omega
      · obtain ⟨g', cap', e', _, hc⟩ := owns_form hsrc (by omega)
        cases e'
        rw [add_head]
        exact hc j u hj) h1 (by omega) (by rw [Nat.zero_add]; exact hbytes) (Nat.zero_le _) fun v' w' h2 h3 _ h5 => ?_
    rw [Nat.zero_add, List.nil_append] at h2
    exact h v' w' h2 h3 h5
theorem app_fresh {w w' : World} {e : TypeId} {v' : Value} (hg : (w.alloc (.cells #[] e)).grownBy w' (some w.heap.size)) (hat : v'.ownBlock = some w.heap.size ∨ v'.ownBlock = some (w.heap.size + 1)) : Below w.heap.size w w' ∧ ∀ g, v'.ownBlock = some g → w.heap.size ≤ g := by
  refine ⟨((Below.refl w.heap.size w).alloc (Nat.le_refl _) (.cells #[] e)).grown hg (by simp) (fun k hk => by cases hk; exact Nat.le_refl _), fun g hg' => ?_⟩
  rcases hat with e | e
  · rw [e] at hg'; cases hg'; exact Nat.le_refl _
  · rw [e] at hg'; cases hg'; omega
theorem owns_empty (w : World) (e : TypeId) (z : Nat) : (w.alloc (.cells #[] e)).ownsRow 0 e z (.slice (some ⟨w.heap.size, 0, none⟩) 0 0) 0 [] :=
  ⟨by simp, .inr ⟨w.heap.size, 0, #[], rfl, Nat.zero_le _, heap_alloc_new w _, Nat.le_refl _, Nat.zero_le _, by simp, by simp⟩⟩
theorem map_one {α : Type} (f : α → Value) (hf : ∀ x, (f x).oneCell' = true) (l : List α) : ∀ u ∈ l.map f, u.oneCell' = true := fun u hu => by
  obtain ⟨x, _, rfl⟩ := List.mem_map.1 hu
  exact hf x
theorem rwaitC_one (l : List (Nat × ByteArray)) : ∀ u ∈ waitC l, u.oneCell' = true := fun u hu => by
  simp only [waitC, List.mem_flatMap, List.mem_cons, List.not_mem_nil, or_false] at hu
  obtain ⟨p, _, rfl | rfl⟩ := hu <;> rfl
theorem slice_form {w : World} {e : TypeId} {z n : Nat} {v : Value} {xs : List Value} (h : w.ownsRow 0 e z v n xs) : ∃ oa cap, v = .slice oa n cap := by
  rcases owns_len h with ⟨cap, e⟩ | ⟨g, cap, e⟩
  · exact ⟨_, cap, e⟩
  · exact ⟨_, cap, e⟩

set_option maxRecDepth 10000 in
set_option maxHeartbeats 2000000 in
theorem rcopy_any (B : Nat) (F : Nat → Prop) (S : PS) (w : World) (hp : RefP w F B S) (hw : S.wait.length ≤ 1000000) :
    Calls Try.prog 28 #[.pointer (some ⟨B, 0, none⟩)] w fun e w' => ∃ B', e = .returned (.pointer (some ⟨B', 0, none⟩)) ∧ RefP w' (fun k => w.heap.size ≤ k ∧ k < w'.heap.size) B' S ∧ Below w.heap.size w w' := by
  obtain ⟨kv, dv, wv, ks, ds, hp⟩ := hp
  obtain ⟨i1, hi1, hy1, hz1, hb1⟩ := info_parts info_string
  obtain ⟨i2, hi2, hy2, hz2, hb2⟩ := info_parts (show (Try.prog.info? 4).map (fun i => (i.zero, i.size, i.bytes)) = some (some (.bool false), 1, 1) by kernel_rfl)
  obtain ⟨i3, hi3, hy3, hz3, hb3⟩ := info_parts info_rwrite
  have hmost := hp.most
  have c3 := hp.c3
  have c4 := hp.c4
  have c5 := hp.c5
  have c6 := hp.c6
  obtain ⟨dn, hdn⟩ : ∃ dn, dn = !S.up := ⟨_, rfl⟩
  rw [← hdn] at c4
  have HP : Hid (RefAt w F B kv dv wv ks ds S) := hp
  obtain ⟨w1, hw1⟩ : ∃ w1, (w.alloc (.cells #[.slice none 0 0, .slice none 0 0, .slice none 0 0, .int .i64 S.fuse, .bool dn, .int .i64 S.reads, .int .i64 S.writes] 62)).drew = w1 := ⟨_, rfl⟩
  have r1 : Row w1 w.heap.size 62 [.slice none 0 0, .slice none 0 0, .slice none 0 0, .int .i64 S.fuse, .bool dn, .int .i64 S.reads, .int .i64 S.writes] := by rw [← hw1]; exact heap_alloc_new w _
  have hB1 : Below w.heap.size w w1 := by rw [← hw1]; exact ((Below.refl _ _).alloc (Nat.le_refl _) _).drew
  obtain ⟨B', hB'⟩ : ∃ B', w.heap.size = B' := ⟨_, rfl⟩
  have hlt1 : B' < w1.heap.size := by have := r1.lt; omega
  have hp1 := hp.keep (w' := w1) fun k hk _ => hB1.block k hk
  have d0 := hp1.c0
  have HDN : Hid (dn = !S.up) := hdn
  rw [hB'] at r1
  clear hp hdn
  go_enter Try.func28, Try.ntmps28
  go_wp2_with fail
  go_region_held3 (fun w' => w'.cell? ⟨B, 3, none⟩ = some (.int .i64 S.fuse) ∧ w'.cell? ⟨B, 4, none⟩ = some (.bool dn) ∧ w'.cell? ⟨B, 5, none⟩ = some (.int .i64 S.reads) ∧ w'.cell? ⟨B, 6, none⟩ = some (.int .i64 S.writes)) (first | exact ⟨c3, c4, c5, c6⟩ | exact ⟨hp1.c3, by rw [HDN.out]; exact hp1.c4, hp1.c5, hp1.c6⟩ | simp [go_sem, *]) (fail)
  try rw [hw1]
  have hBw1 := hB1
  have hltw1 := hlt1
  clear hB1 hlt1 hp1 d0 c3 c4 c5 c6
  obtain ⟨oa0, ca0, hf0⟩ := slice_form HP.out.kept
  subst hf0
  have hq0 := HP.out.keep (w' := w1) fun k hk _ => hBw1.block k hk
  have e0 : (w1.alloc (.cells #[] 9)).cell? ⟨B, 0, none⟩ = some (.slice oa0 S.kept.length ca0) := (hq0.keep (w' := w1.alloc (.cells #[] 9)) fun k hk _ => Below.heap_alloc w1 _ k hk).c0
  have HS0 : Hid (w1.ownsRow 0 9 1 (.slice oa0 S.kept.length ca0) S.kept.length (ks.map Value.string)) := hq0.kept
  clear hq0
  go_wp2_with (first | (at_builtin; refine wpList_append_src _ rfl _ _ 42 rfl 9 i1 (.string ⟨#[]⟩) 1 16 Try.underlying42 hi1 hy1 hz1 hb1 rfl (by decide) (.slice (some ⟨w1.heap.size, 0, none⟩) 0 0) rfl (owns_empty w1 _ 1) (.slice oa0 S.kept.length ca0) S.kept.length (ks.map Value.string) rfl (owns_keep HS0.out fun g hg => Below.heap_alloc w1 _ g (owns_lt HS0.out g hg)) (map_one _ (fun _ => rfl) _) (by unfold maxLen; omega) (by omega) ?_))
  intro v0 w2 own0 grow0 hat0
  obtain ⟨hf0a, hf0b⟩ := app_fresh grow0 (by simpa [Value.ownBlock] using hat0)
  obtain ⟨ob0, cb0, hv0⟩ := slice_form own0
  subst hv0
  have r2 := r1.below hf0a hltw1
  have x0 := r2.cell 0
  have y0 := r2.frozen 0
  have r3 := r2.setL 0 (.slice ob0 S.kept.length cb0)
  have n0 : (Value.slice ob0 S.kept.length cb0).ownBlock ≠ some B' := fun e => by have := hf0b B' e; omega
  have o0 := owns_off own0 n0 0 (.slice ob0 S.kept.length cb0)
  have hBw3 : Below w.heap.size w (w2.setCell ⟨B', 0, none⟩ (.slice ob0 S.kept.length cb0)) := (hBw1.trans (hf0a.mono hBw1.size)).setCell (p := ⟨B', 0, none⟩) (by show w.heap.size ≤ B'; omega) _
  obtain ⟨w3, hw3⟩ : ∃ w3, w2.setCell ⟨B', 0, none⟩ (.slice ob0 S.kept.length cb0) = w3 := ⟨_, rfl⟩
  rw [hw3] at r3 o0 hBw3
  have hz3 : w2.heap.size = w3.heap.size := by rw [← hw3]; simp
  have l0 : ∀ g, (Value.slice ob0 S.kept.length cb0).ownBlock = some g → w1.heap.size ≤ g ∧ g < w3.heap.size := fun g hg => ⟨hf0b g hg, owns_lt o0 g hg⟩
  have HL0 : Hid _ := l0
  have hltw3 : B' < w3.heap.size := r3.lt
  have hs13 : w1.heap.size ≤ w3.heap.size := by have := hf0a.size; omega
  clear own0 grow0 hat0 hf0a hf0b r2 l0 hz3 HS0 e0
  obtain ⟨oa1, ca1, hf1⟩ := slice_form HP.out.dumb
  subst hf1
  have hq1 := HP.out.keep (w' := w3) fun k hk _ => hBw3.block k hk
  have e1 : (w3.alloc (.cells #[] 4)).cell? ⟨B, 1, none⟩ = some (.slice oa1 S.kept.length ca1) := (hq1.keep (w' := w3.alloc (.cells #[] 4)) fun k hk _ => Below.heap_alloc w3 _ k hk).c1
  have HS1 : Hid (w3.ownsRow 0 4 1 (.slice oa1 S.kept.length ca1) S.kept.length (ds.map Value.bool)) := hq1.dumb
  clear hq1
  go_wp2_with (first | (at_builtin; refine wpList_append_src _ rfl _ _ 31 rfl 4 i2 (.bool false) 1 1 Try.underlying31 hi2 hy2 hz2 hb2 rfl (by decide) (.slice (some ⟨w3.heap.size, 0, none⟩) 0 0) rfl (owns_empty w3 _ 1) (.slice oa1 S.kept.length ca1) S.kept.length (ds.map Value.bool) rfl (owns_keep HS1.out fun g hg => Below.heap_alloc w3 _ g (owns_lt HS1.out g hg)) (map_one _ (fun _ => rfl) _) (by unfold maxLen; omega) (by omega) ?_))
  intro v1 w4 own1 grow1 hat1
  obtain ⟨hf1a, hf1b⟩ := app_fresh grow1 (by simpa [Value.ownBlock] using hat1)
  obtain ⟨ob1, cb1, hv1⟩ := slice_form own1
  subst hv1
  have r4 := r3.below hf1a hltw3
  have x1 := r4.cell 1
  have y1 := r4.frozen 1
  have r5 := r4.setL 1 (.slice ob1 S.kept.length cb1)
  have n1 : (Value.slice ob1 S.kept.length cb1).ownBlock ≠ some B' := fun e => by have := hf1b B' e; omega
  have o1 := owns_off own1 n1 1 (.slice ob1 S.kept.length cb1)
  have hBw5 : Below w.heap.size w (w4.setCell ⟨B', 1, none⟩ (.slice ob1 S.kept.length cb1)) := (hBw3.trans (hf1a.mono hBw3.size)).setCell (p := ⟨B', 1, none⟩) (by show w.heap.size ≤ B'; omega) _
  have o0b := owns_off (owns_keep (w' := w4) o0 fun g hg => hf1a.block g (HL0.out g hg).2) n0 1 (.slice ob1 S.kept.length cb1)
  obtain ⟨w5, hw5⟩ : ∃ w5, w4.setCell ⟨B', 1, none⟩ (.slice ob1 S.kept.length cb1) = w5 := ⟨_, rfl⟩
  rw [hw5] at r5 o1 hBw5 o0b
  have HL1 : Hid (∀ g, (Value.slice ob1 S.kept.length cb1).ownBlock = some g → w3.heap.size ≤ g ∧ g < w5.heap.size) := fun g hg => ⟨hf1b g hg, owns_lt o1 g hg⟩
  have hltw5 : B' < w5.heap.size := r5.lt
  have hz5 : w4.heap.size = w5.heap.size := by rw [← hw5]; simp
  have hs35 : w3.heap.size ≤ w5.heap.size := by have := hf1a.size; omega
  clear own1 grow1 hat1 hf1a hf1b r4 o0 hz5 HS1 e1 r3 x0 y0
  obtain ⟨oa2, ca2, hf2⟩ := slice_form HP.out.wait
  subst hf2
  have hq2 := HP.out.keep (w' := w5) fun k hk _ => hBw5.block k hk
  have e2 : (w5.alloc (.cells #[] 85)).cell? ⟨B, 2, none⟩ = some (.slice oa2 S.wait.length ca2) := (hq2.keep (w' := w5.alloc (.cells #[] 85)) fun k hk _ => Below.heap_alloc w5 _ k hk).c2
  have HS2 : Hid (w5.ownsRow 0 85 2 (.slice oa2 S.wait.length ca2) S.wait.length (waitC S.wait)) := hq2.wait
  clear hq2
  go_wp2_with (first | (at_builtin; refine wpList_append_src _ rfl _ _ 60 rfl 85 i3 (.agg #[.int .i64 0, .string ⟨#[]⟩]) 2 24 Try.underlying60 hi3 hy3 hz3 hb3 rfl (by decide) (.slice (some ⟨w5.heap.size, 0, none⟩) 0 0) rfl (owns_empty w5 _ 2) (.slice oa2 S.wait.length ca2) S.wait.length (waitC S.wait) rfl (owns_keep HS2.out fun g hg => Below.heap_alloc w5 _ g (owns_lt HS2.out g hg)) (rwaitC_one _) (by unfold maxLen; omega) (by omega) ?_))
  intro v2 w6 own2 grow2 hat2
  obtain ⟨hf2a, hf2b⟩ := app_fresh grow2 (by simpa [Value.ownBlock] using hat2)
  obtain ⟨ob2, cb2, hv2⟩ := slice_form own2
  subst hv2
  have r6 := r5.below hf2a hltw5
  have x2 := r6.cell 2
  have y2 := r6.frozen 2
  have r7 := r6.setL 2 (.slice ob2 S.wait.length cb2)
  have n2 : (Value.slice ob2 S.wait.length cb2).ownBlock ≠ some B' := fun e => by have := hf2b B' e; omega
  have o2 := owns_off own2 n2 2 (.slice ob2 S.wait.length cb2)
  have hBw7 : Below w.heap.size w (w6.setCell ⟨B', 2, none⟩ (.slice ob2 S.wait.length cb2)) := (hBw5.trans (hf2a.mono hBw5.size)).setCell (p := ⟨B', 2, none⟩) (by show w.heap.size ≤ B'; omega) _
  have o0c := owns_off (owns_keep (w' := w6) o0b fun g hg => hf2a.block g (by have := (HL0.out g hg).2; omega)) n0 2 (.slice ob2 S.wait.length cb2)
  have o1c := owns_off (owns_keep (w' := w6) o1 fun g hg => hf2a.block g (HL1.out g hg).2) n1 2 (.slice ob2 S.wait.length cb2)
  obtain ⟨w7, hw7⟩ : ∃ w7, w6.setCell ⟨B', 2, none⟩ (.slice ob2 S.wait.length cb2) = w7 := ⟨_, rfl⟩
  rw [hw7] at r7 o2 hBw7 o0c o1c
  have HF : Hid (RefP w7 (fun k => w.heap.size ≤ k ∧ k < w7.heap.size) B' S ∧ Below w.heap.size w w7) := by
    have hz1 := hBw1.size
    refine ⟨⟨_, _, _, ks, ds, ⟨by rw [HDN.out] at r7; exact r7, o0c, o1c, o2, ⟨by omega, r7.lt⟩, fun g hg => ⟨by have := (HL0.out g hg).1; omega, owns_lt o0c g hg⟩, fun g hg => ⟨by have := (HL1.out g hg).1; omega, owns_lt o1c g hg⟩, fun g hg => ⟨by have := hf2b g hg; omega, owns_lt o2 g hg⟩, n0, n1, n2, fun g hg h2 => ?_, fun g hg h2 => ?_, fun g hg h2 => ?_, HP.out.most, HP.out.ats, HP.out.says, HP.out.texts, HP.out.fuse⟩⟩, hBw7⟩
    · have := (HL0.out g hg).2
      have := (HL1.out g h2).1
      omega
    · have := (HL0.out g hg).2
      have := hf2b g h2
      omega
    · have := (HL1.out g hg).2
      have := hf2b g h2
      omega
  clear own2 grow2 hat2 hf2a hf2b r6 r7 o0b o0c o1 o1c o2 HS2 e2 r5 hBw7
  go_wp2
  go_ret
  exact ⟨B', rfl, HF.out.1, HF.out.2⟩
end Go.Proofs.Ytmnojmcbghdciaa
