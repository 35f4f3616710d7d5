/- An HMAC as a text. · append onto a row that the call owns, elements of one cell: what stood in the old row stands there still. · What gather's pieces come to; frames. · sum.gather over the closure grapnel/sum.Stretch$1: the first n bytes of its pieces. -/
import Derived.Test.YtdhiopbomnfmnaaGreatDoorMg23
import Derived.Test.YtdhiopbomnfmnaaGreatDoorProg
import Derived.Deep.AppendLies
namespace Go.Proofs.YtdhiopbomnfmnaaGreatDoor.Sm
set_option maxRecDepth 20000
open Go.RowKit

def macS (key s : ByteArray) : ByteArray := strOfNums ((macL (keyP (numsOf key)) (numsOf s)).map fun (x : Nat) => (x : Int))
theorem macL_length (K m : List Nat) : (macL K m).length = 32 := shaL_length _
theorem macL_bytes (K m : List Nat) : Bytes (macL K m) := shaL_bytes _
end Go.Proofs.YtdhiopbomnfmnaaGreatDoor.Sm

namespace Go.Proofs.YtdhiopbomnfmnaaGreatDoor.Sm
set_option maxRecDepth 20000

theorem append_keeps {P : Program} (w : World) (base : Nat) (t ty e : TypeId) (i : TypeInfo) (z : Value) (bytes : Nat) (ht : P.underlying t = some (.slice e)) (hi : P.info? e = some i) (hz : i.zero = some z)
    (hsize : i.size = 1) (hby : i.bytes = bytes)
    (v : Value) (n : Nat) (xs : List Value) (hown : w.ownsRow base e 1 v n xs)
    (a : Addr) (m c : Nat) (news : List Value) (hl : news.length = m) (hnews : ∀ j u, news[j]? = some u → w.cell? (a.add j) = some u) (h1 : ∀ u ∈ news, u.oneCell' = true)
    (h63 : n + m ≤ maxLen) (hbytes : (n + m) * bytes ≤ 140737488355328) (v' : Value) (w' : World)
    (hr : (Builtin.append_ #[t, t] ty #[v, .slice (some a) m c]).run P w = .ok v' w') :
    ∀ g, v.ownBlock = some g → ∀ j u, xs[j]? = some u → w'.cell? ⟨g, j, none⟩ = some u := by
  subst hby
  intro g hg j u hu
  rcases hown.2 with ⟨rfl, _⟩ | ⟨g', cap, cur, rfl, hbg, hgg, hnc, hcm, hcs, htake⟩
  · simp [Value.ownBlock] at hg
  · obtain rfl : g' = g := by simpa [Value.ownBlock] using hg
    have hlx := hown.1
    simp only [Nat.mul_one] at hlx hcs htake
    have hjn : j < n := by have := (List.getElem?_eq_some_iff.1 hu).1; omega
    have hcur : cur.toList[j]? = some u := by
      rw [← htake, List.getElem?_take, if_pos hjn] at hu
      exact hu
    by_cases hroom : n + m ≤ cap
    · have h := run_append_room (P := P) w t ty e i ht hi g' n cap cur hgg a m c news (by rw [hsize]; omega) hnews h1 hroom (by rw [hsize]; omega)
      rw [hr] at h
      injection h with _ hw
      rw [hw, hsize, cell_of_row _ _ _ _ _ _ (setRow_heap w g' cur _ e _ hgg)]
      have hlt : (cur.toList.take (n * 1)).length = n := by simp; omega
      rw [List.getElem?_toArray, List.append_assoc, List.getElem?_append_left (by omega), List.getElem?_take, if_pos (by omega)]
      exact hcur
    · have holds : ∀ j u, xs[j]? = some u → w.cell? ((⟨g', 0, none⟩ : Addr).add j) = some u := hown.cells (g := g') rfl
      have h := run_append_grow (P := P) w t ty e i z ht hi hz ⟨g', 0, none⟩ n cap xs (by rw [hsize]; omega) holds a m c news (by rw [hsize]; omega) hnews (by omega) (by unfold maxLen at h63; omega) (growslice_fits (by omega) hbytes)
      rw [hr] at h
      injection h with _ hw
      rw [hw]
      have hlt : g' < w.heap.size := (Array.getElem?_eq_some_iff.1 hgg).1
      have h2 : (w.drew.alloc (.cells (xs.toArray ++ news.toArray ++ Builtin.zeroCells z.cells (grownCap w (n + m) cap e - (n + m))) e)).heap[g']? = some (.cells cur e (0, 0)) := by first | exact (heap_alloc_old w.drew _ g' hlt).trans hgg | exact (heap_alloc_old w.drew _ hlt).trans hgg
      rw [cell_of_row _ _ _ _ _ _ h2]
      simpa using hcur

theorem wp_append_kept {P : Program} (w : World) {o : Oper} {a : Act} {K : Act → World → Prop} {Q : Exit → Act → World → Prop} (s x : Operand) (t : TypeId)
    (ho : o.op = .call { callee := .builtin .append, args := #[s, x], argTypes := #[t, t] })
    (base : Nat) (e : TypeId) (i : TypeInfo) (z : Value) (bytes : Nat) (ht : P.underlying t = some (.slice e)) (hi : P.info? e = some i) (hz : i.zero = some z)
    (hsize : i.size = 1) (hby : i.bytes = bytes) (hzs : z.cells.size = 1)
    (v : Value) (n : Nat) (xs : List Value) (hs : a.eval s = v) (hown : w.ownsRow base e 1 v n xs)
    (ad : Addr) (m c : Nat) (news : List Value) (hx : a.eval x = .slice (some ad) m c) (hl : news.length = m) (hnews : ∀ j u, news[j]? = some u → w.cell? (ad.add j) = some u) (h1 : ∀ u ∈ news, u.oneCell' = true)
    (hm : 0 < m) (h63 : n + m ≤ maxLen) (hbytes : (n + m) * bytes ≤ 140737488355328) (hbase : base ≤ w.heap.size)
    (h : ∀ g cap w', w'.ownsRow base e 1 (.slice (some ⟨g, 0, none⟩) (n + m) cap) (n + m) (xs ++ news) → w.grownBy w' v.ownBlock → (v.ownBlock = some g ∨ g = w.heap.size) → (∀ g0, v.ownBlock = some g0 → ∀ j u, xs[j]? = some u → w'.cell? ⟨g0, j, none⟩ = some u) → K (a.put o.dst (.slice (some ⟨g, 0, none⟩) (n + m) cap)) w') : o.wp P a w K Q := by
  obtain ⟨g, cap, w', hr, h2, h3, h4, _⟩ := run_append_lies (P := P) w t o.type base e i z 1 bytes ht hi hz hsize hby hzs (by decide) v n xs hown ad m c news (by omega) hnews h1 hm h63 hbytes hbase _ rfl
  have h5 := append_keeps w base t o.type e i z bytes ht hi hz hsize hby v n xs hown ad m c news hl hnews h1 h63 hbytes _ _ hr
  unfold Oper.wp execOp
  simp only [ho, resolve, invoke, builtin, Sem.run_bind, Sem.run_pure, Result.andThen_ok, List.map_toArray, List.map_cons, List.map_nil, hs, hx, hr]
  exact h g cap w' h2 h3 h4 h5

theorem step_append_kept {P : Program} (w : World) {ops : Array Oper} {o : Oper} {a : Act} {K : Act → World → Prop} {Q : Exit → Act → World → Prop} {E : Prop} (hgd : o.guard = none) (s x : Operand) (t : TypeId)
    (ho : o.op = .call { callee := .builtin .append, args := #[s, x], argTypes := #[t, t] })
    (base : Nat) (e : TypeId) (i : TypeInfo) (z : Value) (bytes : Nat) (ht : P.underlying t = some (.slice e)) (hi : P.info? e = some i) (hz : i.zero = some z)
    (hsize : i.size = 1) (hby : i.bytes = bytes) (hzs : z.cells.size = 1)
    (v : Value) (n : Nat) (xs : List Value) (hs : a.eval s = v) (hown : w.ownsRow base e 1 v n xs)
    (ad : Addr) (m c : Nat) (news : List Value) (hx : a.eval x = .slice (some ad) m c) (hl : news.length = m) (hnews : ∀ j u, news[j]? = some u → w.cell? (ad.add j) = some u) (h1 : ∀ u ∈ news, u.oneCell' = true)
    (hm : 0 < m) (h63 : n + m ≤ maxLen) (hbytes : (n + m) * bytes ≤ 140737488355328) (hbase : base ≤ w.heap.size)
    (h : ∀ g cap w', w'.ownsRow base e 1 (.slice (some ⟨g, 0, none⟩) (n + m) cap) (n + m) (xs ++ news) → w.grownBy w' v.ownBlock → (v.ownBlock = some g ∨ g = w.heap.size) → (∀ g0, v.ownBlock = some g0 → ∀ j u, xs[j]? = some u → w'.cell? ⟨g0, j, none⟩ = some u) → K (a.put o.dst (.slice (some ⟨g, 0, none⟩) (n + m) cap)) w') :
    if Region.wanted o (yielded ops a.tmps) = true then Oper.wp P o a w K Q else E := by
  have hw : Region.wanted o (yielded ops a.tmps) = true := by simp [Region.wanted, hgd]
  rw [if_pos hw]
  exact wp_append_kept w s x t ho base e i z bytes ht hi hz hsize hby hzs v n xs hs hown ad m c news hx hl hnews h1 hm h63 hbytes hbase h
end Go.Proofs.YtdhiopbomnfmnaaGreatDoor.Sm

namespace Go.Proofs.YtdhiopbomnfmnaaGreatDoor.Sm
set_option maxRecDepth 20000
open Go.RowKit

theorem info_b8 : (Tryz.prog.info? 5).map (fun i => (i.zero, i.size, i.bytes)) = some (some (.int .u8 0), 1, 1) := by kernel_rfl
/-- The first m pieces, one behind the other. -/
def catD (D : Nat → List Nat) : Nat → List Nat
  | 0 => []
  | m + 1 => catD D m ++ D m
theorem catD_length (D : Nat → List Nat) (h : ∀ i, (D i).length = 32) : ∀ m, (catD D m).length = 32 * m
  | 0 => rfl
  | m + 1 => by rw [catD, List.length_append, catD_length D h m, h]; omega
theorem only_below {b : Nat} {w w1 w2 : World} (h : Only b w w1) (hb : Below w.heap.size w1 w2) : Only b w w2 :=
  ⟨h.1.trans (hb.mono (Nat.zero_le _)), fun k hk hne => (hb.block k hk).trans (h.2 k hk hne)⟩
theorem owns_only {b base n : Nat} {w w' : World} {e : TypeId} {v : Value} {xs : List Value} (h : w.ownsRow base e 1 v n xs) (ho : Only b w w') (hne : ∀ k, v.ownBlock = some k → k ≠ b) : w'.ownsRow base e 1 v n xs := by
  have hg : w.grownBy w' (some b) := ⟨ho.1.os, ho.1.tape, ho.1.output, ho.size, fun k hk hn => ho.2 k hk (fun e => hn (by rw [e]))⟩
  refine h.kept hg ?_
  cases hv : v.ownBlock with
  | none => exact .inl rfl
  | some k => exact .inr (fun e => hne k hv (Option.some.inj e))
end Go.Proofs.YtdhiopbomnfmnaaGreatDoor.Sm

namespace Go.Proofs.YtdhiopbomnfmnaaGreatDoor.Sm
set_option maxRecDepth 20000
open Go.RowKit

set_option maxRecDepth 10000 in
set_option maxHeartbeats 1000000 in
theorem gatherS (n : Nat) (hn : n ≤ 8160) (c0 c1 c2 : Value) (LB : Nat) (D : Nat → List Nat) (hD : ∀ i, (D i).length = 32) (Inv : Nat → World → Prop) (w : World) (hLB : LB < w.heap.size) (h0 : Inv 0 w)
    (hst : ∀ i w1 w2, Inv i w1 → Below w.heap.size w1 w2 → Inv i w2)
    (hcall : ∀ i w1, i < (n + 31) / 32 → Inv i w1 → w.heap.size ≤ w1.heap.size → Calls Tryz.prog 26 #[.int .i64 ((i : Int) + 1), c0, c1, c2] w1 fun e w2 => e = .returned (.agg (byV (D i)).toArray) ∧ Inv (i + 1) w2 ∧ Only LB w1 w2) :
    Calls Tryz.prog 25 #[.int .i64 n, .func (.func 26) #[] #[c0, c1, c2]] w fun e w' => e = .returned (.string (strOfNums (((catD D ((n + 31) / 32)).take n).map fun (x : Nat) => (x : Int)))) ∧ Inv ((n + 31) / 32) w' ∧ Only LB w w' := by
  obtain ⟨i0, hi, hz0, hz1, hz2⟩ := info_parts info_b8
  obtain ⟨m, hm⟩ : ∃ m, m = (n + 31) / 32 := ⟨_, rfl⟩
  have hm1 : m ≤ 255 := by omega
  have hmn : n ≤ 32 * m := by omega
  have hnm : 32 * m ≤ n + 31 := by omega
  have q1 : IntKind.i64.wrap ((n : Int) + 32) = n + 32 := by rw [IntKind.wrap_i64]; omega
  have q2 : IntKind.i64.wrap ((n : Int) + 32 - 1) = n + 31 := by rw [IntKind.wrap_i64]; omega
  have q3 : ((n : Int) + 31) / 32 = m := by omega
  rw [← hm] at hcall
  rw [← hm]
  obtain ⟨zd, hzd⟩ : ∃ zd : Array Value, zd = (digV []).toArray := ⟨_, rfl⟩
  have hdv : ∀ w, (zeroValue 75).run Tryz.prog w = .ok (.agg zd) w := by rw [hzd]; exact (zero_of_info (n := 32) (by kernel_rfl)).1
  have hzd32 : zd.size = 32 := by rw [hzd]; rfl
  have HC : Hid (∀ i w1, i < m → Inv i w1 → w.heap.size ≤ w1.heap.size → Calls Tryz.prog 26 #[.int .i64 ((i : Int) + 1), c0, c1, c2] w1 fun e w2 => e = .returned (.agg (byV (D i)).toArray) ∧ Inv (i + 1) w2 ∧ Only LB w1 w2) := hcall
  have HST : Hid (∀ i w1 w2, Inv i w1 → Below w.heap.size w1 w2 → Inv i w2) := hst
  have HD : Hid (∀ i, (D i).length = 32) := hD
  have HM : Hid (m = (n + 31) / 32) := hm
  clear hcall hst hzd hm hD
  go_enter Tryz.func25, Tryz.ntmps25
  go_wp2_with fail
  rw [q3]
  go_loopw [5, 12] (fun v i wr => ∃ j : Nat, j ≤ m ∧ i = .int .i64 j ∧ wr.ownsRow w.heap.size 5 1 v (32 * j) (byV (catD D j)) ∧ Inv j wr ∧ Only LB w wr) (fun _ i _ => m - (intOf i).toNat)
  case atStart => exact ⟨0, Nat.zero_le _, rfl, World.ownsRow_nil _ _ _ _, h0, Only.refl _ _⟩
  case round =>
    clear h0
    obtain ⟨j, hj, rfl, hown, hinv, ho⟩ := hrel
    by_cases hlt : j < m
    · have j1 : (j : Int) < m := by omega
      have HR : Hid (wr.ownsRow w.heap.size 5 1 u5 (32 * j) (byV (catD D j)) ∧ Inv j wr ∧ Only LB w wr) := ⟨hown, hinv, ho⟩
      clear hown hinv ho
      go_wp2_with fail
      refine (HC.out j wr hlt HR.out.2.1 HR.out.2.2.size).mono ?_
      rintro e w3 ⟨rfl, hinv3, ho3⟩
      obtain ⟨ds, hds⟩ : ∃ ds, ds = (byV (D j)).toArray := ⟨_, rfl⟩
      have hsz2 : ds.size = 32 := by rw [hds]; simp [byV, HD.out]
      have hone : ds.all (·.oneCell') = true := by rw [hds]; simp [byV, Value.oneCell']
      have hinfo : (Tryz.prog.info? 75).map (·.size) = some ds.size := by rw [hsz2]; kernel_rfl
      have hz32 : zd.size = ds.size := by rw [hzd32, hsz2]
      rw [← hds]
      have hown3 : w3.ownsRow w.heap.size 5 1 u5 (32 * j) (byV (catD D j)) := owns_only HR.out.1 ho3 (fun k hk => by have := (HR.out.1.lt k hk).1; omega)
      have HDS : Hid (ds = (byV (D j)).toArray) := hds
      clear hds
      have hset : (w3.alloc (.cells zd 75)).setRow w3.heap.size ds = w3.alloc (.cells ds 75) := World.setRow_alloc_new _ _ _ _
      have hrow4 : Row (w3.alloc (.cells ds 75)) w3.heap.size 75 (byV (D j)) := by rw [HDS.out]; exact heap_alloc_new w3 _
      have hown4 := hown3.alloc (.cells ds 75)
      have hle3 : w.heap.size ≤ w3.heap.size := Nat.le_trans HR.out.2.2.size ho3.size
      have hb4 : Below w.heap.size w3 (w3.alloc (.cells ds 75)) := (Below.refl _ _).alloc hle3 _
      obtain ⟨w4, hw4⟩ : ∃ w4, w4 = w3.alloc (.cells ds 75) := ⟨_, rfl⟩
      rw [← hw4] at hset hrow4 hown4 hb4
      clear hw4
      have hl32 : (byV (D j)).length = 32 := by simp [byV, HD.out]
      have H4 : Hid (w4.ownsRow w.heap.size 5 1 u5 (32 * j) (byV (catD D j)) ∧ Row w4 w3.heap.size 75 (byV (D j)) ∧ Below w.heap.size w3 w4 ∧ Inv (j + 1) w3 ∧ Only LB w w3 ∧ w.heap.size ≤ w4.heap.size) := ⟨hown4, hrow4, hb4, hinv3, HR.out.2.2.trans ho3, Nat.le_trans hle3 hb4.size⟩
      clear hown3 hown4 hrow4 hb4 hinv3 ho3 HDS HR
      go_wp2_with (first | (at_builtin; refine wpList_append_own _ rfl _ _ 55 rfl w.heap.size 5 i0 (.int .u8 0) 1 1 Tryz.underlying55 hi hz0 hz1 hz2 rfl (by decide) u5 (32 * j) _ rfl H4.out.1 ⟨w3.heap.size, 0, none⟩ 32 32 (byV (D j)) rfl ?c1 (World.news_of_block H4.out.2.1) (byV_one _) ?c3 ?c4 H4.out.2.2.2.2.2 ?_) | (refine wpList_store_row rfl 75 _ _ rfl w3.heap.size ds rfl rfl 75 _ (heap_alloc_new w3 _) hinfo hz32 hone ?_; rw [hset]))
      case c1 => rw [hl32]
      case c3 => unfold maxLen; omega
      case c4 => omega
      intro v' w5 hown5 hgrow5 _
      have hb5 : Below w.heap.size w3 w5 := H4.out.2.2.1.grown hgrow5 H4.out.2.2.2.2.2 (fun k hk => (H4.out.1.lt k hk).1)
      have HF : Hid (w5.ownsRow w.heap.size 5 1 v' (32 * (j + 1)) (byV (catD D (j + 1))) ∧ Inv (j + 1) w5 ∧ Only LB w w5) := ⟨by
        rw [catD, byV_append]; exact hown5, HST.out _ _ _ H4.out.2.2.2.1 hb5, only_below H4.out.2.2.2.2.1 hb5⟩
      clear hown5 hgrow5 hb5 H4 hl32
      go_wp2
      go_roundw
      case rel => exact ⟨j + 1, by omega, by go_num, HF.out.1, HF.out.2.1, HF.out.2.2⟩
      case measure => simp [intOf]; omega
    · obtain rfl : j = m := by omega
      by_cases hn0 : n = 0
      · subst hn0
        obtain rfl : j = 0 := by omega
        have hv : u5 = .slice none 0 0 ∨ ∃ g cap, u5 = .slice (some ⟨g, 0, none⟩) 0 cap := by
          rcases hown.2 with ⟨h, _⟩ | ⟨g, cap, cur, h, _⟩
          · exact .inl h
          · exact .inr ⟨g, cap, h⟩
        have HF : Hid (Inv 0 wr ∧ Only LB w wr ∧ strOfNums (((catD D 0).take 0).map fun (x : Nat) => (x : Int)) = ByteArray.empty) := ⟨hinv, ho, rfl⟩
        clear hown hinv ho
        rcases hv with rfl | ⟨g, cap, rfl⟩
        · have hcv := fun W => run_convert_bytes_nil (P := Tryz.prog) W 55 5 Tryz.underlying55 Tryz.underlying5 0 0 9 Tryz.underlying9
          go_wp2
          first
            | (rw [hcv]; go_wp2)
            | skip
          go_ret
          exact ⟨rfl, HF.out.1, HF.out.2.1⟩
        · have hcv := fun W => run_convert_bytes_arg (P := Tryz.prog) W 55 5 Tryz.underlying55 Tryz.underlying5 g 0 0 cap [] rfl (fun i hi => absurd hi (Nat.not_lt_zero i)) 9 Tryz.underlying9
          have hc0 : (0 : Int) ≤ cap := by omega
          go_wp2
          first
            | (rw [hcv]; go_wp2)
            | skip
          go_ret
          exact ⟨rfl, HF.out.1, HF.out.2.1⟩
      · obtain ⟨g, cap, rfl, _, _⟩ := hown.form (by omega)
        have hcl : 32 * j ≤ cap := by
          rcases hown.2 with ⟨h, _⟩ | ⟨g', cap', cur, h, _, _, hc, _⟩
          · simp at h
          · simp only [Value.slice.injEq, Option.some.injEq, Addr.mk.injEq, and_true, true_and] at h
            omega
        have hnc : (n : Int) ≤ cap := by omega
        have hcl2 : (catD D j).length = 32 * j := catD_length D HD.out j
        have hcv := run_convert_bytes_arg (P := Tryz.prog) wr 55 5 Tryz.underlying55 Tryz.underlying5 g 0 n cap (((catD D j).take n).map fun (x : Nat) => (x : Int)) (by simp; omega) (fun i hi => by
          rw [Nat.zero_add, hown.cellAt i (by omega), byV_get _ _ (by omega), getD_at _ _ (by omega)]
          have h1 : i < ((catD D j).take n).length := by simp; omega
          rw [List.getD_eq_getElem?_getD, List.getElem?_map, List.getElem?_eq_getElem h1, List.getElem_take]; rfl) 9 Tryz.underlying9
        have HF : Hid (Inv j wr ∧ Only LB w wr) := ⟨hinv, ho⟩
        clear hown hinv ho
        obtain ⟨X, hX⟩ : ∃ X, X = strOfNums (((catD D j).take n).map fun (x : Nat) => (x : Int)) := ⟨_, rfl⟩
        rw [← hX] at hcv
        have HX : Hid (X = strOfNums (((catD D j).take n).map fun (x : Nat) => (x : Int))) := hX
        clear hX
        go_wp2
        first
          | (rw [hcv]; go_wp2)
          | skip
        go_ret
        exact ⟨by first | (rw [HX.out]; rfl) | (rw [HX.out, List.map_take]; rfl), HF.out.1, HF.out.2⟩
end Go.Proofs.YtdhiopbomnfmnaaGreatDoor.Sm
