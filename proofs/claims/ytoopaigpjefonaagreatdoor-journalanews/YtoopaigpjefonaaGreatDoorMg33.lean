/- An HMAC as a text. · append onto a row that the call owns, elements of one cell: what stood in the old row stands there still. · What gather's pieces come to; frames. · sum.gather over the closure grapnel/sum.Stretch$1: the first n bytes of its pieces. · (*sum.macKey).stretched: PBKDF2's block i. -/
import Derived.Test.YtoopaigpjefonaaGreatDoorMg32
import Derived.Test.YtoopaigpjefonaaGreatDoorProg
import Derived.Deep.AppendLies
namespace Go.Proofs.YtoopaigpjefonaaGreatDoor.Sm
set_option maxRecDepth 20000
open Go.RowKit

def macS (key s : ByteArray) : ByteArray := strOfNums ((macL (keyP (numsOf key)) (numsOf s)).map fun (x : Nat) => (x : Int))
theorem macL_length (K m : List Nat) : (macL K m).length = 32 := shaL_length _
theorem macL_bytes (K m : List Nat) : Bytes (macL K m) := shaL_bytes _
end Go.Proofs.YtoopaigpjefonaaGreatDoor.Sm

namespace Go.Proofs.YtoopaigpjefonaaGreatDoor.Sm
set_option maxRecDepth 20000

theorem append_keeps {P : Program} (w : World) (base : Nat) (t ty e : TypeId) (i : TypeInfo) (z : Value) (bytes : Nat) (ht : P.underlying t = some (.slice e)) (hi : P.info? e = some i) (hz : i.zero = some z)
    (hsize : i.size = 1) (hby : i.bytes = bytes)
    (v : Value) (n : Nat) (xs : List Value) (hown : w.ownsRow base e 1 v n xs)
    (a : Addr) (m c : Nat) (news : List Value) (hl : news.length = m) (hnews : ∀ j u, news[j]? = some u → w.cell? (a.add j) = some u) (h1 : ∀ u ∈ news, u.oneCell' = true)
    (h63 : n + m ≤ maxLen) (hbytes : (n + m) * bytes ≤ 140737488355328) (v' : Value) (w' : World)
    (hr : (Builtin.append_ #[t, t] ty #[v, .slice (some a) m c]).run P w = .ok v' w') :
    ∀ g, v.ownBlock = some g → ∀ j u, xs[j]? = some u → w'.cell? ⟨g, j, none⟩ = some u := by
  subst hby
  intro g hg j u hu
  rcases hown.2 with ⟨rfl, _⟩ | ⟨g', cap, cur, rfl, hbg, hgg, hnc, hcm, hcs, htake⟩
  · simp [Value.ownBlock] at hg
  · obtain rfl : g' = g := by simpa [Value.ownBlock] using hg
    have hlx := hown.1
    simp only [Nat.mul_one] at hlx hcs htake
    have hjn : j < n := by have := (List.getElem?_eq_some_iff.1 hu).1; omega
    have hcur : cur.toList[j]? = some u := by
      rw [← htake, List.getElem?_take, if_pos hjn] at hu
      exact hu
    by_cases hroom : n + m ≤ cap
    · have h := run_append_room (P := P) w t ty e i ht hi g' n cap cur hgg a m c news (by rw [hsize]; omega) hnews h1 hroom (by rw [hsize]; omega)
      rw [hr] at h
      injection h with _ hw
      rw [hw, hsize, cell_of_row _ _ _ _ _ _ (setRow_heap w g' cur _ e _ hgg)]
      have hlt : (cur.toList.take (n * 1)).length = n := by simp; omega
      rw [List.getElem?_toArray, List.append_assoc, List.getElem?_append_left (by omega), List.getElem?_take, if_pos (by omega)]
      exact hcur
    · have holds : ∀ j u, xs[j]? = some u → w.cell? ((⟨g', 0, none⟩ : Addr).add j) = some u := hown.cells (g := g') rfl
      have h := run_append_grow (P := P) w t ty e i z ht hi hz ⟨g', 0, none⟩ n cap xs (by rw [hsize]; omega) holds a m c news (by rw [hsize]; omega) hnews (by omega) (by unfold maxLen at h63; omega) (growslice_fits (by omega) hbytes)
      rw [hr] at h
      injection h with _ hw
      rw [hw]
      have hlt : g' < w.heap.size := (Array.getElem?_eq_some_iff.1 hgg).1
      have h2 : (w.drew.alloc (.cells (xs.toArray ++ news.toArray ++ Builtin.zeroCells z.cells (grownCap w (n + m) cap e - (n + m))) e)).heap[g']? = some (.cells cur e (0, 0)) := by first | exact (heap_alloc_old w.drew _ g' hlt).trans hgg | exact (heap_alloc_old w.drew _ hlt).trans hgg
      rw [cell_of_row _ _ _ _ _ _ h2]
      simpa using hcur

theorem wp_append_kept {P : Program} (w : World) {o : Oper} {a : Act} {K : Act → World → Prop} {Q : Exit → Act → World → Prop} (s x : Operand) (t : TypeId)
    (ho : o.op = .call { callee := .builtin .append, args := #[s, x], argTypes := #[t, t] })
    (base : Nat) (e : TypeId) (i : TypeInfo) (z : Value) (bytes : Nat) (ht : P.underlying t = some (.slice e)) (hi : P.info? e = some i) (hz : i.zero = some z)
    (hsize : i.size = 1) (hby : i.bytes = bytes) (hzs : z.cells.size = 1)
    (v : Value) (n : Nat) (xs : List Value) (hs : a.eval s = v) (hown : w.ownsRow base e 1 v n xs)
    (ad : Addr) (m c : Nat) (news : List Value) (hx : a.eval x = .slice (some ad) m c) (hl : news.length = m) (hnews : ∀ j u, news[j]? = some u → w.cell? (ad.add j) = some u) (h1 : ∀ u ∈ news, u.oneCell' = true)
    (hm : 0 < m) (h63 : n + m ≤ maxLen) (hbytes : (n + m) * bytes ≤ 140737488355328) (hbase : base ≤ w.heap.size)
    (h : ∀ g cap w', w'.ownsRow base e 1 (.slice (some ⟨g, 0, none⟩) (n + m) cap) (n + m) (xs ++ news) → w.grownBy w' v.ownBlock → (v.ownBlock = some g ∨ g = w.heap.size) → (∀ g0, v.ownBlock = some g0 → ∀ j u, xs[j]? = some u → w'.cell? ⟨g0, j, none⟩ = some u) → K (a.put o.dst (.slice (some ⟨g, 0, none⟩) (n + m) cap)) w') : o.wp P a w K Q := by
  obtain ⟨g, cap, w', hr, h2, h3, h4, _⟩ := run_append_lies (P := P) w t o.type base e i z 1 bytes ht hi hz hsize hby hzs (by decide) v n xs hown ad m c news (by omega) hnews h1 hm h63 hbytes hbase _ rfl
  have h5 := append_keeps w base t o.type e i z bytes ht hi hz hsize hby v n xs hown ad m c news hl hnews h1 h63 hbytes _ _ hr
  unfold Oper.wp execOp
  simp only [ho, resolve, invoke, builtin, Sem.run_bind, Sem.run_pure, Result.andThen_ok, List.map_toArray, List.map_cons, List.map_nil, hs, hx, hr]
  exact h g cap w' h2 h3 h4 h5

theorem step_append_kept {P : Program} (w : World) {ops : Array Oper} {o : Oper} {a : Act} {K : Act → World → Prop} {Q : Exit → Act → World → Prop} {E : Prop} (hgd : o.guard = none) (s x : Operand) (t : TypeId)
    (ho : o.op = .call { callee := .builtin .append, args := #[s, x], argTypes := #[t, t] })
    (base : Nat) (e : TypeId) (i : TypeInfo) (z : Value) (bytes : Nat) (ht : P.underlying t = some (.slice e)) (hi : P.info? e = some i) (hz : i.zero = some z)
    (hsize : i.size = 1) (hby : i.bytes = bytes) (hzs : z.cells.size = 1)
    (v : Value) (n : Nat) (xs : List Value) (hs : a.eval s = v) (hown : w.ownsRow base e 1 v n xs)
    (ad : Addr) (m c : Nat) (news : List Value) (hx : a.eval x = .slice (some ad) m c) (hl : news.length = m) (hnews : ∀ j u, news[j]? = some u → w.cell? (ad.add j) = some u) (h1 : ∀ u ∈ news, u.oneCell' = true)
    (hm : 0 < m) (h63 : n + m ≤ maxLen) (hbytes : (n + m) * bytes ≤ 140737488355328) (hbase : base ≤ w.heap.size)
    (h : ∀ g cap w', w'.ownsRow base e 1 (.slice (some ⟨g, 0, none⟩) (n + m) cap) (n + m) (xs ++ news) → w.grownBy w' v.ownBlock → (v.ownBlock = some g ∨ g = w.heap.size) → (∀ g0, v.ownBlock = some g0 → ∀ j u, xs[j]? = some u → w'.cell? ⟨g0, j, none⟩ = some u) → K (a.put o.dst (.slice (some ⟨g, 0, none⟩) (n + m) cap)) w') :
    if Region.wanted o (yielded ops a.tmps) = true then Oper.wp P o a w K Q else E := by
  have hw : Region.wanted o (yielded ops a.tmps) = true := by simp [Region.wanted, hgd]
  rw [if_pos hw]
  exact wp_append_kept w s x t ho base e i z bytes ht hi hz hsize hby hzs v n xs hs hown ad m c news hx hl hnews h1 hm h63 hbytes hbase h
end Go.Proofs.YtoopaigpjefonaaGreatDoor.Sm

namespace Go.Proofs.YtoopaigpjefonaaGreatDoor.Sm
set_option maxRecDepth 20000
open Go.RowKit

theorem info_b8 : (Tryz.prog.info? 5).map (fun i => (i.zero, i.size, i.bytes)) = some (some (.int .u8 0), 1, 1) := by kernel_rfl
/-- The first m pieces, one behind the other. -/
def catD (D : Nat → List Nat) : Nat → List Nat
  | 0 => []
  | m + 1 => catD D m ++ D m
theorem catD_length (D : Nat → List Nat) (h : ∀ i, (D i).length = 32) : ∀ m, (catD D m).length = 32 * m
  | 0 => rfl
  | m + 1 => by rw [catD, List.length_append, catD_length D h m, h]; omega
theorem only_below {b : Nat} {w w1 w2 : World} (h : Only b w w1) (hb : Below w.heap.size w1 w2) : Only b w w2 :=
  ⟨h.1.trans (hb.mono (Nat.zero_le _)), fun k hk hne => (hb.block k hk).trans (h.2 k hk hne)⟩
theorem owns_only {b base n : Nat} {w w' : World} {e : TypeId} {v : Value} {xs : List Value} (h : w.ownsRow base e 1 v n xs) (ho : Only b w w') (hne : ∀ k, v.ownBlock = some k → k ≠ b) : w'.ownsRow base e 1 v n xs := by
  have hg : w.grownBy w' (some b) := ⟨ho.1.os, ho.1.tape, ho.1.output, ho.size, fun k hk hn => ho.2 k hk (fun e => hn (by rw [e]))⟩
  refine h.kept hg ?_
  cases hv : v.ownBlock with
  | none => exact .inl rfl
  | some k => exact .inr (fun e => hne k hv (Option.some.inj e))
end Go.Proofs.YtoopaigpjefonaaGreatDoor.Sm

namespace Go.Proofs.YtoopaigpjefonaaGreatDoor.Sm
set_option maxRecDepth 20000
open Go.RowKit

set_option maxRecDepth 10000 in
set_option maxHeartbeats 1000000 in
theorem gatherS (n : Nat) (hn : n ≤ 8160) (c0 c1 c2 : Value) (LB : Nat) (D : Nat → List Nat) (hD : ∀ i, (D i).length = 32) (Inv : Nat → World → Prop) (w : World) (hLB : LB < w.heap.size) (h0 : Inv 0 w)
    (hst : ∀ i w1 w2, Inv i w1 → Below w.heap.size w1 w2 → Inv i w2)
    (hcall : ∀ i w1, i < (n + 31) / 32 → Inv i w1 → w.heap.size ≤ w1.heap.size → Calls Tryz.prog 86 #[.int .i64 ((i : Int) + 1), c0, c1, c2] w1 fun e w2 => e = .returned (.agg (byV (D i)).toArray) ∧ Inv (i + 1) w2 ∧ Only LB w1 w2) :
    Calls Tryz.prog 85 #[.int .i64 n, .func (.func 86) #[] #[c0, c1, c2]] w fun e w' => e = .returned (.string (strOfNums (((catD D ((n + 31) / 32)).take n).map fun (x : Nat) => (x : Int)))) ∧ Inv ((n + 31) / 32) w' ∧ Only LB w w' := by
  obtain ⟨i0, hi, hz0, hz1, hz2⟩ := info_parts info_b8
  obtain ⟨m, hm⟩ : ∃ m, m = (n + 31) / 32 := ⟨_, rfl⟩
  have hm1 : m ≤ 255 := by omega
  have hmn : n ≤ 32 * m := by omega
  have hnm : 32 * m ≤ n + 31 := by omega
  have q1 : IntKind.i64.wrap ((n : Int) + 32) = n + 32 := by rw [IntKind.wrap_i64]; omega
  have q2 : IntKind.i64.wrap ((n : Int) + 32 - 1) = n + 31 := by rw [IntKind.wrap_i64]; omega
  have q3 : ((n : Int) + 31) / 32 = m := by omega
  rw [← hm] at hcall
  rw [← hm]
  obtain ⟨zd, hzd⟩ : ∃ zd : Array Value, zd = (digV []).toArray := ⟨_, rfl⟩
  have hdv : ∀ w, (zeroValue 172).run Tryz.prog w = .ok (.agg zd) w := by rw [hzd]; exact (zero_of_info (n := 32) (by kernel_rfl)).1
  have hzd32 : zd.size = 32 := by rw [hzd]; rfl
  have HC : Hid (∀ i w1, i < m → Inv i w1 → w.heap.size ≤ w1.heap.size → Calls Tryz.prog 86 #[.int .i64 ((i : Int) + 1), c0, c1, c2] w1 fun e w2 => e = .returned (.agg (byV (D i)).toArray) ∧ Inv (i + 1) w2 ∧ Only LB w1 w2) := hcall
  have HST : Hid (∀ i w1 w2, Inv i w1 → Below w.heap.size w1 w2 → Inv i w2) := hst
  have HD : Hid (∀ i, (D i).length = 32) := hD
  have HM : Hid (m = (n + 31) / 32) := hm
  clear hcall hst hzd hm hD
  go_enter Tryz.func85, Tryz.ntmps85
  go_wp2_with fail
  rw [q3]
  go_loopw [5, 12] (fun v i wr => ∃ j : Nat, j ≤ m ∧ i = .int .i64 j ∧ wr.ownsRow w.heap.size 5 1 v (32 * j) (byV (catD D j)) ∧ Inv j wr ∧ Only LB w wr) (fun _ i _ => m - (intOf i).toNat)
  case atStart => exact ⟨0, Nat.zero_le _, rfl, World.ownsRow_nil _ _ _ _, h0, Only.refl _ _⟩
  case round =>
    clear h0
    obtain ⟨j, hj, rfl, hown, hinv, ho⟩ := hrel
    by_cases hlt : j < m
    · have j1 : (j : Int) < m := by omega
      have HR : Hid (wr.ownsRow w.heap.size 5 1 u5 (32 * j) (byV (catD D j)) ∧ Inv j wr ∧ Only LB w wr) := ⟨hown, hinv, ho⟩
      clear hown hinv ho
      go_wp2_with fail
      refine (HC.out j wr hlt HR.out.2.1 HR.out.2.2.size).mono ?_
      rintro e w3 ⟨rfl, hinv3, ho3⟩
      obtain ⟨ds, hds⟩ : ∃ ds, ds = (byV (D j)).toArray := ⟨_, rfl⟩
      have hsz2 : ds.size = 32 := by rw [hds]; simp [byV, HD.out]
      have hone : ds.all (·.oneCell') = true := by rw [hds]; simp [byV, Value.oneCell']
      have hinfo : (Tryz.prog.info? 172).map (·.size) = some ds.size := by rw [hsz2]; kernel_rfl
      have hz32 : zd.size = ds.size := by rw [hzd32, hsz2]
      rw [← hds]
      have hown3 : w3.ownsRow w.heap.size 5 1 u5 (32 * j) (byV (catD D j)) := owns_only HR.out.1 ho3 (fun k hk => by have := (HR.out.1.lt k hk).1; omega)
      have HDS : Hid (ds = (byV (D j)).toArray) := hds
      clear hds
      have hset : (w3.alloc (.cells zd 172)).setRow w3.heap.size ds = w3.alloc (.cells ds 172) := World.setRow_alloc_new _ _ _ _
      have hrow4 : Row (w3.alloc (.cells ds 172)) w3.heap.size 172 (byV (D j)) := by rw [HDS.out]; exact heap_alloc_new w3 _
      have hown4 := hown3.alloc (.cells ds 172)
      have hle3 : w.heap.size ≤ w3.heap.size := Nat.le_trans HR.out.2.2.size ho3.size
      have hb4 : Below w.heap.size w3 (w3.alloc (.cells ds 172)) := (Below.refl _ _).alloc hle3 _
      obtain ⟨w4, hw4⟩ : ∃ w4, w4 = w3.alloc (.cells ds 172) := ⟨_, rfl⟩
      rw [← hw4] at hset hrow4 hown4 hb4
      clear hw4
      have hl32 : (byV (D j)).length = 32 := by simp [byV, HD.out]
      have H4 : Hid (w4.ownsRow w.heap.size 5 1 u5 (32 * j) (byV (catD D j)) ∧ Row w4 w3.heap.size 172 (byV (D j)) ∧ Below w.heap.size w3 w4 ∧ Inv (j + 1) w3 ∧ Only LB w w3 ∧ w.heap.size ≤ w4.heap.size) := ⟨hown4, hrow4, hb4, hinv3, HR.out.2.2.trans ho3, Nat.le_trans hle3 hb4.size⟩
      clear hown3 hown4 hrow4 hb4 hinv3 ho3 HDS HR
      go_wp2_with (first | (at_builtin; refine wpList_append_own _ rfl _ _ 143 rfl w.heap.size 5 i0 (.int .u8 0) 1 1 Tryz.underlying143 hi hz0 hz1 hz2 rfl (by decide) u5 (32 * j) _ rfl H4.out.1 ⟨w3.heap.size, 0, none⟩ 32 32 (byV (D j)) rfl ?c1 (World.news_of_block H4.out.2.1) (byV_one _) ?c3 ?c4 H4.out.2.2.2.2.2 ?_) | (refine wpList_store_row rfl 172 _ _ rfl w3.heap.size ds rfl rfl 172 _ (heap_alloc_new w3 _) hinfo hz32 hone ?_; rw [hset]))
      case c1 => rw [hl32]
      case c3 => unfold maxLen; omega
      case c4 => omega
      intro v' w5 hown5 hgrow5 _
      have hb5 : Below w.heap.size w3 w5 := H4.out.2.2.1.grown hgrow5 H4.out.2.2.2.2.2 (fun k hk => (H4.out.1.lt k hk).1)
      have HF : Hid (w5.ownsRow w.heap.size 5 1 v' (32 * (j + 1)) (byV (catD D (j + 1))) ∧ Inv (j + 1) w5 ∧ Only LB w w5) := ⟨by
        rw [catD, byV_append]; exact hown5, HST.out _ _ _ H4.out.2.2.2.1 hb5, only_below H4.out.2.2.2.2.1 hb5⟩
      clear hown5 hgrow5 hb5 H4 hl32
      go_wp2
      go_roundw
      case rel => exact ⟨j + 1, by omega, by go_num, HF.out.1, HF.out.2.1, HF.out.2.2⟩
      case measure => simp [intOf]; omega
    · obtain rfl : j = m := by omega
      by_cases hn0 : n = 0
      · subst hn0
        obtain rfl : j = 0 := by omega
        have hv : u5 = .slice none 0 0 ∨ ∃ g cap, u5 = .slice (some ⟨g, 0, none⟩) 0 cap := by
          rcases hown.2 with ⟨h, _⟩ | ⟨g, cap, cur, h, _⟩
          · exact .inl h
          · exact .inr ⟨g, cap, h⟩
        have HF : Hid (Inv 0 wr ∧ Only LB w wr ∧ strOfNums (((catD D 0).take 0).map fun (x : Nat) => (x : Int)) = ByteArray.empty) := ⟨hinv, ho, rfl⟩
        clear hown hinv ho
        rcases hv with rfl | ⟨g, cap, rfl⟩
        · have hcv := fun W => run_convert_bytes_nil (P := Tryz.prog) W 143 5 Tryz.underlying143 Tryz.underlying5 0 0 9 Tryz.underlying9
          go_wp2
          first
            | (rw [hcv]; go_wp2)
            | skip
          go_ret
          exact ⟨rfl, HF.out.1, HF.out.2.1⟩
        · have hcv := fun W => run_convert_bytes_arg (P := Tryz.prog) W 143 5 Tryz.underlying143 Tryz.underlying5 g 0 0 cap [] rfl (fun i hi => absurd hi (Nat.not_lt_zero i)) 9 Tryz.underlying9
          have hc0 : (0 : Int) ≤ cap := by omega
          go_wp2
          first
            | (rw [hcv]; go_wp2)
            | skip
          go_ret
          exact ⟨rfl, HF.out.1, HF.out.2.1⟩
      · obtain ⟨g, cap, rfl, _, _⟩ := hown.form (by omega)
        have hcl : 32 * j ≤ cap := by
          rcases hown.2 with ⟨h, _⟩ | ⟨g', cap', cur, h, _, _, hc, _⟩
          · simp at h
          · simp only [Value.slice.injEq, Option.some.injEq, Addr.mk.injEq, and_true, true_and] at h
            omega
        have hnc : (n : Int) ≤ cap := by omega
        have hcl2 : (catD D j).length = 32 * j := catD_length D HD.out j
        have hcv := run_convert_bytes_arg (P := Tryz.prog) wr 143 5 Tryz.underlying143 Tryz.underlying5 g 0 n cap (((catD D j).take n).map fun (x : Nat) => (x : Int)) (by simp; omega) (fun i hi => by
          rw [Nat.zero_add, hown.cellAt i (by omega), byV_get _ _ (by omega), getD_at _ _ (by omega)]
          have h1 : i < ((catD D j).take n).length := by simp; omega
          rw [List.getD_eq_getElem?_getD, List.getElem?_map, List.getElem?_eq_getElem h1, List.getElem_take]; rfl) 9 Tryz.underlying9
        have HF : Hid (Inv j wr ∧ Only LB w wr) := ⟨hinv, ho⟩
        clear hown hinv ho
        obtain ⟨X, hX⟩ : ∃ X, X = strOfNums (((catD D j).take n).map fun (x : Nat) => (x : Int)) := ⟨_, rfl⟩
        rw [← hX] at hcv
        have HX : Hid (X = strOfNums (((catD D j).take n).map fun (x : Nat) => (x : Int))) := hX
        clear hX
        go_wp2
        first
          | (rw [hcv]; go_wp2)
          | skip
        go_ret
        exact ⟨by first | (rw [HX.out]; rfl) | (rw [HX.out, List.map_take]; rfl), HF.out.1, HF.out.2⟩
end Go.Proofs.YtoopaigpjefonaaGreatDoor.Sm

namespace Go.Proofs.YtoopaigpjefonaaGreatDoor.Sm
set_option maxRecDepth 20000
open Go.RowKit

def xorB (a b : List Nat) : List Nat := List.zipWith (· ^^^ ·) a b
/-- PBKDF2's numbers of one block: each the HMAC of the one ahead; and what they come to together. -/
def uL (K D0 : List Nat) : Nat → List Nat
  | 0 => D0
  | j + 1 => macL K (uL K D0 j)
def aL (K D0 : List Nat) : Nat → List Nat
  | 0 => D0
  | j + 1 => xorB (aL K D0 j) (macL K (uL K D0 j))
theorem uL_length (K : List Nat) {D0 : List Nat} (h : D0.length = 32) (j : Nat) : (uL K D0 j).length = 32 := by
  cases j with
  | zero => exact h
  | succ j => exact macL_length _ _
theorem uL_bytes (K : List Nat) {D0 : List Nat} (h : Bytes D0) (j : Nat) : Bytes (uL K D0 j) := by
  cases j with
  | zero => exact h
  | succ j => exact macL_bytes _ _
theorem aL_length (K : List Nat) {D0 : List Nat} (h : D0.length = 32) (j : Nat) : (aL K D0 j).length = 32 := by
  induction j with
  | zero => exact h
  | succ j ih => rw [aL, xorB, List.length_zipWith, ih, macL_length]; rfl
theorem xorB_bytes {a b : List Nat} (ha : Bytes a) (hb : Bytes b) : Bytes (xorB a b) := by
  intro x hx
  obtain ⟨i, hi, rfl⟩ := List.mem_iff_getElem.1 hx
  rw [xorB, List.length_zipWith] at hi
  have e : (xorB a b)[i]'(by rw [xorB, List.length_zipWith]; exact hi) = a[i]'(by omega) ^^^ b[i]'(by omega) := by simp [xorB]
  rw [e]
  exact Nat.xor_lt_two_pow (n := 8) (ha _ (List.getElem_mem _)) (hb _ (List.getElem_mem _))
theorem aL_bytes (K : List Nat) {D0 : List Nat} (h : Bytes D0) (j : Nat) : Bytes (aL K D0 j) := by
  induction j with
  | zero => exact h
  | succ j ih => exact xorB_bytes ih (macL_bytes _ _)
theorem xbRow {w : World} {g : Nat} {t : TypeId} {X a : List Nat} {j : Nat} (h : Row w g t (byV (X ++ a.drop j))) (hl : a.length = 32) (hj : j < 32) : Row w g t (byV X ++ [.int .u8 (a.getD j 0 : Nat)] ++ byV (a.drop (j + 1))) := by
  have e : a.drop j = a.getD j 0 :: a.drop (j + 1) := by
    rw [List.drop_eq_getElem_cons (by omega), getD_at _ _ (by omega)]
  rw [byV_append, e] at h
  have e2 : byV (a.getD j 0 :: a.drop (j + 1)) = [.int .u8 (a.getD j 0 : Nat)] ++ byV (a.drop (j + 1)) := rfl
  rw [e2, ← List.append_assoc] at h
  exact h
theorem xbNext (a u : List Nat) (j b : Nat) (ha : a.length = 32) (hu : u.length = 32) (hj : j < 32) (hb : b = a.getD j 0 ^^^ u.getD j 0) : byV (xorB (a.take j) (u.take j)) ++ [.int .u8 (b : Nat)] ++ byV (a.drop (j + 1)) = byV (xorB (a.take (j + 1)) (u.take (j + 1)) ++ a.drop (j + 1)) := by
  rw [List.take_succ_eq_append_getElem (by omega), List.take_succ_eq_append_getElem (by omega), xorB, xorB, List.zipWith_append (by simp; omega), byV_append, byV_append, hb, getD_at _ _ (by omega), getD_at _ _ (by omega)]
  rfl
/-- PBKDF2's block i. -/
def strB (K salt : List Nat) (rounds i : Nat) : List Nat := aL K (macL K (salt ++ be4 i)) (rounds - 1)
theorem strB_length (K salt : List Nat) (rounds i : Nat) : (strB K salt rounds i).length = 32 := aL_length K (macL_length _ _) _
theorem strB_bytes (K salt : List Nat) (rounds i : Nat) : Bytes (strB K salt rounds i) := aL_bytes K (macL_bytes _ _) _
/-- Two texts. -/
def two (a b : ByteArray) : Nat → ByteArray
  | 0 => a
  | _ => b
theorem mac_two (KB : Nat) (K : List Nat) (hKl : K.length = 64) (hKb : Bytes K) (R1 R2 : List Value) (hR1 : RestOk R1) (hR2 : RestOk R2) (a b : ByteArray) (ha : a.size ≤ 1048576) (hb : b.size ≤ 1048576) (w : World) (hq : Cubes w) (hr : Row w KB 168 (keyV K R1 R2)) :
    Calls Tryz.prog 128 #[.pointer (some ⟨KB, 0, none⟩), .slice (some ⟨w.heap.size, 0, none⟩) 2 2] (w.alloc (.cells #[.string a, .string b] 9)) fun e w' => e = .returned (.agg (byV (macL K (numsOf a ++ numsOf b))).toArray) ∧ Below w.heap.size w w' := by
  have hst : Strs (w.alloc (.cells #[.string a, .string b] 9)) (.slice (some ⟨w.heap.size, 0, none⟩) 2 2) 2 (two a b) := by
    refine ⟨_, _, rfl, by unfold maxLen; decide, .inr ⟨w.heap.size, 0, rfl, by simp, fun j hj => ?_⟩⟩
    rw [cell_of_row _ _ _ _ _ _ (heap_alloc_new w _), Nat.zero_add]
    match j, hj with
    | 0, _ => rfl
    | 1, _ => rfl
  have hb2 : Below w.heap.size w (w.alloc (.cells #[.string a, .string b] 9)) := (Below.refl _ _).alloc (Nat.le_refl _) _
  have hmc := mac_any KB K hKl hKb R1 R2 hR1 hR2 _ 2 (two a b) _ hst (fun j hj => by
    have h : j = 0 ∨ j = 1 ∨ j = 2 := by omega
    rcases h with rfl | rfl | rfl
    all_goals simp [catS, two, numsOf_length]
    all_goals omega) (hq.below hb2 hq.1) (hr.below hb2 hr.lt)
  exact hmc.mono fun e w' ⟨he, hb3⟩ => ⟨he, hb2.trans (hb3.mono hb2.size)⟩
theorem mac_one (KB : Nat) (K : List Nat) (hKl : K.length = 64) (hKb : Bytes K) (R1 R2 : List Value) (hR1 : RestOk R1) (hR2 : RestOk R2) (a : ByteArray) (ha : a.size ≤ 1048576) (w : World) (hq : Cubes w) (hr : Row w KB 168 (keyV K R1 R2)) :
    Calls Tryz.prog 128 #[.pointer (some ⟨KB, 0, none⟩), .slice (some ⟨w.heap.size, 0, none⟩) 1 1] (w.alloc (.cells #[.string a] 9)) fun e w' => e = .returned (.agg (byV (macL K (numsOf a))).toArray) ∧ Below w.heap.size w w' := by
  have hst : Strs (w.alloc (.cells #[.string a] 9)) (.slice (some ⟨w.heap.size, 0, none⟩) 1 1) 1 (fun _ => a) := by
    refine ⟨_, _, rfl, by unfold maxLen; decide, .inr ⟨w.heap.size, 0, rfl, by simp, fun j hj => ?_⟩⟩
    obtain rfl : j = 0 := by omega
    exact (cell_of_row _ _ _ _ _ _ (heap_alloc_new w _))
  have hb2 : Below w.heap.size w (w.alloc (.cells #[.string a] 9)) := (Below.refl _ _).alloc (Nat.le_refl _) _
  have hmc := mac_any KB K hKl hKb R1 R2 hR1 hR2 _ 1 (fun _ => a) _ hst (fun j hj => by
    have h : j = 0 ∨ j = 1 := by omega
    rcases h with rfl | rfl
    all_goals simp [catS, numsOf_length]
    all_goals omega) (hq.below hb2 hq.1) (hr.below hb2 hr.lt)
  exact hmc.mono fun e w' ⟨he, hb3⟩ => ⟨he, hb2.trans (hb3.mono hb2.size)⟩

set_option maxRecDepth 10000 in
set_option maxHeartbeats 1000000 in
theorem stretched_any (KB : Nat) (K : List Nat) (hKl : K.length = 64) (hKb : Bytes K) (R1 R2 : List Value) (hR1 : RestOk R1) (hR2 : RestOk R2) (salt : ByteArray) (hl : salt.size ≤ 1048576) (rounds i : Nat) (hr1 : 1 ≤ rounds) (hr2 : rounds ≤ 1000) (hi2 : i < 65536) (w : World) (hq : Cubes w)
    (hr : Row w KB 168 (keyV K R1 R2)) :
    Calls Tryz.prog 87 #[.pointer (some ⟨KB, 0, none⟩), .string salt, .int .i64 rounds, .int .i64 i] w fun e w' => e = .returned (.agg (byV (strB K (numsOf salt) rounds i)).toArray) ∧ Below w.heap.size w w' := by
  obtain ⟨zd, hzd⟩ : ∃ zd : Array Value, zd = (digV []).toArray := ⟨_, rfl⟩
  have hdv : ∀ w, (zeroValue 172).run Tryz.prog w = .ok (.agg zd) w := by rw [hzd]; exact (zero_of_info (n := 32) (by kernel_rfl)).1
  have hzd32 : zd.size = 32 := by rw [hzd]; rfl
  have hb0 : Below w.heap.size w ((w.alloc (.cells zd 172)).alloc (.cells #[.int .u8 0, .int .u8 0, .int .u8 0, .int .u8 0] 223)) := ((Below.refl _ _).alloc (Nat.le_refl _) _).alloc (by simp) _
  have hd0 : Row ((w.alloc (.cells zd 172)).alloc (.cells #[.int .u8 0, .int .u8 0, .int .u8 0, .int .u8 0] 223)) w.heap.size 172 (digV []) := by rw [hzd]; exact heap_alloc2_old w _ _
  have hn0 : Row ((w.alloc (.cells zd 172)).alloc (.cells #[.int .u8 0, .int .u8 0, .int .u8 0, .int .u8 0] 223)) (w.heap.size + 1) 223 ([] ++ [.int .u8 0, .int .u8 0, .int .u8 0, .int .u8 0] ++ []) := heap_alloc2_new w _ _
  obtain ⟨w0, hw0⟩ : ∃ w0, (w.alloc (.cells zd 172)).alloc (.cells #[.int .u8 0, .int .u8 0, .int .u8 0, .int .u8 0] 223) = w0 := ⟨_, rfl⟩
  rw [hw0] at hb0 hd0 hn0
  have hr0 := hr.below hb0 hr.lt
  have hKBlt := hr.lt
  have hq0 : Cubes w0 := hq.below hb0 hq.1
  have z64 : IntKind.u64.wrap (i : Int) = i := by rw [IntKind.wrap_u64]; omega
  have HP : Hid (Calls Tryz.prog 127 #[.slice (some ⟨w.heap.size + 1, 0, none⟩) 4 4, .int .u64 (i : Nat)] w0 fun e w' => e = .returned (.tuple #[]) ∧ Row w' (w.heap.size + 1) 223 ([] ++ beV 4 i ++ []) ∧ Only (w.heap.size + 1) w0 w') := putHigh_any (w.heap.size + 1) 223 [] _ [] 4 4 i (by decide) rfl w0 hn0
  have H0 : Hid (Row w0 KB 168 (keyV K R1 R2) ∧ Cubes w0 ∧ Below w.heap.size w w0 ∧ Row w0 w.heap.size 172 (digV []) ∧ w.heap.size + 1 < w0.heap.size) := ⟨hr0, hq0, hb0, hd0, hn0.lt⟩
  have hqw := hq.1
  clear hzd hr hq hr0 hq0 hb0 hd0 hn0
  go_enter Tryz.func87, Tryz.ntmps87
  go_wp2_with fail
  refine HP.out.mono ?_
  rintro e w1 ⟨rfl, hn1, ho1⟩
  rw [List.nil_append, List.append_nil, beV4] at hn1
  have hr1' := H0.out.1.only ho1 (by omega)
  have hd1 := H0.out.2.2.2.1.only ho1 (by omega)
  have hq1 := H0.out.2.1.only ho1 (by omega)
  have hb1 : Below w.heap.size w w1 := H0.out.2.2.1.trans ((ho1.below (by have := H0.out.2.2.2.2; omega)).mono (by omega))
  have hcv := run_convert_bytes_arg (P := Tryz.prog) w1 143 5 Tryz.underlying143 Tryz.underlying5 (w.heap.size + 1) 0 4 4 ((be4 i).map fun (x : Nat) => (x : Int)) rfl (fun j hj => by
    rw [Nat.zero_add, hn1.cell, byV_get _ _ hj, getD_at _ _ hj]
    have h1 : j < (be4 i).length := hj
    rw [List.getD_eq_getElem?_getD, List.getElem?_map, List.getElem?_eq_getElem h1]; rfl) 9 Tryz.underlying9
  obtain ⟨nb, hnb⟩ : ∃ nb, nb = strOfNums ((be4 i).map fun (x : Nat) => (x : Int)) := ⟨_, rfl⟩
  rw [← hnb] at hcv
  have hnn : numsOf nb = be4 i := by rw [hnb]; exact numsOf_str _ (be4_bytes i)
  have hns : nb.size = 4 := by rw [← numsOf_length, hnn]; rfl
  have H1 : Hid (Row w1 KB 168 (keyV K R1 R2) ∧ Cubes w1 ∧ Below w.heap.size w w1 ∧ Row w1 w.heap.size 172 (digV []) ∧ numsOf nb = be4 i) := ⟨hr1', hq1, hb1, hd1, hnn⟩
  clear hn1 ho1 hr1' hd1 hq1 hb1 hnb hnn HP
  go_wp2_with fail
  first
    | (rw [hcv]; go_wp2_with fail)
    | skip
  refine (mac_two KB K hKl hKb R1 R2 hR1 hR2 salt nb hl (by omega) w1 H1.out.2.1 H1.out.1).mono ?_
  rintro e w2 ⟨rfl, hb2⟩
  rw [H1.out.2.2.2.2]
  obtain ⟨D0, hD0⟩ : ∃ D0, D0 = macL K (numsOf salt ++ be4 i) := ⟨_, rfl⟩
  have hDl : D0.length = 32 := by rw [hD0]; exact macL_length _ _
  have HD0 : Hid (D0 = macL K (numsOf salt ++ be4 i)) := hD0
  rw [← hD0]
  clear hD0 hcv
  obtain ⟨ds, hds⟩ : ∃ ds, ds = (byV D0).toArray := ⟨_, rfl⟩
  have hsz2 : ds.size = 32 := by rw [hds]; simp [byV, hDl]
  have hone : ds.all (·.oneCell') = true := by rw [hds]; simp [byV, Value.oneCell']
  have hinfo : (Tryz.prog.info? 172).map (·.size) = some ds.size := by rw [hsz2]; kernel_rfl
  have hz32 : zd.size = ds.size := by rw [hzd32, hsz2]
  rw [← hds]
  have HDS : Hid (ds = (byV D0).toArray) := hds
  clear hds
  have hset : (w2.alloc (.cells zd 172)).setRow w2.heap.size ds = w2.alloc (.cells ds 172) := World.setRow_alloc_new _ _ _ _
  have k3 : (w2.alloc (.cells ds 172)).heap[w2.heap.size]? = some (.cells ds 172 (0, 0)) := heap_alloc_new w2 _
  have hb3 := hb2.alloc hb2.size (.cells ds 172)
  obtain ⟨w3, hw3⟩ : ∃ w3, w3 = w2.alloc (.cells ds 172) := ⟨_, rfl⟩
  rw [← hw3] at hset k3 hb3
  clear hw3
  have hrj : IntKind.i64.wrap ((rounds : Int) - 1) = ((rounds - 1 : Nat) : Int) := by rw [IntKind.wrap_i64]; omega
  obtain ⟨m, hm⟩ : ∃ m, m = rounds - 1 := ⟨_, rfl⟩
  rw [← hm] at hrj
  have HM : Hid (m = rounds - 1) := hm
  have hm1 : m ≤ 999 := by omega
  clear hm
  have hset4 : (w3.alloc (.cells zd 172)).setRow w3.heap.size ds = w3.alloc (.cells ds 172) := World.setRow_alloc_new _ _ _ _
  have k4 : Row (w3.alloc (.cells ds 172)) w3.heap.size 172 (byV D0) := by rw [HDS.out]; exact heap_alloc_new w3 _
  have hlt23 : w2.heap.size < w3.heap.size := (Array.getElem?_eq_some_iff.1 k3).1
  have k4u : Row (w3.alloc (.cells ds 172)) w2.heap.size 172 (byV D0) := by
    have h1 : Row w3 w2.heap.size 172 (byV D0) := by rw [HDS.out] at k3; exact k3
    exact (Below.heap_alloc w3 _ _ (by omega)).trans h1
  have hb4 := hb3.alloc hb3.size (.cells ds 172)
  obtain ⟨w4, hw4⟩ : ∃ w4, w4 = w3.alloc (.cells ds 172) := ⟨_, rfl⟩
  rw [← hw4] at hset4 k4 k4u hb4
  clear hw4
  go_wp2_with (first | refine wpList_load_row rfl 172 _ rfl w2.heap.size rfl 172 _ (0, 0) _ k3 Tryz.underlying172 rfl hinfo ?_ | (refine wpList_store_row rfl 172 _ _ rfl w2.heap.size ds rfl rfl 172 _ (heap_alloc_new w2 _) hinfo hz32 hone ?_; rw [hset]) | (refine wpList_store_row rfl 172 _ _ rfl w3.heap.size ds rfl rfl 172 _ (heap_alloc_new w3 _) hinfo hz32 hone ?_; rw [hset4]))
  have HL : Hid (Row w4 w2.heap.size 172 (byV D0) ∧ Row w4 w3.heap.size 172 (byV D0) ∧ Below w1.heap.size w1 w4) := ⟨k4u, k4, hb4⟩
  have hw12 : w1.heap.size ≤ w2.heap.size := hb2.size
  have H1' : Hid (w.heap.size < w1.heap.size ∧ KB < w1.heap.size) := ⟨H1.out.2.2.2.1.lt, H1.out.1.lt⟩
  clear k3 k4 k4u hb2 hb3 hb4 hset hset4 hone hinfo hz32 hsz2 HDS
  go_loopw [26] (fun c wr => ∃ j : Nat, j ≤ m ∧ c = .int .i64 j ∧ Row wr w2.heap.size 172 (byV (uL K D0 j)) ∧ Row wr w3.heap.size 172 (byV (aL K D0 j)) ∧ Below w1.heap.size w1 wr) (fun c _ => m - (intOf c).toNat)
  case atStart => exact ⟨0, Nat.zero_le _, rfl, HL.out.1, HL.out.2.1, HL.out.2.2⟩
  case round =>
    clear HL
    obtain ⟨j, hj, rfl, hu, ha, hb⟩ := hrel
    by_cases hlt : j < m
    · have j1 : (j : Int) < m := by omega
      have hul := uL_length K hDl j
      have hal := aL_length K hDl j
      have hub := uL_bytes K (show Bytes D0 by rw [HD0.out]; exact macL_bytes _ _) j
      have hab := aL_bytes K (show Bytes D0 by rw [HD0.out]; exact macL_bytes _ _) j
      have HN : Hid (uL K D0 (j + 1) = macL K (uL K D0 j) ∧ aL K D0 (j + 1) = xorB (aL K D0 j) (macL K (uL K D0 j))) := ⟨rfl, rfl⟩
      generalize uL K D0 j = uj at *
      generalize aL K D0 j = aj at *
      have hcv := run_convert_bytes_arg (P := Tryz.prog) wr 143 5 Tryz.underlying143 Tryz.underlying5 w2.heap.size 0 32 32 (uj.map fun (x : Nat) => (x : Int)) (by simp [hul]) (fun i hi => by
        rw [Nat.zero_add, hu.cell, byV_get _ _ (by rw [hul]; exact hi)]
        simp [List.getD, hul, hi]) 9 Tryz.underlying9
      obtain ⟨su, hsu⟩ : ∃ su, su = strOfNums (uj.map fun (x : Nat) => (x : Int)) := ⟨_, rfl⟩
      rw [← hsu] at hcv
      have hsn : numsOf su = uj := by rw [hsu]; exact numsOf_str _ hub
      have hss : su.size = 32 := by rw [← numsOf_length, hsn, hul]
      have hw23 : w3.heap.size < wr.heap.size := ha.lt
      have hw22 : w2.heap.size < wr.heap.size := hu.lt
      have H5 : Hid (Row wr w2.heap.size 172 (byV uj) ∧ Row wr w3.heap.size 172 (byV aj) ∧ Below w1.heap.size w1 wr ∧ numsOf su = uj) := ⟨hu, ha, hb, hsn⟩
      clear hu ha hb hsu hsn
      go_wp2_with fail
      first
        | (rw [hcv]; go_wp2_with fail)
        | skip
      refine (mac_one KB K hKl hKb R1 R2 hR1 hR2 su (by omega) wr (H1.out.2.1.below H5.out.2.2.1 H1.out.2.1.1) (H1.out.1.below H5.out.2.2.1 H1'.out.2)).mono ?_
      rintro e w5 ⟨rfl, hb5⟩
      rw [H5.out.2.2.2]
      obtain ⟨un, hun⟩ : ∃ un, un = macL K uj := ⟨_, rfl⟩
      have hunl : un.length = 32 := by rw [hun]; exact macL_length _ _
      have hunb : Bytes un := by rw [hun]; exact macL_bytes _ _
      rw [← hun]
      rw [← hun] at HN
      clear hun hcv
      have ku : w5.heap[w2.heap.size]? = some (.cells (byV uj).toArray 172 (0, 0)) := H5.out.1.below hb5 hw22
      have ka := H5.out.2.1.below hb5 hw23
      obtain ⟨ds, hds⟩ : ∃ ds, ds = (byV un).toArray := ⟨_, rfl⟩
      have hsz2 : ds.size = 32 := by rw [hds]; simp [byV, hunl]
      have hone : ds.all (·.oneCell') = true := by rw [hds]; simp [byV, Value.oneCell']
      have hinfo : (Tryz.prog.info? 172).map (·.size) = some ds.size := by rw [hsz2]; kernel_rfl
      have hs0 : (byV uj).toArray.size = ds.size := by rw [hsz2]; simp [byV, hul]
      rw [← hds]
      have ku6 : Row (w5.setRow w2.heap.size ds) w2.heap.size 172 (byV un) := by
        have := setRow_heap w5 w2.heap.size _ ds _ _ ku
        rw [hds] at this ⊢
        exact this
      have ka6 : Row (w5.setRow w2.heap.size ds) w3.heap.size 172 (byV aj) := (setRow_other _ _ _ _ (by omega)).trans ka
      have hb6 : Below w1.heap.size w1 (w5.setRow w2.heap.size ds) := below_rowH (H5.out.2.2.1.trans (hb5.mono H5.out.2.2.1.size)) hw12 ds
      obtain ⟨w6, hw6⟩ : ∃ w6, w5.setRow w2.heap.size ds = w6 := ⟨_, rfl⟩
      rw [hw6] at ku6 ka6 hb6
      clear hds
      go_wp2_with (refine wpList_store_row rfl 172 _ _ rfl w2.heap.size ds rfl rfl 172 _ ku hinfo hs0 hone ?_; rw [hw6])
      have H6 : Hid (Row w6 w2.heap.size 172 (byV un) ∧ Row w6 w3.heap.size 172 (byV aj) ∧ Below w1.heap.size w1 w6) := ⟨ku6, ka6, hb6⟩
      clear ku6 ka6 hb6 hw6 ku ka hone hinfo hs0 hsz2 hb5 H5
      go_loopw [33] (fun c wz => ∃ t : Nat, t ≤ 32 ∧ c = .int .i64 t ∧ Row wz w3.heap.size 172 (byV (xorB (aj.take t) (un.take t) ++ aj.drop t)) ∧ Only w3.heap.size w6 wz) (fun c _ => 32 - (intOf c).toNat)
      case atStart => exact ⟨0, Nat.zero_le _, rfl, H6.out.2.1, Only.refl _ _⟩
      case round =>
        obtain ⟨t, ht, rfl, hz, ho⟩ := hrel
        by_cases ht2 : t < 32
        · obtain ⟨x, hx⟩ : ∃ x, x = aj.getD t 0 := ⟨_, rfl⟩
          obtain ⟨y, hy⟩ : ∃ y, y = un.getD t 0 := ⟨_, rfl⟩
          have lx : x < 256 := by rw [hx]; exact getD_lt (by decide) hab t
          have ly : y < 256 := by rw [hy]; exact getD_lt (by decide) hunb t
          have hzr : Row wr w3.heap.size 172 (byV (xorB (aj.take t) (un.take t)) ++ [.int .u8 (x : Nat)] ++ byV (aj.drop (t + 1))) := by rw [hx]; exact xbRow hz hal ht2
          have hxl : (byV (xorB (aj.take t) (un.take t))).length = t := by simp [byV, xorB]; omega
          have cx := hzr.at hxl.symm
          have cy : wr.cell? ⟨w2.heap.size, t, none⟩ = some (.int .u8 (y : Nat)) := by
            rw [(H6.out.1.only ho (by omega)).cell, hy]
            exact byV_get un t (by omega)
          have fx : wr.frozen? ⟨w3.heap.size, t, none⟩ = false := hz.frozen t
          have bx : bits .xor .u8 (x : Int) (y : Int) = ((x ^^^ y : Nat) : Int) := u8_xor_nat x y lx ly
          obtain ⟨b1, hb1⟩ : ∃ b1, b1 = x ^^^ y := ⟨_, rfl⟩
          rw [← hb1] at bx
          have hz2 := hzr.set (.int .u8 (b1 : Nat)) hxl.symm
          rw [xbNext aj un t b1 hal hunl ht2 (by rw [hb1, hx, hy])] at hz2
          have HZ : Hid (Row (wr.setCell ⟨w3.heap.size, t, none⟩ (.int .u8 (b1 : Nat))) w3.heap.size 172 (byV (xorB (aj.take (t + 1)) (un.take (t + 1)) ++ aj.drop (t + 1))) ∧ Only w3.heap.size w6 (wr.setCell ⟨w3.heap.size, t, none⟩ (.int .u8 (b1 : Nat)))) := ⟨hz2, ho.setCell _ _⟩
          have t32 : (t : Int) < 32 := by omega
          clear hz ho hzr hz2 hb1 hx hy hxl
          go_wp2_with fail
          go_region_with (fail)
          all_goals
            go_wp2
            go_roundw
            case rel => exact ⟨t + 1, by omega, by go_num, HZ.out.1, HZ.out.2.drew⟩
            case measure => simp [intOf]; omega
        · obtain rfl : t = 32 := by omega
          have HF : Hid (Row wr w2.heap.size 172 (byV (uL K D0 (j + 1))) ∧ Row wr w3.heap.size 172 (byV (aL K D0 (j + 1))) ∧ Below w1.heap.size w1 wr) := by
            refine ⟨by rw [HN.out.1]; exact H6.out.1.only ho (by omega), ?_, H6.out.2.2.trans ((ho.below (Nat.le_of_lt H6.out.2.1.lt)).mono (by omega))⟩
            rw [HN.out.2]
            have h2 := hz
            rw [List.take_of_length_le (by omega), List.take_of_length_le (by omega), List.drop_eq_nil_of_le (by omega), List.append_nil] at h2
            exact h2
          clear hz ho
          go_wp2
          go_roundw
          case rel => exact ⟨j + 1, by omega, by go_num, HF.out.1, HF.out.2.1, HF.out.2.2⟩
          case measure => simp [intOf]; omega
    · obtain rfl : j = m := by omega
      obtain ⟨ds, hds⟩ : ∃ ds, ds = (byV (aL K D0 j)).toArray := ⟨_, rfl⟩
      have hsz2 : ds.size = 32 := by rw [hds]; simp [byV, aL_length K hDl j]
      have hone : ds.all (·.oneCell') = true := by rw [hds]; simp [byV, Value.oneCell']
      have hinfo : (Tryz.prog.info? 172).map (·.size) = some ds.size := by rw [hsz2]; kernel_rfl
      have ka : wr.heap[w3.heap.size]? = some (.cells ds 172 (0, 0)) := by rw [hds]; exact ha
      have hd9 : wr.heap[w.heap.size]? = some (.cells (digV []).toArray 172 (0, 0)) := H1.out.2.2.2.1.below hb H1'.out.1
      have hs0 : (digV []).toArray.size = ds.size := by rw [hsz2]; rfl
      have hl0 := run_loadVar_row (P := Tryz.prog) (wr.setRow w.heap.size ds) w.heap.size 172 172 ds (0, 0) _ (setRow_heap _ _ _ _ _ _ hd9) Tryz.underlying172 rfl hinfo
      have HF : Hid (ds = (byV (strB K (numsOf salt) rounds i)).toArray ∧ Below w.heap.size w (wr.setRow w.heap.size ds)) := ⟨by rw [hds, HD0.out, HM.out]; rfl, below_rowH (H1.out.2.2.1.trans (hb.mono H1.out.2.2.1.size)) (Nat.le_refl _) ds⟩
      clear hds hu ha hb
      go_wp2_with (first | refine wpList_load_row rfl 172 _ rfl w3.heap.size rfl 172 _ (0, 0) _ ka Tryz.underlying172 rfl hinfo ?_ | refine wpList_store_row rfl 172 _ _ rfl w.heap.size ds rfl rfl 172 _ hd9 hinfo hs0 hone ?_)
      exact bodyPost_ret (v := .agg ds) (by simp [results, Tryz.results87, asAddr, Act.put, hl0]) rfl ⟨by rw [HF.out.1], HF.out.2⟩
end Go.Proofs.YtoopaigpjefonaaGreatDoor.Sm
