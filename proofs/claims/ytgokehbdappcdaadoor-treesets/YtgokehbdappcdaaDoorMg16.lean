/- What came in: steps, scripts of steps, lists of texts; no text of them has more bytes than a process has addresses. · The ideal vault as one that hashes; the laws' some. -/
import Derived.Test.YtgokehbdappcdaaDoorMg15
import Derived.Deep.Slices
import Derived.WideShapes
import Derived.ProofKit
import Derived.ChangeOld
import Derived.SizedLaws
import Derived.Test.YtgokehbdappcdaaDoorMg14
namespace Go.Proofs.YtgokehbdappcdaaDoor
set_option maxRecDepth 20000
open Go.ChangeShapes Go.WideShapes Go.RowKit Go.Deep

structure OpV where
  kind : Int
  salt : Int
  nonce : ByteArray
  label : ByteArray
  text : ByteArray
  tag : ByteArray
instance : Inhabited OpV := ⟨⟨0, 0, ⟨#[]⟩, ⟨#[]⟩, ⟨#[]⟩, ⟨#[]⟩⟩⟩
structure OpV.Ok (x : OpV) : Prop where
  kind : (Lit.int .i64 x.kind).wf = true
  salt : (Lit.int .i64 x.salt).wf = true
  nonce : x.nonce.size ≤ 140737488355328
  label : x.label.size ≤ 140737488355328
  text : x.text.size ≤ 140737488355328
  tag : x.tag.size ≤ 140737488355328
def OpV.cells (x : OpV) : List Value := [.int .i64 x.kind, .int .i64 x.salt, .string x.nonce, .string x.label, .string x.text, .string x.tag]
structure OpVAt (W : World) (g o : Nat) (x : OpV) : Prop where
  c0 : W.cell? ⟨g, o, none⟩ = some (.int .i64 x.kind)
  c1 : W.cell? ⟨g, o + 1, none⟩ = some (.int .i64 x.salt)
  c2 : W.cell? ⟨g, o + 2, none⟩ = some (.string x.nonce)
  c3 : W.cell? ⟨g, o + 3, none⟩ = some (.string x.label)
  c4 : W.cell? ⟨g, o + 4, none⟩ = some (.string x.text)
  c5 : W.cell? ⟨g, o + 5, none⟩ = some (.string x.tag)
def OpsV (W : World) (v : Value) (l : List OpV) : Prop := (∀ x ∈ l, x.Ok) ∧ ((∃ oa cap, v = .slice oa 0 cap ∧ l = []) ∨ ∃ g o cap, v = .slice (some ⟨g, o, none⟩) l.length cap ∧ g < W.heap.size ∧ ∀ i x, l[i]? = some x → OpVAt W g (o + i * 6) x)
/-- A list of texts that came in. -/
def StrsV (W : World) (v : Value) (l : List ByteArray) : Prop := (∀ x ∈ l, x.size ≤ 140737488355328) ∧ ((∃ oa cap, v = .slice oa 0 cap ∧ l = []) ∨ ∃ g o cap, v = .slice (some ⟨g, o, none⟩) l.length cap ∧ g < W.heap.size ∧ ∀ i x, l[i]? = some x → W.cell? ⟨g, o + i, none⟩ = some (.string x))

section
variable {H : Type} {enc : TypeId × Value → H} {W : World}
theorem weights_all {P : Program} {e : TypeId} {d : DataW H} {n : Nat} : ∀ {l : List (DataW H)}, d ∈ l → n ∈ d.weights P e → n ∈ DataW.weightsAll P e l
  | x :: r, hd, hn => by
    rw [DataW.weightsAll, List.mem_append]
    rcases List.mem_cons.1 hd with rfl | hd
    · exact .inl hn
    · exact .inr (weights_all hd hn)
theorem weights_slice {P : Program} {t e : TypeId} (hu : P.underlying t = some (.slice e)) {len m : Nat} {D : Nat → DataW H} {sp : List (DataW H)} {i n : Nat} (hi : i < len) (hn : n ∈ (D i).weights P e) (_ : m = m) : n ∈ (DataW.slice ((List.range len).map D) sp).weights P t := by
  simp only [DataW.weights, hu, List.mem_cons, List.mem_append]
  exact .inr (.inl (weights_all (List.mem_map.2 ⟨i, List.mem_range.2 hi, rfl⟩) hn))
theorem weights_field {P : Program} {t ft : TypeId} {fs : Array Field} (hu : P.underlying t = some (.struct fs)) {xs : List (DataW H)} {i : Nat} {s : List UInt8} (hf : (fs.toList.map (·.type))[i]? = some ft) (hx : xs[i]? = some (.lit (.string s))) : s.length ∈ (DataW.agg xs).weights P t := by
  simp only [DataW.weights, hu]
  exact DataW.weights_mem_each hf hx s.length (by simp [DataW.weights])
theorem reach_le {n : Nat} (h : n ≤ reachBytes) : n ≤ 140737488355328 := Nat.le_trans h (by decide)
set_option maxRecDepth 100000 in
theorem strsv_of_trod {v : Value} {d : DataW H} {p : List MemPlace} {base : Nat} (hok : Value.okWide Tryd.prog W .any base 22 v) (h : DataW.Trod enc Tryd.prog W 0 (fun _ => true) true 22 v d p) (hw : ∀ n ∈ d.weights Tryd.prog 22, n ≤ reachBytes) : ∃ l, StrsV W v l := by
  obtain ⟨a0, len, cap, rfl⟩ := okWide_slice Tryd.underlying22 hok
  obtain ⟨fuel, hf⟩ := h
  have hlt := DataW.trod_lt fuel _ _ _ hf
  rcases open_slice1 Tryd.underlying22 cells_str hf with ⟨hcs, hx⟩ | ⟨a, len', cap', m, n, V, D, Pl, hcs, _, hl, hm, hmm, hx0, hx⟩
  · simp [Value.cells] at hcs
    obtain ⟨rfl, rfl, rfl⟩ := hcs
    exact ⟨[], by simp, .inl ⟨none, 0, rfl, rfl⟩⟩
  · simp [Value.cells] at hcs
    obtain ⟨rfl, rfl, rfl⟩ := hcs
    simp only [if_true] at hmm
    by_cases h0 : len = 0
    · subst h0; exact ⟨[], by simp, .inl ⟨_, _, rfl, rfl⟩⟩
    simp only [Prod.mk.injEq] at hx0
    obtain ⟨hd0, hp0⟩ := hx0
    have hV : ∀ i, i < len → ∃ s : ByteArray, s.size ≤ 140737488355328 ∧ W.cell? (a.add i) = some (.string s) := fun i hi => by
      obtain ⟨h1, h2⟩ := hx i (by omega)
      obtain ⟨s, hb, e, _⟩ := DataW.trod_string Tryd.underlying9 h2
      simp only [List.cons.injEq, and_true] at hb
      simp only [Prod.mk.injEq] at e
      have := hw s.data.toList.length (by rw [hd0]; exact weights_slice (m := m) Tryd.underlying22 hi (by rw [e.1]; simp [DataW.weights]) rfl)
      exact ⟨s, reach_le (by simpa using this), by rw [h1, hb]⟩
    obtain ⟨f, hf⟩ := choose_lt hV
    obtain ⟨b, off, spot⟩ := a
    have hspot : spot = none := by simpa [Addr.add] using World.cell?_spot (hf 0 (by omega)).2
    subst hspot
    have hbW : b < W.heap.size := hlt (.cell b off) (by rw [hp0]; exact List.mem_append_left _ (MemPlace.mem_row.2 ⟨0, by omega, by simp⟩))
    refine ⟨(List.range len).map f, fun x hx => ?_, .inr ⟨b, off, cap, by simp, hbW, fun i u hu => ?_⟩⟩
    · obtain ⟨i, hi, rfl⟩ := List.mem_map.1 hx
      exact (hf i (List.mem_range.1 hi)).1
    rw [List.getElem?_map] at hu
    have hi : i < len := by
      by_cases hi : i < len
      · exact hi
      · rw [List.getElem?_eq_none (by simp; omega)] at hu; cases hu
    rw [List.getElem?_range hi] at hu
    simp only [Option.map_some, Option.some.injEq] at hu
    rw [← hu, ← add_plain]
    exact (hf i hi).2
theorem each_le {P : Program} {ts : List TypeId} {ds : List (DataW H)} (h : (DataW.weightsEach P ts ds).all (· ≤ reachBytes) = true) {j : Nat} {t : TypeId} {d : DataW H} (ht : ts[j]? = some t) (hd : ds[j]? = some d) : ∀ n ∈ d.weights P t, n ≤ reachBytes := fun n hn => by
  simpa using List.all_eq_true.1 h n (DataW.weights_mem_each ht hd n hn)
end
theorem OpsV.form {W : World} {v : Value} {l : List OpV} (h : OpsV W v l) : ∃ oa cap, v = .slice oa l.length cap := by
  rcases h.2 with ⟨oa, cap, rfl, rfl⟩ | ⟨g, o, cap, rfl, _⟩
  · exact ⟨_, _, rfl⟩
  · exact ⟨_, _, rfl⟩
theorem OpsV.get {W : World} {oa : Option Addr} {cap : Nat} {l : List OpV} (h : OpsV W (.slice oa l.length cap) l) (hl : 0 < l.length) : ∃ g o, oa = some ⟨g, o, none⟩ ∧ g < W.heap.size ∧ ∀ i x, l[i]? = some x → OpVAt W g (o + i * 6) x := by
  rcases h.2 with ⟨oa', cap', e, e2⟩ | ⟨g, o, cap', e, hg, hx⟩
  · rw [e2] at hl; exact absurd hl (Nat.lt_irrefl 0)
  · cases e; exact ⟨g, o, rfl, hg, hx⟩
theorem StrsV.form {W : World} {v : Value} {l : List ByteArray} (h : StrsV W v l) : ∃ oa cap, v = .slice oa l.length cap := by
  rcases h.2 with ⟨oa, cap, rfl, rfl⟩ | ⟨g, o, cap, rfl, _⟩
  · exact ⟨_, _, rfl⟩
  · exact ⟨_, _, rfl⟩
theorem StrsV.get {W : World} {oa : Option Addr} {cap : Nat} {l : List ByteArray} (h : StrsV W (.slice oa l.length cap) l) (hl : 0 < l.length) : ∃ g o, oa = some ⟨g, o, none⟩ ∧ g < W.heap.size ∧ ∀ i x, l[i]? = some x → W.cell? ⟨g, o + i, none⟩ = some (.string x) := by
  rcases h.2 with ⟨oa', cap', e, e2⟩ | ⟨g, o, cap', e, hg, hx⟩
  · rw [e2] at hl; exact absurd hl (Nat.lt_irrefl 0)
  · cases e; exact ⟨g, o, rfl, hg, hx⟩
theorem OpVAt.later {W w' : World} {g o : Nat} {x : OpV} (h : OpVAt W g o x) (hg : g < W.heap.size) (hb : Below W.heap.size W w') : OpVAt w' g o x := by
  have hk := hb.block g hg
  have e : ∀ i, w'.cell? ⟨g, i, none⟩ = W.cell? ⟨g, i, none⟩ := fun i => World.cell?_of_block (a := ⟨g, i, none⟩) hk
  exact ⟨(e _).trans h.c0, (e _).trans h.c1, (e _).trans h.c2, (e _).trans h.c3, (e _).trans h.c4, (e _).trans h.c5⟩
end Go.Proofs.YtgokehbdappcdaaDoor

namespace Go.Proofs.YtgokehbdappcdaaDoor
set_option maxRecDepth 20000
open Go.RowKit

def idealK : HK VS := ⟨fun w F G B S => Ideal w F B S ∧ ∀ k, F k → G k, fun S s => wideS (numOf S.texts s) 32, fun S s => numOf S.texts s ≠ 0, fun S => S.texts.length⟩
theorem idealOk : HKOk idealK where
  keep := fun v hk => ⟨v.1.keep hk, v.2⟩
  call := fun w F G B S x hx hn v => (vhash_any B F S x (by unfold fitT; omega) hn w v.1).mono fun e w' ⟨he, hi, ht⟩ =>
    ⟨hashP S x, he, ⟨hi, v.2⟩, ht.mono v.2, fun y hy => by
      have hk : numOf (addN S.texts x) y = numOf S.texts y := numOf_add_keeps x hy
      exact ⟨by show numOf (addN S.texts x) y ≠ 0; rw [hk]; exact hy, by show wideS (numOf (addN S.texts x) y) 32 = _; rw [hk]; rfl⟩, numOf_add_pos S.texts x, addN_length S.texts x⟩
  size := fun S x _ hn => wideS_size (by have := numOf_le x S.texts; show numOf S.texts x < _; have h2 : S.texts.length ≤ 2000000 := hn; omega) (by decide)
theorem ideal_inj (S : VS) (hn : S.texts.length ≤ 2000000) (x y : ByteArray) (hx : idealK.D S x) (_ : idealK.D S y) (e : idealK.h S x = idealK.h S y) : x = y := by
  have h1 := numOf_le x S.texts
  have h2 := numOf_le y S.texts
  exact numOf_inj (wideS_inj (by omega) (by omega) e) hx
def cut64 (s : ByteArray) : ByteArray := if 64 < s.size then s.extract 0 64 else s
theorem cut64_size (s : ByteArray) : (cut64 s).size ≤ 64 := by
  unfold cut64
  split
  · simp; omega
  · omega
def someL (l : List ByteArray) (n : Nat) : List ByteArray := (l.take n).map cut64
theorem someL_size (l : List ByteArray) (n : Nat) : ∀ x, x ∈ someL l n → x.size ≤ 64 := fun x hx => by
  obtain ⟨y, _, rfl⟩ := List.mem_map.1 hx
  exact cut64_size y
theorem someL_length (l : List ByteArray) (n : Nat) : (someL l n).length = min n l.length := by simp [someL]
theorem someL_succ (l : List ByteArray) (j : Nat) (h : j < l.length) : someL l (j + 1) = someL l j ++ [cut64 l[j]] := by
  unfold someL
  rw [List.take_add_one, List.getElem?_eq_getElem h, List.map_append]
  rfl
set_option maxHeartbeats 1000000 in
theorem some_any (v : Value) (l : List ByteArray) (n : Nat) (hn : n ≤ 100) (w : World) (h : StrsV w v l) :
    Calls Tryd.prog 5 #[v, .int .i64 (n : Int)] w fun e w' => (∃ v', e = .returned v' ∧ w'.ownsRow w.heap.size 9 1 v' (someL l n).length ((someL l n).map Value.string)) ∧ Below w.heap.size w w' := by
  obtain ⟨oa, cap, rfl⟩ := h.form
  obtain ⟨i0, hi, hz0, hz1, hz2⟩ := info_parts tr_info_string
  have HS : Hid (StrsV w (.slice oa l.length cap) l) := h
  have hszs := h.1
  have HZ : Hid (∀ x ∈ l, x.size ≤ 140737488355328) := hszs
  obtain ⟨m, hm⟩ : ∃ m, m = min n l.length := ⟨_, rfl⟩
  have HF : Hid (someL l n = someL l m) := by
    show _ = _
    unfold someL
    rw [hm]
    congr 1
    by_cases h1 : n ≤ l.length
    · rw [Nat.min_eq_left h1]
    · rw [Nat.min_eq_right (by omega), List.take_of_length_le (by omega), List.take_of_length_le (Nat.le_refl _)]
  obtain ⟨len, hl⟩ : ∃ len, len = l.length := ⟨_, rfl⟩
  have HL : Hid (len = l.length) := hl
  rw [← hl] at hm ⊢
  rw [HF.out]
  have hm1 : m ≤ n := by omega
  have hm2 : m ≤ len := by omega
  have hm3 : m = n ∨ m = len := by omega
  clear h hl hszs HF hm
  go_enter Tryd.func5, Tryd.ntmps5
  go_wp2_with fail
  go_loopw [5, 6] (fun ov kv wr => ∃ j : Nat, j ≤ m ∧ kv = .int .i64 (j : Int) ∧ wr.ownsRow w.heap.size 9 1 ov j ((someL l j).map Value.string) ∧ Below w.heap.size w wr) (fun _ kv _ => m - (intOf kv).toNat)
  case atStart => exact ⟨0, Nat.zero_le _, rfl, World.ownsRow_nil _ _ _ _, Below.refl _ _⟩
  case round =>
    obtain ⟨j, hj, rfl, hown, hb⟩ := hrel
    by_cases hlt : j < m
    · have j1 : (j : Int) < len := by omega
      have j2 : (j : Int) < n := by omega
      have hjl : j < l.length := by rw [← HL.out]; omega
      obtain ⟨g, of, rfl, hg, hc0⟩ := HS.out.get (by omega)
      have hc := (hb.cell (p := ⟨g, of + j, none⟩) hg).trans (hc0 j l[j] (List.getElem?_eq_getElem hjl))
      have hxz := HZ.out l[j] (List.getElem_mem hjl)
      obtain ⟨x, hx⟩ : ∃ x, x = l[j] := ⟨_, rfl⟩
      have HX : Hid (someL l (j + 1) = someL l j ++ [cut64 x]) := by rw [hx]; exact someL_succ l j hjl
      rw [← hx] at hc hxz
      obtain ⟨ob, cb, rfl⟩ := owns_slice3 hown
      have hcut : (64 < x.size ∧ x.extract 0 64 = cut64 x) ∨ (¬ 64 < x.size ∧ x = cut64 x) := by
        by_cases h : 64 < x.size
        · exact .inl ⟨h, by simp [cut64, h]⟩
        · exact .inr ⟨h, by simp [cut64, h]⟩
      have hsl := someL_length l j
      obtain ⟨y, hy⟩ : ∃ y, y = cut64 x := ⟨_, rfl⟩
      rw [← hy] at hcut
      have HY : Hid (y = cut64 x) := hy
      obtain ⟨w2, hw2⟩ : ∃ w2, wr.alloc (.cells #[.string y] 9) = w2 := ⟨_, rfl⟩
      have hown2 : w2.ownsRow w.heap.size 9 1 (.slice ob j cb) j ((someL l j).map Value.string) := by rw [← hw2]; exact hown.alloc _
      have hn2 : ∀ i u, ([.string y] : List Value)[i]? = some u → w2.cell? ((⟨wr.heap.size, 0, none⟩ : Addr).add i) = some u := by rw [← hw2]; exact cell_one_new wr (.string y) 9
      have ho2 : ∀ u ∈ ([.string y] : List Value), u.oneCell' = true := by intro u hu; simp at hu; rw [hu]; rfl
      have HB : Hid (Below w.heap.size w w2) := by rw [← hw2]; exact hb.alloc hb.size _
      clear hc0 hx hy hown hb
      rcases hcut with ⟨h1, h2⟩ | ⟨h1, h2⟩
      case' inl =>
        have g1 : (64 : Int) < x.size := by omega
        have g2 : (64 : Int) ≤ x.size := by omega
      case' inr =>
        have g1 : ¬ (64 : Int) < x.size := by omega
        subst h2
      all_goals
        go_wp2_with (at_builtin; refine wpList_append_own _ rfl _ _ 22 rfl w.heap.size 9 i0 (.string ⟨#[]⟩) 1 16 Tryd.underlying22 hi hz0 hz1 hz2 rfl (by decide) (.slice ob j cb) j ((someL l j).map Value.string) rfl hown2 ⟨wr.heap.size, 0, none⟩ 1 1 _ rfl rfl hn2 ho2 ?b2 ?b3 ?b4 ?_)
        case b2 => unfold maxLen; omega
        case b3 => omega
        case b4 => exact HB.out.size
        intro v3 w3 hown3 hgrow3 _
        have hb3 : Below w.heap.size w w3 := HB.out.grown hgrow3 HB.out.size (fun k hk => by
          rcases hown2.2 with ⟨e, _⟩ | ⟨g', cap', cur, e, hg', _⟩
          · rw [e] at hk; simp [Value.ownBlock] at hk
          · rw [e] at hk; simp [Value.ownBlock] at hk; omega)
        have HF : Hid (w3.ownsRow w.heap.size 9 1 v3 (j + 1) ((someL l (j + 1)).map Value.string) ∧ Below w.heap.size w w3) := by
          refine ⟨?_, hb3⟩
          rw [HX.out, List.map_append, ← HY.out]
          exact hown3
        clear hown2 hn2 ho2 hown3 hgrow3 hb3 hw2 HB hc hsl
        go_wp2
        go_roundw
        case rel => exact ⟨j + 1, by omega, by go_num, HF.out⟩
        case measure => simp [intOf]; omega
    · obtain rfl : j = m := by omega
      have HF : Hid ((∃ v', u5 = v' ∧ wr.ownsRow w.heap.size 9 1 v' (someL l j).length ((someL l j).map Value.string)) ∧ Below w.heap.size w wr) := by
        have : (someL l j).length = j := by rw [someL_length]; rw [← HL.out]; omega
        rw [this]
        exact ⟨⟨_, rfl, hown⟩, hb⟩
      clear hown hb
      by_cases h1 : j < len
      · have j1 : (j : Int) < len := by omega
        have j2 : ¬ (j : Int) < n := by omega
        go_wp2
        go_ret
        obtain ⟨⟨v', e, r⟩, hb⟩ := HF.out
        exact ⟨⟨v', congrArg Ending.returned e, r⟩, hb⟩
      · have j1 : ¬ (j : Int) < len := by omega
        go_wp2
        go_ret
        obtain ⟨⟨v', e, r⟩, hb⟩ := HF.out
        exact ⟨⟨v', congrArg Ending.returned e, r⟩, hb⟩
end Go.Proofs.YtgokehbdappcdaaDoor
