/- The document's Put, called with any two numbers of type int, tells the bytes putS and the error putE, and changes nothing that was there. · The document's tree over ANY document's vault whose Hash is told: four, group, Topped. -/
import Derived.Test.YtgokehbdappcdaaDoorMg05
import Derived.Test.YtgokehbdappcdaaDoorMg08
import Derived.Test.YtgokehbdappcdaaDoorMg09
namespace Go.Proofs.YtgokehbdappcdaaDoor
set_option maxRecDepth 20000
open Go.RowKit

theorem rput_noWidth (n k : Int) (h : k < 1 ∨ 6 < k) (w : World) :
    Calls Tryd.prog 40 #[.int .i64 n, .int .i64 k] w fun e w' => e = .returned (.tuple #[.string ByteArray.empty, .int .i64 1]) ∧ w' = w := by
  rcases h with h | h
  · go_enter Tryd.func40, Tryd.ntmps40
    go_wp2
    go_ret2
    exact ⟨rfl, rfl⟩
  · have h1 : ¬ k < 1 := by omega
    go_enter Tryd.func40, Tryd.ntmps40
    go_wp2
    go_ret2
    exact ⟨rfl, rfl⟩

theorem rput_below (n : Int) (k : Nat) (h1 : 1 ≤ k) (h2 : k ≤ 6) (h : n < 0) (w : World) :
    Calls Tryd.prog 40 #[.int .i64 n, .int .i64 k] w fun e w' => e = .returned (.tuple #[.string ByteArray.empty, .int .i64 2]) ∧ w' = w := by
  have a1 : ¬ (k : Int) < 1 := by omega
  have a2 : ¬ (6 : Int) < k := by omega
  go_enter Tryd.func40, Tryd.ntmps40
  go_wp2
  go_ret2
  exact ⟨rfl, rfl⟩

set_option maxHeartbeats 400000 in
theorem rput_in (n : Int) (k : Nat) (h1 : 1 ≤ k) (h2 : k ≤ 6) (h0 : 0 ≤ n) (hm : n ≤ 9223372036854775807) (w : World) :
    Calls Tryd.prog 40 #[.int .i64 n, .int .i64 k] w fun e w' => e = .returned (.tuple #[.string (putS n k), .int .i64 (putE n k)]) ∧ Below w.heap.size w w' := by
  have a1 : ¬ (k : Int) < 1 := by omega
  have a2 : ¬ (6 : Int) < k := by omega
  have a3 : ¬ n < 0 := by omega
  obtain ⟨i0, hi, hz0, hz1, hz2⟩ := info_parts info5
  go_enter Tryd.func40, Tryd.ntmps40
  go_wp2
  go_loopw [0, 6, 7] (fun x v i wr => ∃ j : Nat, j ≤ k ∧ i = .int .i64 j ∧ x = .int .i64 (n / 256 ^ j) ∧ wr.ownsRow w.heap.size 5 1 v j ((leI j n).map (Value.int .u8)) ∧ Below w.heap.size w wr) (fun _ _ i _ => k - (intOf i).toNat)
  case atStart => exact ⟨0, Nat.zero_le _, rfl, by simp, World.ownsRow_nil _ _ _ _, Below.refl _ _⟩
  case round =>
    obtain ⟨j, hj, rfl, rfl, hown, hb⟩ := hrel
    obtain ⟨q, hq⟩ : ∃ q, q = n / 256 ^ j := ⟨_, rfl⟩
    have hq0 : 0 ≤ q := by rw [hq]; exact Int.ediv_nonneg h0 (Int.le_of_lt (Int.pow_pos (by decide)))
    have hqm : q ≤ 9223372036854775807 := by rw [hq]; exact Int.le_trans (Int.ediv_le_self _ h0) hm
    rw [← hq]
    have HQ : Hid (q = n / 256 ^ j) := hq
    clear hq
    by_cases hlt : j < k
    · go_wp2_with (at_builtin; refine wpList_append_own _ rfl _ _ 107 rfl w.heap.size 5 i0 (.int .u8 0) 1 1 Tryd.underlying107 hi hz0 hz1 hz2 rfl (by decide) _ _ _ rfl (hown.alloc _) ⟨wr.heap.size, 0, none⟩ 1 1 [.int .u8 (q % 256)] rfl rfl ?c1 ?c2 ?c3 ?c4 ?c5 ?_)
      case c1 => intro i u hi; match i, hi with | 0, hi => simp at hi; subst hi; simp [Addr.add]
      case c2 => intro u hu; simp at hu; subst hu; rfl
      case c3 => unfold maxLen; omega
      case c4 => omega
      case c5 => have := hb.size; simp; omega
      intro v' w2 hown' hgrow _
      have hb2 : Below w.heap.size w w2 := (hb.alloc hb.size _).grown hgrow (by have := hb.size; simp; omega) (fun g hg => by
        rcases hown.2 with ⟨rfl, _⟩ | ⟨g', cap, cur, rfl, hg', _⟩
        · simp [Value.ownBlock] at hg
        · simp [Value.ownBlock] at hg; omega)
      clear hown hgrow hb
      go_wp2
      go_roundw
      case rel =>
        refine ⟨j + 1, by omega, by go_num, ?_, ?_, hb2⟩
        · rw [HQ.out, leI_step]
        · rw [leI_succ, List.map_append, ← HQ.out]; exact hown'
      case measure => simp [intOf]; omega
    · have hjk : j = k := by omega
      subst hjk
      by_cases hz : 0 < q
      · have hge : 256 ^ j ≤ n := by
          rw [HQ.out] at hz
          rcases Int.lt_or_le n (256 ^ j) with h | h
          · rw [Int.ediv_eq_zero_of_lt h0 h] at hz; omega
          · exact h
        have HS : Hid (putS n j = ByteArray.empty ∧ putE n j = 2) := ⟨putS_noRoom (.inr hge), putE_noRoom h1 h2 (.inr hge)⟩
        clear hge
        go_wp2
        go_ret2
        exact ⟨by rw [HS.out.1, HS.out.2]; rfl, hb⟩
      · have hlt' : n < 256 ^ j := by
          rw [HQ.out] at hz
          rcases Int.lt_or_le n (256 ^ j) with h | h
          · exact h
          · exact absurd ((Int.le_ediv_iff_mul_le (c := 256 ^ j) (a := 1) (b := n) (Int.pow_pos (by decide))).2 (by omega)) (by omega)
        have HS : Hid (putS n j = strOfNums (leI j n) ∧ putE n j = 0) := ⟨putS_ok h1 h2 h0 hlt', putE_ok h1 h2 h0 hlt'⟩
        clear hlt'
        have hex : ∃ g cap, u6 = .slice (some ⟨g, 0, none⟩) j cap := by
          rcases hown.2 with ⟨_, h⟩ | ⟨g, cap, cur, h, _⟩
          · omega
          · exact ⟨g, cap, h⟩
        obtain ⟨g, cap, hv⟩ := hex
        rw [hv] at hown ⊢
        have hcv := run_convert_bytes_arg (P := Tryd.prog) wr 107 5 Tryd.underlying107 Tryd.underlying5 g 0 j cap (leI j n) (leI_length j n) (fun i hi => by
          rw [Nat.zero_add, hown.cellAt i (by omega)]
          simp [leI_length, hi, List.getD]) 9 Tryd.underlying9
        clear hv
        go_wp2
        go_ret2
        exact ⟨by rw [HS.out.1, HS.out.2]; rfl, hb⟩

/-- The document's Put, whatever it is handed. -/
theorem rput_any (n k : Int) (hm : n ≤ 9223372036854775807) (w : World) :
    Calls Tryd.prog 40 #[.int .i64 n, .int .i64 k] w fun e w' => e = .returned (.tuple #[.string (putS n k), .int .i64 (putE n k)]) ∧ Below w.heap.size w w' := by
  by_cases hk : k < 1 ∨ 6 < k
  · refine (rput_noWidth n k hk w).mono fun e w' ⟨he, hw⟩ => ?_
    rw [putS_noWidth hk, putE_noWidth hk]
    exact ⟨he, hw ▸ Below.refl _ _⟩
  · obtain ⟨m, rfl⟩ := Int.eq_ofNat_of_zero_le (show 0 ≤ k by omega)
    have h1 : 1 ≤ m := by omega
    have h2 : m ≤ 6 := by omega
    by_cases hn : n < 0
    · refine (rput_below n m h1 h2 hn w).mono fun e w' ⟨he, hw⟩ => ?_
      rw [putS_noRoom (.inl hn), putE_noRoom h1 h2 (.inl hn)]
      exact ⟨he, hw ▸ Below.refl _ _⟩
    · exact rput_in n m h1 h2 (by omega) hm w
end Go.Proofs.YtgokehbdappcdaaDoor

namespace Go.Proofs.YtgokehbdappcdaaDoor
set_option maxRecDepth 20000
open Go.RowKit

structure RV (R : World → Prop) (h : ByteArray → ByteArray) (B : Nat) : Prop where
  keep : ∀ {w w' : World}, R w → Below w.heap.size w w' → R w'
  call : ∀ s : ByteArray, s.size ≤ 1048576 → ∀ w, R w → Calls Tryd.prog 31 #[.pointer (some ⟨B, 0, none⟩), .string s] w fun e w' => e = .returned (.string (h s)) ∧ Below w.heap.size w w'
theorem catB_snoc : ∀ (l : List ByteArray) (x : ByteArray), catB (l ++ [x]) = catB l ++ x
  | [], x => by apply ByteArray.ext; simp [catB, ByteArray.data_append]
  | a :: l, x => by
    show a ++ catB (l ++ [x]) = a ++ catB l ++ x
    rw [catB_snoc l x, ByteArray.append_assoc]
section
variable {R : World → Prop} {h : ByteArray → ByteArray} {B : Nat}
theorem tdfour_any (Q : RV R h B) (w : World) (g o c : Nat) (l : List ByteArray) (hc : ∀ (i : Nat) (x : ByteArray), l[i]? = some x → w.cell? ⟨g, o + i, none⟩ = some (.string x)) (hlen : l.length ≤ 4) (hs : ∀ x, x ∈ l → x.size ≤ 1000) (hr : R w) :
    Calls Tryd.prog 32 #[.pointer (some ⟨B, 0, none⟩), .slice (some ⟨g, o, none⟩) l.length c] w fun e w' => e = .returned (.string (h (nodeT l))) ∧ Below w.heap.size w w' := by
  have hz := catB_size_le hs
  have hcl := Q.call (nodeT l) (by unfold nodeT; rw [ByteArray.size_append]; show 1 + (catB l).size ≤ _; omega) w hr
  have HE : Hid ((⟨#[1]⟩ : ByteArray) ++ catB (l.take l.length) = nodeT l) := by show _ = _; rw [List.take_length]; rfl
  have HC : Hid (∀ (i : Nat) (x : ByteArray), l[i]? = some x → w.cell? ⟨g, o + i, none⟩ = some (.string x)) := hc
  have HZ : Hid (∀ j, j ≤ l.length → ((⟨#[1]⟩ : ByteArray) ++ catB (l.take j)).size ≤ 5000) := fun j _ => by
    have := catB_size_le (l := l.take j) fun x hx => hs x (List.mem_of_mem_take hx)
    rw [ByteArray.size_append, List.length_take] at *
    show 1 + (catB (l.take j)).size ≤ 5000
    have : min j l.length ≤ 4 := by omega
    omega
  have HS : Hid (∀ x, x ∈ l → x.size ≤ 1000) := hs
  obtain ⟨m, hm⟩ : ∃ m, m = l.length := ⟨_, rfl⟩
  have HM : Hid (m = l.length) := hm
  rw [← hm] at hlen ⊢
  rw [← hm] at HE HZ
  generalize h (nodeT l) = y at *
  generalize nodeT l = nt at *
  clear hr hc hs hz hm
  go_enter Tryd.func32, Tryd.ntmps32
  go_wp2_with fail
  go_loopw [5, 6] (fun sv iv wr => ∃ j : Nat, j ≤ m ∧ iv = .int .i64 (j : Int) ∧ sv = .string ((⟨#[1]⟩ : ByteArray) ++ catB (l.take j)) ∧ wr = w) (fun _ iv _ => m - (intOf iv).toNat)
  case atStart => exact ⟨0, Nat.zero_le _, rfl, by congr 1, rfl⟩
  case round =>
    obtain ⟨j, hj, rfl, rfl, rfl⟩ := hrel
    by_cases hlt : j < m
    · have j1 : (j : Int) < m := by omega
      have hjl : j < l.length := by rw [← HM.out]; exact hlt
      have cj := HC.out j l[j] (List.getElem?_eq_getElem hjl)
      have hzj := HZ.out j (by omega)
      have hxj := HS.out l[j] (List.getElem_mem hjl)
      have hn : (⟨#[1]⟩ : ByteArray) ++ catB (l.take j) ++ l[j] = (⟨#[1]⟩ : ByteArray) ++ catB (l.take (j + 1)) := by
        rw [List.take_add_one, List.getElem?_eq_getElem hjl]
        show _ = (⟨#[1]⟩ : ByteArray) ++ catB (l.take j ++ [l[j]])
        rw [catB_snoc, ByteArray.append_assoc]
      have hadd : ∀ w', (Op.stringOp .add ((⟨#[1]⟩ : ByteArray) ++ catB (l.take j)) l[j]).run Tryd.prog w' = .ok (.string ((⟨#[1]⟩ : ByteArray) ++ catB (l.take (j + 1)))) w' := fun w' => by
        rw [← hn]
        exact run_string_add_sum (P := Tryd.prog) (w := w') _ _ (by omega)
      clear hn
      generalize (⟨#[1]⟩ : ByteArray) ++ catB (l.take j) = z at *
      obtain ⟨z2, hz2⟩ : ∃ z2, z2 = (⟨#[1]⟩ : ByteArray) ++ catB (l.take (j + 1)) := ⟨_, rfl⟩
      have HZ2 : Hid (z2 = (⟨#[1]⟩ : ByteArray) ++ catB (l.take (j + 1))) := hz2
      rw [← hz2] at hadd
      generalize l[j] = x at *
      clear hz2 hcl
      go_wp2
      go_roundw
      case rel => exact ⟨j + 1, by omega, by go_num, congrArg Value.string HZ2.out, trivial⟩
      case measure => simp [intOf]; omega
    · obtain rfl : j = m := by omega
      have j1 : ¬ (j : Int) < j := by omega
      rw [HE.out]
      go_wp2_with fail
      refine hcl.mono ?_
      rintro e w1 ⟨rfl, hb⟩
      have HB : Hid _ := hb
      clear hb hcl
      go_wp2
      go_ret
      exact ⟨rfl, HB.out⟩
theorem rgroup_any (w : World) (g o c len i : Nat) (hi : i < len) (hlen : len ≤ 1000) (hc : len ≤ c) :
    Calls Tryd.prog 39 #[.slice (some ⟨g, o, none⟩) len c, .int .i64 (i : Int)] w fun e w' => e = .returned (.slice (some ⟨g, o + 4 * (i / 4), none⟩) (min 4 (len - 4 * (i / 4))) (c - 4 * (i / 4))) ∧ w' = w := by
  obtain ⟨r, hr⟩ : ∃ r : Nat, r = i % 4 := ⟨_, rfl⟩
  obtain ⟨f, hf⟩ : ∃ f : Nat, f = 4 * (i / 4) := ⟨_, rfl⟩
  obtain ⟨n, hn⟩ : ∃ n : Nat, n = min 4 (len - 4 * (i / 4)) := ⟨_, rfl⟩
  rw [← hn, ← hf]
  have m1 : ((i : Int).tmod 4) = r := by rw [Int.tmod_eq_emod_of_nonneg (by omega)]; omega
  have m1' : ((i : Int) % 4) = r := by omega
  have m2 : IntKind.i64.wrap (r : Int) = r := by rw [IntKind.wrap_i64]; omega
  have m3 : IntKind.i64.wrap ((i : Int) - r) = f := by rw [IntKind.wrap_i64]; omega
  have m4 : IntKind.i64.wrap ((f : Int) + 4) = ((f + 4 : Nat) : Int) := by rw [IntKind.wrap_i64]; omega
  have hfl : f < len := by omega
  by_cases h4 : len < f + 4
  · have g1 : (len : Int) < ((f + 4 : Nat) : Int) := by omega
    have g2 : (f : Int) ≤ (len : Int) := by omega
    have g3 : (len : Int) ≤ (c : Int) := by omega
    have g4 : len - f = n := by omega
    clear hr hf hn
    go_enter Tryd.func39, Tryd.ntmps39
    go_wp2
    go_ret
    exact ⟨rfl, rfl⟩
  · have g1 : ¬ (len : Int) < ((f + 4 : Nat) : Int) := by omega
    have g2 : (f : Int) ≤ ((f + 4 : Nat) : Int) := by omega
    have g3 : ((f + 4 : Nat) : Int) ≤ (c : Int) := by omega
    have g4 : f + 4 - f = n := by omega
    clear hr hf hn
    go_enter Tryd.func39, Tryd.ntmps39
    go_wp2
    go_ret
    exact ⟨rfl, rfl⟩
theorem rtopped_any (Q : RV R h B) (w : World) (n : Nat) (t : ByteArray) (hm : n < 281474976710656) (hs : t.size ≤ 1048000) (hr : R w) :
    Calls Tryd.prog 26 #[.pointer (some ⟨B, 0, none⟩), .int .i64 (n : Int), .string t] w fun e w' => e = .returned (.string (h (rootT n t))) ∧ Below w.heap.size w w' := by
  have hz := put6_size hm
  have hp := fun w => rput_any (n : Int) 6 (by omega) w
  have ha1 : ∀ w', (Op.stringOp .add ⟨#[2]⟩ (putS n 6)).run Tryd.prog w' = .ok (.string (⟨#[2]⟩ ++ putS n 6)) w' := fun w' => run_string_add_sum (P := Tryd.prog) (w := w') ⟨#[2]⟩ (putS n 6) (by show 1 + (putS n 6).size ≤ _; omega)
  have hz2 : ((⟨#[2]⟩ : ByteArray) ++ putS n 6).size = 7 := by rw [ByteArray.size_append, hz]; rfl
  have ha2 : ∀ w', (Op.stringOp .add (⟨#[2]⟩ ++ putS n 6) t).run Tryd.prog w' = .ok (.string (rootT n t)) w' := fun w' => run_string_add_sum (P := Tryd.prog) (w := w') (⟨#[2]⟩ ++ putS n 6) t (by omega)
  have hc := fun w' hv => Q.call (rootT n t) (by unfold rootT; rw [ByteArray.size_append, hz2]; omega) w' hv
  have HK : Hid (∀ w', Below w.heap.size w w' → R w') := fun w' hb => Q.keep hr hb
  generalize h (rootT n t) = x0 at *
  generalize rootT n t = x at *
  generalize (⟨#[2]⟩ : ByteArray) ++ putS n 6 = y at *
  generalize putS n 6 = z at *
  generalize putE n 6 = E at *
  clear hr hz hz2
  go_enter Tryd.func26, Tryd.ntmps26
  go_wp2_with fail
  refine (hp _).mono ?_
  rintro e w1 ⟨rfl, hb⟩
  clear hp
  go_wp2_with fail
  refine (hc w1 (HK.out w1 hb)).mono ?_
  rintro e w2 ⟨rfl, h1⟩
  have HF : Hid (Below w.heap.size w w2) := hb.trans (h1.mono hb.size)
  clear hc h1 hb HK
  go_wp2
  go_ret
  exact ⟨rfl, HF.out⟩
end
end Go.Proofs.YtgokehbdappcdaaDoor
