/- The law TreeChecks, called with any texts, numbers and path where sum's two tables lie, returns true, and changes nothing that was there: the walk. · Where the row's two tables read as they are laid, the first state and the numbers k stand where the program has them. -/
import Derived.Test.YtgokehbdappcdaaDoorMg20
import Derived.Test.YtgokehbdappcdaaDoorMg48
import Derived.Test.YtgokehbdappcdaaDoorMg17
import Derived.Test.YtgokehbdappcdaaDoorMg34
import Derived.Lib.LaidTab
namespace Go.Proofs.YtgokehbdappcdaaDoor
set_option maxRecDepth 20000
open Go.ChangeShapes Go.WideShapes Go.RowKit Go.Deep

section
variable {H : Type} {enc : TypeId × Value → H} {W : World}
theorem stepsv_of_trod {v : Value} {d : DataW H} {p : List MemPlace} {base : Nat} (hok : Value.okWide Tryd.prog W .any base 39 v) (h : DataW.Trod enc Tryd.prog W 0 (fun _ => true) true 39 v d p) (hw : ∀ n ∈ d.weights Tryd.prog 39, n ≤ reachBytes) : ∃ l, StepsV W v l := by
  obtain ⟨a0, len, cap, rfl⟩ := okWide_slice Tryd.underlying39 hok
  obtain ⟨fuel, hf⟩ := h
  obtain ⟨v', l, e, hb⟩ := steps_of_cells hf hw
  have e2 : .slice a0 len cap = v' := by simpa [Value.cells] using e
  subst e2
  exact ⟨l, hb⟩
end
section
variable {R : World → Prop} {h : ByteArray → ByteArray} {B : Nat}
theorem rcheck_any (Q : RV R h B) (hh : ∀ x, (h x).size = 32) (w : World) (top s : ByteArray) (n i : Int) (oa : Option Addr) (c : Nat) (p : List Stp) (hp : p.length ≤ 12) (hP : PathIn w (fun _ => False) oa p) (hs : s.size ≤ 1000) (hr : R w) :
    Calls Tryd.prog 13 #[.pointer (some ⟨B, 0, none⟩), .string top, .int .i64 n, .int .i64 i, .string s, .slice oa p.length c] w fun e w' => e = .returned (.bool (chkB h top n i s p)) ∧ Below w.heap.size w w' := by
  by_cases hn : 0 ≤ i ∧ i < n ∧ n ≤ 32768 ∧ ¬ top.size = 0
  · obtain ⟨a, rfl⟩ : ∃ a : Nat, i = a := ⟨i.toNat, by omega⟩
    obtain ⟨b, rfl⟩ : ∃ b : Nat, n = b := ⟨n.toNat, by omega⟩
    exact rcheck_yes Q hh w top s b a oa c p (by omega) (by omega) hn.2.2.2 hp hP hs hr
  · rw [chk_no hn]
    refine (rcheck_no w top s n i oa c p.length hn).mono ?_
    rintro e w' ⟨rfl, rfl⟩
    exact ⟨rfl, Below.refl _ _⟩
end
set_option maxHeartbeats 4000000 in
theorem walk_treeChecks (top : ByteArray) (n i : Int) (s : ByteArray) (v : Value) (p : List Stp) (w : World) (hf : Sm.First w) (hq : Sm.Cubes w) (hv : StepsV w v p) :
    Calls Tryd.prog 4 #[.string top, .int .i64 n, .int .i64 i, .string s, v] w fun e w' => e = .returned (.bool true) ∧ Below w.heap.size w w' := by
  obtain ⟨oa, cap, rfl⟩ := hv.form
  have HV : Hid (PathIn w (fun _ => False) oa p) := hv.pathIn fun _ _ h => h
  have HT : Hid (TabT w) := ⟨hf, hq⟩
  clear hv hf hq
  obtain ⟨len, hle⟩ : ∃ len, len = p.length := ⟨_, rfl⟩
  have HN : Hid (len = p.length) := hle
  rw [← hle]
  clear hle
  have hway : (12 < len ∨ 64 < s.size) ∨ (len ≤ 12 ∧ s.size ≤ 64) := by omega
  rcases hway with hlong | ⟨hl12, hs64⟩
  · by_cases h1 : 12 < len
    · have l1 : (12 : Int) < (len : Int) := by omega
      clear hlong
      go_enter Tryd.func4, Tryd.ntmps4
      go_wp2_with fail
      refine (tawake_any _).mono ?_
      rintro e w8 ⟨rfl, hb8⟩
      go_wp2
      go_ret
      exact ⟨rfl, hb8⟩
    · have l1 : decide ((12 : Int) < (len : Int)) = false := decide_eq_false (by omega)
      have l2 : (64 : Int) < (s.size : Int) := by omega
      clear hlong
      go_enter Tryd.func4, Tryd.ntmps4
      go_wp2_with fail
      refine (tawake_any _).mono ?_
      rintro e w8 ⟨rfl, hb8⟩
      go_wp2
      go_ret
      exact ⟨rfl, hb8⟩
  · have l1 : decide ((12 : Int) < (len : Int)) = false := decide_eq_false (by omega)
    have l2 : decide ((64 : Int) < (s.size : Int)) = false := decide_eq_false (by omega)
    have HS : Hid (s.size ≤ 64) := hs64
    clear hs64
    go_enter Tryd.func4, Tryd.ntmps4
    go_wp2_with fail
    go_loopw [11] (fun v wr => ∃ j : Nat, j ≤ len ∧ v = .int .i64 (j : Int) ∧ wr = w) (fun v _ => len - (intOf v).toNat)
    case atStart => exact ⟨0, Nat.zero_le _, rfl, rfl⟩
    case round =>
      obtain ⟨j, hj, rfl, rfl⟩ := hrel
      clear l1 l2
      by_cases hlt : j < len
      · have j1 : (j : Int) < (len : Nat) := by omega
        obtain ⟨x, hx⟩ : ∃ x, p[j]? = some x := ⟨_, List.getElem?_eq_getElem (by rw [← HN.out]; exact hlt)⟩
        obtain ⟨bk, o, rfl, _, _, _, ob, cb, hc, _⟩ := HV.out j x hx
        generalize x.sides.length = sl at *
        clear hx
        by_cases h8 : 8 < sl
        · have s1 : (8 : Int) < (sl : Int) := by omega
          go_wp2_with fail
          refine (tawake_any _).mono ?_
          rintro e w8 ⟨rfl, hb8⟩
          go_wp2
          go_ret
          exact ⟨rfl, hb8⟩
        · have s1 : ¬ (8 : Int) < (sl : Int) := by omega
          go_wp2
          go_roundw
          case rel => exact ⟨j + 1, by omega, by go_num, trivial⟩
          case measure => simp [intOf]; omega
      · obtain rfl : j = len := by omega
        have j1 : ¬ (j : Int) < j := by omega
        have hrl := treal_any wr HT.out
        go_wp2_with fail
        refine hrl.mono ?_
        rintro e w2 ⟨⟨B1, B2, key, rfl, hv1, hv2⟩, hb2⟩
        have ht2 := HT.out.below hb2
        have hk2 : realK.V w2 (fun k => k < w2.heap.size) (fun _ => False) B1 key := by
          obtain ⟨N, r1, r2⟩ := hv1
          exact ⟨⟨N, r1, r2, Row.lt r1, Row.lt r2⟩, ht2, ht2.1.1, ht2.2.1⟩
        have hP2 : PathIn w2 (fun _ => False) oa p := HV.out.touch (Touch.of_below hb2)
        have hs64 := HS.out
        have hpl : p.length ≤ 12 := by rw [← HN.out]; exact hl12
        have hck := check_any realOk w2 _ _ B1 key top n i s oa cap p (by omega) hP2 (by omega) (Nat.zero_le _) hk2
        rw [← HN.out] at hck
        have H2 : Hid (RefR w2 B2 key ∧ PathIn w2 (fun _ => False) oa p ∧ Below wr.heap.size wr w2) := ⟨hv2, hP2, hb2⟩
        clear hrl hv1 hv2 hb2 ht2 hk2 hP2 hs64 hpl
        go_wp2_with fail
        refine hck.mono ?_
        rintro e w3 ⟨S3, rfl, _, t3, _, _, _⟩
        have hb3 : Below w2.heap.size w2 w3 := t3.below (Nat.le_refl _) fun k hk => hk.elim
        have hrc := rcheck_any (realRV B2 key) realH_size w3 top s n i oa cap p (by rw [← HN.out]; exact hl12) (H2.out.2.1.touch t3) (by have := HS.out; omega) (H2.out.1.keep hb3)
        rw [← HN.out] at hrc
        have he : chkB (realK.h S3) top n i s p = chkB realH top n i s p := rfl
        rw [he]
        have HB3 : Hid (Below wr.heap.size wr w3) := H2.out.2.2.trans (hb3.mono H2.out.2.2.size)
        generalize chkB realH top n i s p = y at *
        clear hck t3 hb3 he H2
        go_wp2_with fail
        refine hrc.mono ?_
        rintro e w4 ⟨rfl, hb4⟩
        have HB4 : Hid (Below wr.heap.size wr w4) := HB3.out.trans (hb4.mono HB3.out.size)
        clear hrc hb4 HB3
        go_wp2_with fail
        refine (tawake_any _).mono ?_
        rintro e w8 ⟨rfl, hb8⟩
        have HF : Hid (Below wr.heap.size wr w8) := HB4.out.trans (hb8.mono HB4.out.size)
        clear hb8
        go_wp2
        go_ret
        exact ⟨rfl, HF.out⟩
end Go.Proofs.YtgokehbdappcdaaDoor

namespace Go.Proofs.YtgokehbdappcdaaDoor.Sm
set_option maxRecDepth 20000
open Go.RowKit

def firstZ : List Int := [1779033703, 3144134277, 1013904242, 2773480762, 1359893119, 2600822924, 528734635, 1541459225]
def cubesZ : List Int := [1116352408, 1899447441, 3049323471, 3921009573, 961987163, 1508970993, 2453635748, 2870763221, 3624381080, 310598401, 607225278, 1426881987, 1925078388, 2162078206, 2614888103, 3248222580, 3835390401, 4022224774, 264347078, 604807628, 770255983, 1249150122, 1555081692, 1996064986, 2554220882, 2821834349, 2952996808, 3210313671, 3336571891, 3584528711, 113926993, 338241895, 666307205, 773529912, 1294757372, 1396182291, 1695183700, 1986661051, 2177026350, 2456956037, 2730485921, 2820302411, 3259730800, 3345764771, 3516065817, 3600352804, 4094571909, 275423344, 430227734, 506948616, 659060556, 883997877, 958139571, 1322822218, 1537002063, 1747873779, 1955562222, 2024104815, 2227730452, 2361852424, 2428436474, 2756734187, 3204031479, 3329325298]
theorem firstZ_at (i : Nat) (h : i < 8) : firstZ.getD i 0 = ((st0.at i : Nat) : Int) := by
  have all : ∀ j : Fin 8, firstZ.getD j.val 0 = ((st0.at j.val : Nat) : Int) := by decide
  exact all ⟨i, h⟩
theorem cubesZ_at (i : Nat) (h : i < 64) : cubesZ.getD i 0 = ((keyN i : Nat) : Int) := by
  have all : ∀ j : Fin 64, cubesZ.getD j.val 0 = ((keyN j.val : Nat) : Int) := by decide +kernel
  exact all ⟨i, h⟩
theorem lt_of_cell {w : World} {g i : Nat} {v : Value} (h : w.cell? ⟨g, i, none⟩ = some v) : g < w.heap.size := by
  rcases Nat.lt_or_ge g w.heap.size with h' | h'
  · exact h'
  · simp [World.cell?, Array.getElem?_eq_none h'] at h
theorem tables_of_laid {W : World} (h : laidMet Tryd.prog [("grapnel/sum.first", Lib.tabData .u32 firstZ), ("grapnel/sum.cubes", Lib.tabData .u32 cubesZ)] W) : First W ∧ Cubes W := by
  have g0 : Tryd.prog.globalNamed "grapnel/sum.first" = some 0 := by kernel_rfl
  have g1 : Tryd.prog.globalNamed "grapnel/sum.cubes" = some 1 := by kernel_rfl
  have y1 : (Tryd.prog.globals[1]?).map (·.type) = some 146 := by kernel_rfl
  have T0 := Lib.tabIs_of_head g0 (show (Tryd.prog.globals[0]?).map (·.type) = some 92 by kernel_rfl) Tryd.underlying92 Tryd.underlying90 (by kernel_rfl) (by kernel_rfl) h
  have T1 : Lib.TabIs Tryd.prog W "grapnel/sum.cubes" .u32 cubesZ := by
    obtain ⟨ps, ⟨_, _, _, _, _, _, _, _, _, _, ⟨g', t', cs, fuel, p, q, hg', ht', hvar, hd, _, _⟩, _⟩, _⟩ := h
    obtain rfl := Option.some.inj (g1.symm.trans hg')
    obtain rfl := Option.some.inj (y1.symm.trans ht')
    unfold Lib.TabIs
    rw [hvar, ← Lib.cells_of_tab Tryd.underlying146 Tryd.underlying90 (by kernel_rfl) (by kernel_rfl) hd]
  have c0 : ∀ i, i < 8 → W.cell? ⟨0, i, none⟩ = some (.int .u32 (st0.at i : Nat)) := fun i hi => by rw [T0.cell g0 i hi, firstZ_at i hi]
  have c1 : ∀ i, i < 64 → W.cell? ⟨1, i, none⟩ = some (.int .u32 (keyN i : Nat)) := fun i hi => by rw [T1.cell g1 i hi, cubesZ_at i hi]
  exact ⟨⟨lt_of_cell (c0 0 (by decide)), c0⟩, ⟨lt_of_cell (c1 0 (by decide)), c1⟩⟩
end Go.Proofs.YtgokehbdappcdaaDoor.Sm
