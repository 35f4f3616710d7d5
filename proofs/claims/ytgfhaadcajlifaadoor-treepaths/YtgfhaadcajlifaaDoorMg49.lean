/- The real vault as one that hashes, and the document's. · The law TreeRoots, called with any list of texts where sum's two tables lie, returns true, and changes nothing that was there: the walk. · Where the row's two tables read as they are laid, the first state and the numbers k stand where the program has them. -/
import Derived.Test.YtgfhaadcajlifaaDoorMg17
import Derived.Test.YtgfhaadcajlifaaDoorMg11
import Derived.Test.YtgfhaadcajlifaaDoorMg24
import Derived.Test.YtgfhaadcajlifaaDoorMg41
import Derived.Test.YtgfhaadcajlifaaDoorMg35
import Derived.Test.YtgfhaadcajlifaaDoorMg45
import Derived.Test.YtgfhaadcajlifaaDoorMg48
import Derived.Test.YtgfhaadcajlifaaDoorMg21
import Derived.Test.YtgfhaadcajlifaaDoorMg19
import Derived.Lib.LaidTab
namespace Go.Proofs.YtgfhaadcajlifaaDoor
set_option maxRecDepth 20000
open Go.RowKit

def TabT (w : World) : Prop := Sm.First w ∧ Sm.Cubes w
def realH (x : ByteArray) : ByteArray := Sm.shaS (Sm.numsOf x)
theorem realH_size (x : ByteArray) : (realH x).size = 32 := by
  unfold realH Sm.shaS
  rw [strOfNums_size, List.length_map, Sm.shaL_length]
theorem TabT.below {w w' : World} (h : TabT w) (hb : Below w.heap.size w w') : TabT w' := ⟨h.1.below hb h.1.1, h.2.below hb h.2.1⟩
theorem thash_in (N : Nat) (s : ByteArray) (hs : s.size ≤ 1048576) (w : World) (ht : TabT w) :
    Calls Tryd.prog 104 #[.pointer (some ⟨N, 0, none⟩), .string s] w fun e w' => e = .returned (.string (realH s)) ∧ Below w.heap.size w w' := by
  have h := Sm.sum_any s (by omega) w ht.1 ht.2
  rw [show Sm.shaS (Sm.numsOf s) = realH s from rfl] at h
  generalize realH s = x at *
  clear ht hs
  go_enter Tryd.func104, Tryd.ntmps104
  go_wp2_with fail
  refine h.mono ?_
  rintro e w1 ⟨rfl, hb⟩
  clear h
  go_wp2
  go_ret
  exact ⟨rfl, hb⟩
theorem thash_any (B : Nat) (key s : ByteArray) (hs : s.size ≤ 1048576) (w : World) (ht : TabT w) (hp : RealV w B key) :
    Calls Tryd.prog 42 #[.pointer (some ⟨B, 0, none⟩), .string s] w fun e w' => e = .returned (.string (realH s)) ∧ Below w.heap.size w w' := by
  obtain ⟨N, r1, r2⟩ := hp
  have c0 : w.cell? ⟨B, 0, none⟩ = some (.iface 78 (.pointer (some ⟨N, 0, none⟩))) := r1.cell 0
  have hg := given_any B _ _ w c0
  have hn := thash_in N s hs w ht
  have hm : ∀ w : World, (method 287 78 (.pointer (some ⟨N, 0, none⟩)) "grapnel/vault.hash").run Tryd.prog w = .ok (104, .pointer (some ⟨N, 0, none⟩)) w := fun _ => by kernel_rfl
  generalize realH s = u at *
  clear ht hs r1 r2
  go_enter Tryd.func42, Tryd.ntmps42
  go_wp2_with fail
  refine hg.mono ?_
  rintro e w1 ⟨rfl, rfl⟩
  clear hg
  go_wp2_with fail
  refine hn.mono ?_
  rintro e w2 ⟨rfl, h1⟩
  have HF : Hid _ := h1
  clear h1 hn
  go_wp2
  go_ret
  exact ⟨rfl, HF.out⟩
theorem trhash_any (B : Nat) (key s : ByteArray) (hs : s.size ≤ 1048576) (w : World) (hr : RefR w B key) :
    Calls Tryd.prog 38 #[.pointer (some ⟨B, 0, none⟩), .string s] w fun e w' => e = .returned (.string (realH s)) ∧ Below w.heap.size w w' := by
  have h := Sm.rsum_any s (by omega) w
  rw [show Sm.shaS (Sm.numsOf s) = realH s from rfl] at h
  have c : w.cell? ⟨B, 0, none⟩ = some (.bool false) := Row.cell hr 0
  generalize realH s = x at *
  clear hs hr
  go_enter Tryd.func38, Tryd.ntmps38
  go_wp2_with fail
  refine h.mono ?_
  rintro e w1 ⟨rfl, hb⟩
  have HB : Hid _ := hb
  clear h c hb
  go_wp2
  go_ret
  exact ⟨rfl, HB.out⟩
theorem realRV (B : Nat) (key : ByteArray) : RV (fun w => RefR w B key) realH B := ⟨fun h hb => h.keep hb, fun s hs w hr => trhash_any B key s hs w hr⟩
def realK : HK ByteArray := ⟨fun w F _ B key => (∃ N, Row w B 84 [.iface 78 (.pointer (some ⟨N, 0, none⟩))] ∧ Row w N 80 [.string key] ∧ F B ∧ F N) ∧ TabT w ∧ F 0 ∧ F 1, fun _ x => realH x, fun _ _ => True, fun _ => 0⟩
theorem some_block {w : World} {k : Nat} (h : k < w.heap.size) : ∃ o, w.heap[k]? = some o := ⟨_, Array.getElem?_eq_getElem h⟩
theorem realK_keep {w w' : World} {F G : Nat → Prop} {B : Nat} {key : ByteArray} (v : realK.V w F G B key) (hk : ∀ k, k < w.heap.size → F k → w'.heap[k]? = w.heap[k]?) : realK.V w' F G B key := by
  obtain ⟨⟨N, r1, r2, fB, fN⟩, ⟨t1, t2⟩, f0, f1⟩ := v
  have e0 := hk 0 t1.1 f0
  have e1 := hk 1 t2.1 f1
  obtain ⟨o0, ho0⟩ := some_block t1.1
  obtain ⟨o1, ho1⟩ := some_block t2.1
  exact ⟨⟨N, (hk B (Row.lt r1) fB).trans r1, (hk N (Row.lt r2) fN).trans r2, fB, fN⟩, ⟨⟨lt_of_block (e0.trans ho0), fun i hi => (World.cell?_of_block (a := ⟨0, i, none⟩) e0).trans (t1.2 i hi)⟩, ⟨lt_of_block (e1.trans ho1), fun i hi => (World.cell?_of_block (a := ⟨1, i, none⟩) e1).trans (t2.2 i hi)⟩⟩, f0, f1⟩
theorem realOk : HKOk realK where
  keep := realK_keep
  call := fun w F G B S x hx _ v => by
    have v' := v
    obtain ⟨⟨N, r1, r2, fB, fN⟩, ht, f0, f1⟩ := v
    refine (thash_any B S x hx w ht ⟨N, r1, r2⟩).mono fun e w' ⟨he, hb⟩ => ?_
    exact ⟨S, he, realK_keep v' fun k hk _ => hb.block k hk, Touch.of_below hb, HK.ext_refl _ _, trivial, Nat.zero_le _⟩
  size := fun _ x _ _ => realH_size x
set_option maxHeartbeats 1000000 in
/-- The laws' two vaults. -/
theorem treal_any (w : World) (ht : TabT w) : Calls Tryd.prog 8 #[] w fun e w' => (∃ B1 B2 key, e = .returned (.tuple #[.pointer (some ⟨B1, 0, none⟩), .pointer (some ⟨B2, 0, none⟩)]) ∧ RealV w' B1 key ∧ RefR w' B2 key) ∧ Below w.heap.size w w' := by
  have h1 := real_yes (pass := ⟨#[112]⟩) (salt := ⟨#[115]⟩) (rounds := 1) w (Sm.Stretch_in ⟨#[112]⟩ ⟨#[115]⟩ 1 32 (by decide) (by decide) (by decide) (by decide) (by decide) w ht.1 ht.2)
  have h2 := fun w' => rreal_yes (pass := ⟨#[112]⟩) (salt := ⟨#[115]⟩) (rounds := 1) w' (Sm.rStretch_in ⟨#[112]⟩ ⟨#[115]⟩ 1 32 (by decide) (by decide) (by decide) (by decide) (by decide) w')
  generalize Sm.strS ⟨#[112]⟩ ⟨#[115]⟩ 1 32 = X at *
  clear ht
  go_enter Tryd.func8, Tryd.ntmps8
  go_wp2_with fail
  refine h1.mono ?_
  rintro e w1 ⟨B1, rfl, hv1, hb1⟩
  clear h1
  have HV : Hid (RealV w1 B1 X ∧ Below w.heap.size w w1) := ⟨hv1, hb1⟩
  clear hv1 hb1
  go_wp2_with fail
  refine (h2 _).mono ?_
  rintro e w2 ⟨B2, rfl, hv2, hb2⟩
  clear h2
  have HF : Hid (RealV w2 B1 X ∧ RefR w2 B2 X ∧ Below w.heap.size w w2) := ⟨HV.out.1.below hb2, hv2, HV.out.2.trans (hb2.mono HV.out.2.size)⟩
  clear hv2 hb2 HV
  go_wp2
  go_ret2
  exact ⟨⟨B1, B2, X, rfl, HF.out.1, HF.out.2.1⟩, HF.out.2.2⟩
end Go.Proofs.YtgfhaadcajlifaaDoor

namespace Go.Proofs.YtgfhaadcajlifaaDoor
set_option maxRecDepth 20000
open Go.RowKit

set_option maxHeartbeats 4000000 in
theorem walk_treeRoots (v : Value) (l0 : List ByteArray) (w : World) (hf : Sm.First w) (hq : Sm.Cubes w) (hv : StrsV w v l0) :
    Calls Tryd.prog 3 #[v] w fun e w' => e = .returned (.bool true) ∧ Below w.heap.size w w' := by
  have hs1 := some_any v l0 40 (by decide) w hv
  obtain ⟨l, hA⟩ : ∃ l, l = someL l0 40 := ⟨_, rfl⟩
  have hal : l.length ≤ 40 := by rw [hA, someL_length]; omega
  have haz : ∀ x, x ∈ l → x.size ≤ 1000 := fun x hx => by rw [hA] at hx; have := someL_size l0 40 x hx; omega
  have HAZ : Hid (∀ x, x ∈ l → x.size ≤ 1000) := haz
  have HT : Hid (TabT w) := ⟨hf, hq⟩
  rw [← hA] at hs1
  clear hv hA hf hq haz
  go_enter Tryd.func3, Tryd.ntmps3
  go_wp2_with fail
  refine hs1.mono ?_
  rintro e w1 ⟨⟨va1, rfl, ho1⟩, hb1⟩
  obtain ⟨oa, ca, rfl⟩ := OwnL.form ho1
  have hrl := treal_any w1 (HT.out.below hb1)
  clear hs1
  go_wp2_with fail
  refine hrl.mono ?_
  rintro e w2 ⟨⟨B1, B2, key, rfl, hv1, hv2⟩, hb2⟩
  have hB2 : Below w.heap.size w w2 := hb1.trans (hb2.mono hb1.size)
  have oA : OwnL w2 w.heap.size (.slice oa l.length ca) l := OwnL.keep ho1 fun k _ hk _ => hb2.block k hk
  have hk2 : realK.V w2 (fun k => k < w2.heap.size) (fun _ => False) B1 key := by
    obtain ⟨N, r1, r2⟩ := hv1
    have ht2 := HT.out.below hB2
    exact ⟨⟨N, r1, r2, Row.lt r1, Row.lt r2⟩, ht2, ht2.1.1, ht2.2.1⟩
  have hnw := new_on realOk (w0 := w) (w := w2) (F := fun k => k < w2.heap.size) (G := fun _ => False) (B := B1) (S := key) oa ca l (oA.lv fun k hk hg => hg) (by omega) HAZ.out (Nat.zero_le _) (fun k hk => hk) (fun k hk => hk.elim) hk2 hB2
  have HR2 : Hid (RefR w2 B2 key ∧ OwnL w2 w.heap.size (.slice oa l.length ca) l) := ⟨hv2, oA⟩
  clear hrl hv1 hv2 hb1 hb2 ho1 oA hk2 hB2
  obtain ⟨n, hn⟩ : ∃ n, n = l.length := ⟨_, rfl⟩
  have HN : Hid (n = l.length) := hn
  rw [← hn] at hal hnw ⊢
  clear hn
  go_wp2_with fail
  refine hnw.mono ?_
  rintro e w3 ⟨S3, T, rfl, on3, t3, _, _⟩
  have hb3 : Below w2.heap.size w2 w3 := t3.below (Nat.le_refl _) fun k hk => hk.elim
  have hrt := root_on realOk on3 (by rw [← HN.out]; omega) (Nat.zero_le _)
  have HR3 : Hid (RefR w3 B2 key ∧ OwnL w3 w.heap.size (.slice oa l.length ca) l) := ⟨HR2.out.1.keep hb3, OwnL.keep HR2.out.2 fun k _ hk _ => hb3.block k hk⟩
  clear hnw t3 on3 hb3 HR2
  generalize (fun k => w2.heap.size ≤ k ∧ k < w3.heap.size) = H at *
  generalize (fun k => k < w2.heap.size) = F at *
  go_wp2_with fail
  refine hrt.mono ?_
  rintro e w4 ⟨S4, rfl, on4, t4, _, _, _⟩
  have hb4 : Below w3.heap.size w3 w4 := t4.below (Nat.le_refl _) fun k hk => hk.elim
  have r4 : RefR w4 B2 key := HR3.out.1.keep hb4
  have oA4 : OwnL w4 w.heap.size (.slice oa l.length ca) l := OwnL.keep HR3.out.2 fun k _ hk _ => hb4.block k hk
  have hrr := rroot_any (realRV B2 key) realH_size w4 oa ca l (oA4.lv fun k hk hg => hg) (by rw [← HN.out]; omega) HAZ.out r4
  have hcm := cmp_is (realH (rootT l.length (topS realH l))) (realH (rootT l.length (topS realH l)))
  rw [decide_eq_true rfl] at hcm
  have ht4 : realK.h S4 (rootT l.length (topS (realK.h S4) l)) = realH (rootT l.length (topS realH l)) := rfl
  rw [ht4]
  rw [← HN.out] at hrr hcm ⊢
  generalize realH (rootT n (topS realH l)) = Y at *
  have HON4 : Hid (TrOn realK w w4 F (fun _ => False) H B1 T S4 l) := on4
  clear hrt t4 hb4 on4 oA4 r4 HR3 ht4
  go_wp2_with fail
  refine hrr.mono ?_
  rintro e w5 ⟨rfl, hb5⟩
  have on5 := HON4.out.beneath realOk hb5
  have hct := count_on on5
  have HB5 : Hid (Below w.heap.size w w5) := on5.below
  rw [← HN.out] at hct
  clear hrr on5 hb5 HON4
  go_wp2_with fail
  refine hct.mono ?_
  rintro e w6 ⟨rfl, rfl⟩
  clear hct
  go_wp2_with fail
  refine (tawake_any _).mono ?_
  rintro e w8 ⟨rfl, hb8⟩
  have HF : Hid (Below w.heap.size w w8) := HB5.out.trans (hb8.mono HB5.out.size)
  clear hb8
  go_wp2
  go_ret
  exact ⟨rfl, HF.out⟩
end Go.Proofs.YtgfhaadcajlifaaDoor

namespace Go.Proofs.YtgfhaadcajlifaaDoor.Sm
set_option maxRecDepth 20000
open Go.RowKit

def firstZ : List Int := [1779033703, 3144134277, 1013904242, 2773480762, 1359893119, 2600822924, 528734635, 1541459225]
def cubesZ : List Int := [1116352408, 1899447441, 3049323471, 3921009573, 961987163, 1508970993, 2453635748, 2870763221, 3624381080, 310598401, 607225278, 1426881987, 1925078388, 2162078206, 2614888103, 3248222580, 3835390401, 4022224774, 264347078, 604807628, 770255983, 1249150122, 1555081692, 1996064986, 2554220882, 2821834349, 2952996808, 3210313671, 3336571891, 3584528711, 113926993, 338241895, 666307205, 773529912, 1294757372, 1396182291, 1695183700, 1986661051, 2177026350, 2456956037, 2730485921, 2820302411, 3259730800, 3345764771, 3516065817, 3600352804, 4094571909, 275423344, 430227734, 506948616, 659060556, 883997877, 958139571, 1322822218, 1537002063, 1747873779, 1955562222, 2024104815, 2227730452, 2361852424, 2428436474, 2756734187, 3204031479, 3329325298]
theorem firstZ_at (i : Nat) (h : i < 8) : firstZ.getD i 0 = ((st0.at i : Nat) : Int) := by
  have all : ∀ j : Fin 8, firstZ.getD j.val 0 = ((st0.at j.val : Nat) : Int) := by decide
  exact all ⟨i, h⟩
theorem cubesZ_at (i : Nat) (h : i < 64) : cubesZ.getD i 0 = ((keyN i : Nat) : Int) := by
  have all : ∀ j : Fin 64, cubesZ.getD j.val 0 = ((keyN j.val : Nat) : Int) := by decide +kernel
  exact all ⟨i, h⟩
theorem lt_of_cell {w : World} {g i : Nat} {v : Value} (h : w.cell? ⟨g, i, none⟩ = some v) : g < w.heap.size := by
  rcases Nat.lt_or_ge g w.heap.size with h' | h'
  · exact h'
  · simp [World.cell?, Array.getElem?_eq_none h'] at h
theorem tables_of_laid {W : World} (h : laidMet Tryd.prog [("grapnel/sum.first", Lib.tabData .u32 firstZ), ("grapnel/sum.cubes", Lib.tabData .u32 cubesZ)] W) : First W ∧ Cubes W := by
  have g0 : Tryd.prog.globalNamed "grapnel/sum.first" = some 0 := by kernel_rfl
  have g1 : Tryd.prog.globalNamed "grapnel/sum.cubes" = some 1 := by kernel_rfl
  have y1 : (Tryd.prog.globals[1]?).map (·.type) = some 153 := by kernel_rfl
  have T0 := Lib.tabIs_of_head g0 (show (Tryd.prog.globals[0]?).map (·.type) = some 99 by kernel_rfl) Tryd.underlying99 Tryd.underlying97 (by kernel_rfl) (by kernel_rfl) h
  have T1 : Lib.TabIs Tryd.prog W "grapnel/sum.cubes" .u32 cubesZ := by
    obtain ⟨ps, ⟨_, _, _, _, _, _, _, _, _, _, ⟨g', t', cs, fuel, p, q, hg', ht', hvar, hd, _, _⟩, _⟩, _⟩ := h
    obtain rfl := Option.some.inj (g1.symm.trans hg')
    obtain rfl := Option.some.inj (y1.symm.trans ht')
    unfold Lib.TabIs
    rw [hvar, ← Lib.cells_of_tab Tryd.underlying153 Tryd.underlying97 (by kernel_rfl) (by kernel_rfl) hd]
  have c0 : ∀ i, i < 8 → W.cell? ⟨0, i, none⟩ = some (.int .u32 (st0.at i : Nat)) := fun i hi => by rw [T0.cell g0 i hi, firstZ_at i hi]
  have c1 : ∀ i, i < 64 → W.cell? ⟨1, i, none⟩ = some (.int .u32 (keyN i : Nat)) := fun i hi => by rw [T1.cell g1 i hi, cubesZ_at i hi]
  exact ⟨⟨lt_of_cell (c0 0 (by decide)), c0⟩, ⟨lt_of_cell (c1 0 (by decide)), c1⟩⟩
end Go.Proofs.YtgfhaadcajlifaaDoor.Sm
