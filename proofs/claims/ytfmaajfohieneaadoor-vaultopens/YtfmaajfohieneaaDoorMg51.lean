/- What box.Seal and box.Open tell, and the errors. · The law BoxBack, called with any texts, returns true, and changes nothing that was there. · What sum and box tell, of this program. · Where the row's two tables read as they are laid, the first state and the numbers k stand where the program has them. -/
import Derived.Test.YtfmaajfohieneaaDoorBxBoxSeal
import Derived.Test.YtfmaajfohieneaaDoorMg11
import Derived.Test.YtfmaajfohieneaaDoorSmStretchAll
import Derived.Test.YtfmaajfohieneaaDoorMg33
import Derived.Test.YtfmaajfohieneaaDoorMg24
import Derived.Test.YtfmaajfohieneaaDoorMg48
import Derived.Lib.LaidTab
namespace Go.Proofs.YtfmaajfohieneaaDoor.Bx
set_option maxRecDepth 20000
open Go.RowKit

/-- What Seal and Open tell, and the errors. -/
def fitP (key nonce : ByteArray) : Prop := key.size = 32 ∧ nonce.size = 12
instance (key nonce : ByteArray) : Decidable (fitP key nonce) := inferInstanceAs (Decidable (_ ∧ _))
def sealS (key nonce ad s : ByteArray) : ByteArray := if fitP key nonce then strN (sealC key nonce s ++ sealG key nonce ad (sealC key nonce s)) else ⟨#[]⟩
def sealE (key nonce : ByteArray) : Nat := if fitP key nonce then 0 else 1
def openE (key nonce ad s : ByteArray) : Nat := if fitP key nonce then if s.size < 16 then 3 else if openB key nonce ad s then 0 else 10 else 1
def openS (key nonce ad s : ByteArray) : ByteArray := if openE key nonce ad s = 0 then strN (chaS (numsOf key) (numsOf nonce) 1 (numsOf (openC s))) else ⟨#[]⟩

theorem Seal_any (key nonce ad s : ByteArray) (had : ad.size ≤ 1048576) (hs : s.size ≤ 1048576) (w : World) :
    Calls Tryd.prog 59 #[.string key, .string nonce, .string ad, .string s] w fun e w' => e = .returned (.tuple #[.string (sealS key nonce ad s), .int .i64 (sealE key nonce : Nat)]) ∧ Below w.heap.size w w' := by
  unfold sealS sealE
  by_cases h : fitP key nonce
  · rw [if_pos h, if_pos h]
    exact Seal_ok key nonce ad s h.1 h.2 had hs w
  · rw [if_neg h, if_neg h]
    refine (Seal_bad key nonce ad s h w).mono ?_
    rintro e w' ⟨rfl, rfl⟩
    exact ⟨rfl, Below.refl _ _⟩
theorem Open_any (key nonce ad s : ByteArray) (had : ad.size ≤ 1048576) (hs : s.size ≤ 1048576) (w : World) :
    Calls Tryd.prog 57 #[.string key, .string nonce, .string ad, .string s] w fun e w' => e = .returned (.tuple #[.string (openS key nonce ad s), .int .i64 (openE key nonce ad s : Nat)]) ∧ Below w.heap.size w w' := by
  by_cases h : fitP key nonce
  · by_cases h16 : s.size < 16
    · have e1 : openE key nonce ad s = 3 := by unfold openE; rw [if_pos h, if_pos h16]
      have e2 : openS key nonce ad s = ⟨#[]⟩ := by unfold openS; rw [e1]; rfl
      rw [e1, e2]
      refine (Open_short key nonce ad s h.1 h.2 h16 w).mono ?_
      rintro e w' ⟨rfl, rfl⟩
      exact ⟨rfl, Below.refl _ _⟩
    · have ho := Open_long key nonce ad s h.1 h.2 had hs (by omega) w
      by_cases hB : openB key nonce ad s
      · have e1 : openE key nonce ad s = 0 := by unfold openE; rw [if_pos h, if_neg h16, if_pos hB]
        have e2 : openS key nonce ad s = strN (chaS (numsOf key) (numsOf nonce) 1 (numsOf (openC s))) := by unfold openS; rw [if_pos e1]
        rw [if_pos hB] at ho
        rw [e1, e2]
        exact ho
      · have e1 : openE key nonce ad s = 10 := by unfold openE; rw [if_pos h, if_neg h16, if_neg hB]
        have e2 : openS key nonce ad s = ⟨#[]⟩ := by unfold openS; rw [e1]; rfl
        rw [if_neg hB] at ho
        rw [e1, e2]
        exact ho
  · have e1 : openE key nonce ad s = 1 := by unfold openE; rw [if_neg h]
    have e2 : openS key nonce ad s = ⟨#[]⟩ := by unfold openS; rw [e1]; rfl
    rw [e1, e2]
    refine (Open_bad key nonce ad s h w).mono ?_
    rintro e w' ⟨rfl, rfl⟩
    exact ⟨rfl, Below.refl _ _⟩

end Go.Proofs.YtfmaajfohieneaaDoor.Bx

namespace Go.Proofs.YtfmaajfohieneaaDoor.Bx
set_option maxRecDepth 20000
open Go.RowKit

theorem back_math (key nonce ad s : ByteArray) :
    (strN (sealC key nonce s ++ sealG key nonce ad (sealC key nonce s))).size = s.size + 16 ∧ openB key nonce ad (strN (sealC key nonce s ++ sealG key nonce ad (sealC key nonce s))) ∧
    strN (chaS (numsOf key) (numsOf nonce) 1 (numsOf (openC (strN (sealC key nonce s ++ sealG key nonce ad (sealC key nonce s)))))) = s := by
  have hcb : Bytes (sealC key nonce s) := chaS_bytes _ _ _ _ (numsOf_bytes s)
  have hcl : (sealC key nonce s).length = s.size := by rw [sealC, chaS_length, numsOf_length]
  have hgl : ∀ c, (sealG key nonce ad c).length = 16 := fun c => polyT_length _ _
  have hgb : ∀ c, Bytes (sealG key nonce ad c) := fun c => polyT_bytes _ _
  have hsz : (strN (sealC key nonce s ++ sealG key nonce ad (sealC key nonce s))).size = s.size + 16 := by rw [strN_size, List.length_append, hcl, hgl]
  have hnum : numsOf (strN (sealC key nonce s ++ sealG key nonce ad (sealC key nonce s))) = sealC key nonce s ++ sealG key nonce ad (sealC key nonce s) := numsOf_strN _ (hcb.append (hgb _))
  have hoc : numsOf (openC (strN (sealC key nonce s ++ sealG key nonce ad (sealC key nonce s)))) = sealC key nonce s := by
    rw [openC, numsOf_extract, hnum, hsz, List.drop_zero, show s.size + 16 - 16 - 0 = (sealC key nonce s).length by omega, List.take_left]
  have hog : numsOf (openG (strN (sealC key nonce s ++ sealG key nonce ad (sealC key nonce s)))) = sealG key nonce ad (sealC key nonce s) := by
    rw [openG, numsOf_extract, hnum, hsz, show s.size + 16 - 16 = (sealC key nonce s).length by omega, List.drop_left, List.take_of_length_le (by rw [hgl]; omega)]
  refine ⟨hsz, ?_, ?_⟩
  · unfold openB
    rw [hoc]
    exact (strN_numsOf _).symm.trans (congrArg strN hog)
  · rw [hoc, sealC, chaS_twice, strN_numsOf]

end Go.Proofs.YtfmaajfohieneaaDoor.Bx

namespace Go.Proofs.YtfmaajfohieneaaDoor
set_option maxRecDepth 20000
open Go.RowKit

def realF : PF := ⟨fun s => Sm.shaS (Sm.numsOf s), Sm.macS, fun k i => Sm.expS k i 32, Bx.sealS, fun k n => (Bx.sealE k n : Nat), Bx.openS, fun k n a s => (Bx.openE k n a s : Nat)⟩
def TabR (w : World) : Prop := Sm.First w ∧ Sm.Cubes w
theorem macS_size (k s : ByteArray) : (Sm.macS k s).size = 32 := by
  unfold Sm.macS
  rw [strOfNums_size, List.length_map, Sm.macL_length]
theorem expS_size (k i : ByteArray) : (Sm.expS k i 32).size = 32 := by
  unfold Sm.expS Sm.expL
  rw [strOfNums_size, List.length_map, List.length_take, Sm.catD_length _ (fun j => Sm.expT_length _ _ j)]
  decide
theorem strS_size (p s : ByteArray) (r : Nat) : (Sm.strS p s r 32).size = 32 := by
  unfold Sm.strS
  rw [strOfNums_size, List.length_map, List.length_take, Sm.catD_length _ (fun j => Sm.strB_length _ _ _ _)]
  decide
theorem prims : Prims TabR realF where
  tab h hb := ⟨h.1.below hb h.1.1, h.2.below hb h.2.1⟩
  sum s hs w ht := Sm.sum_any s (by omega) w ht.1 ht.2
  mac k s hk hs w ht := Sm.Mac_any k s (by omega) (by omega) w ht.1 ht.2
  macz := macS_size
  exp k i hk hi w ht := Sm.Expand_in k i 32 (by decide) (by omega) hi w ht.1 ht.2
  expz := expS_size
  shut k n a s ha hs w := Bx.Seal_any k n a s ha hs w
  opn k n a s ha hs w := Bx.Open_any k n a s ha hs w
  same a b ha w := Bx.same_any a b ha w
theorem backs : Backs realF where
  back k n a s hk hn ha hs := by
    obtain ⟨h1, h2, h3⟩ := Bx.back_math k n a s
    have hf : Bx.fitP k n := ⟨hk, hn⟩
    have e0 : Bx.sealS k n a s = Bx.strN (Bx.sealC k n s ++ Bx.sealG k n a (Bx.sealC k n s)) := by unfold Bx.sealS; rw [if_pos hf]
    have e1 : Bx.sealE k n = 0 := by unfold Bx.sealE; rw [if_pos hf]
    have e2 : Bx.openE k n a (Bx.sealS k n a s) = 0 := by unfold Bx.openE; rw [if_pos hf, e0, if_neg (by omega), if_pos h2]
    have e3 : Bx.openS k n a (Bx.sealS k n a s) = s := by unfold Bx.openS; rw [if_pos e2, e0, h3]
    refine ⟨?_, ?_, e3, ?_, ?_⟩
    · show ((Bx.sealE k n : Nat) : Int) = 0
      rw [e1]; rfl
    · show ((Bx.openE k n a (Bx.sealS k n a s) : Nat) : Int) = 0
      rw [e2]; rfl
    · show 16 ≤ (Bx.sealS k n a s).size
      rw [e0, h1]; omega
    · show (Bx.sealS k n a s).size ≤ _
      rw [e0, h1]; omega
theorem stretch2 (pass : ByteArray) (hp : pass.size ≤ 100) : ∃ X : ByteArray, X.size = 32 ∧ ∀ w, TabR w → Calls Tryd.prog 11 #[.string pass, .string ⟨#[115, 97, 108, 116]⟩, .int .i64 2, .int .i64 32] w fun e w' => e = .returned (.tuple #[.string X, .int .i64 0]) ∧ Below w.heap.size w w' :=
  ⟨Sm.strS pass ⟨#[115, 97, 108, 116]⟩ 2 32, strS_size _ _ _, fun w ht => Sm.Stretch_in pass ⟨#[115, 97, 108, 116]⟩ 2 32 (by decide) (by decide) (by decide) (by omega) (by decide) w ht.1 ht.2⟩
theorem walk_vaultOpens (pass : ByteArray) (z : Int) (ad s other : ByteArray) (ho : other.size ≤ maxLen) (w : World) (hf : Sm.First w) (hq : Sm.Cubes w) :
    Calls Tryd.prog 3 #[.string pass, .int .i64 z, .string ad, .string s, .string other] w fun e w' => e = .returned (.bool true) ∧ Below w.heap.size w w' :=
  walk_vaultOpens_gen prims backs stretch2 pass z ad s other ho w ⟨hf, hq⟩
end Go.Proofs.YtfmaajfohieneaaDoor

namespace Go.Proofs.YtfmaajfohieneaaDoor.Sm
set_option maxRecDepth 20000
open Go.RowKit

def firstZ : List Int := [1779033703, 3144134277, 1013904242, 2773480762, 1359893119, 2600822924, 528734635, 1541459225]
def cubesZ : List Int := [1116352408, 1899447441, 3049323471, 3921009573, 961987163, 1508970993, 2453635748, 2870763221, 3624381080, 310598401, 607225278, 1426881987, 1925078388, 2162078206, 2614888103, 3248222580, 3835390401, 4022224774, 264347078, 604807628, 770255983, 1249150122, 1555081692, 1996064986, 2554220882, 2821834349, 2952996808, 3210313671, 3336571891, 3584528711, 113926993, 338241895, 666307205, 773529912, 1294757372, 1396182291, 1695183700, 1986661051, 2177026350, 2456956037, 2730485921, 2820302411, 3259730800, 3345764771, 3516065817, 3600352804, 4094571909, 275423344, 430227734, 506948616, 659060556, 883997877, 958139571, 1322822218, 1537002063, 1747873779, 1955562222, 2024104815, 2227730452, 2361852424, 2428436474, 2756734187, 3204031479, 3329325298]
theorem firstZ_at (i : Nat) (h : i < 8) : firstZ.getD i 0 = ((st0.at i : Nat) : Int) := by
  have all : ∀ j : Fin 8, firstZ.getD j.val 0 = ((st0.at j.val : Nat) : Int) := by decide
  exact all ⟨i, h⟩
theorem cubesZ_at (i : Nat) (h : i < 64) : cubesZ.getD i 0 = ((keyN i : Nat) : Int) := by
  have all : ∀ j : Fin 64, cubesZ.getD j.val 0 = ((keyN j.val : Nat) : Int) := by decide +kernel
  exact all ⟨i, h⟩
theorem lt_of_cell {w : World} {g i : Nat} {v : Value} (h : w.cell? ⟨g, i, none⟩ = some v) : g < w.heap.size := by
  rcases Nat.lt_or_ge g w.heap.size with h' | h'
  · exact h'
  · simp [World.cell?, Array.getElem?_eq_none h'] at h
theorem tables_of_laid {W : World} (h : laidMet Tryd.prog [("grapnel/sum.first", Lib.tabData .u32 firstZ), ("grapnel/sum.cubes", Lib.tabData .u32 cubesZ)] W) : First W ∧ Cubes W := by
  have g0 : Tryd.prog.globalNamed "grapnel/sum.first" = some 0 := by kernel_rfl
  have g1 : Tryd.prog.globalNamed "grapnel/sum.cubes" = some 1 := by kernel_rfl
  have y1 : (Tryd.prog.globals[1]?).map (·.type) = some 80 := by kernel_rfl
  have T0 := Lib.tabIs_of_head g0 (show (Tryd.prog.globals[0]?).map (·.type) = some 46 by kernel_rfl) Tryd.underlying46 Tryd.underlying44 (by kernel_rfl) (by kernel_rfl) h
  have T1 : Lib.TabIs Tryd.prog W "grapnel/sum.cubes" .u32 cubesZ := by
    obtain ⟨ps, ⟨_, _, _, _, _, _, _, _, _, _, ⟨g', t', cs, fuel, p, q, hg', ht', hvar, hd, _, _⟩, _⟩, _⟩ := h
    obtain rfl := Option.some.inj (g1.symm.trans hg')
    obtain rfl := Option.some.inj (y1.symm.trans ht')
    unfold Lib.TabIs
    rw [hvar, ← Lib.cells_of_tab Tryd.underlying80 Tryd.underlying44 (by kernel_rfl) (by kernel_rfl) hd]
  have c0 : ∀ i, i < 8 → W.cell? ⟨0, i, none⟩ = some (.int .u32 (st0.at i : Nat)) := fun i hi => by rw [T0.cell g0 i hi, firstZ_at i hi]
  have c1 : ∀ i, i < 64 → W.cell? ⟨1, i, none⟩ = some (.int .u32 (keyN i : Nat)) := fun i hi => by rw [T1.cell g1 i hi, cubesZ_at i hi]
  exact ⟨⟨lt_of_cell (c0 0 (by decide)), c0⟩, ⟨lt_of_cell (c1 0 (by decide)), c1⟩⟩
end Go.Proofs.YtfmaajfohieneaaDoor.Sm
