/- The document's Seal and Open; what both sides tell. · What the document's sum and box tell: the same. · Where the row's two tables read as they are laid, the first state and the numbers k stand where the program has them. -/
import Derived.Test.YtfmaajfohieneaaGreatDoorMg50
import Derived.Test.YtfmaajfohieneaaGreatDoorMg31
import Derived.Test.YtfmaajfohieneaaGreatDoorMg35
import Derived.Test.YtfmaajfohieneaaGreatDoorSmRefSum
import Derived.Test.YtfmaajfohieneaaGreatDoorMg40
import Derived.Test.YtfmaajfohieneaaGreatDoorSmRefStretch
import Derived.Test.YtfmaajfohieneaaGreatDoorMg14
import Derived.Lib.LaidTab
namespace Go.Proofs.YtfmaajfohieneaaGreatDoor.Bx
set_option maxRecDepth 20000
open Go.RowKit

theorem strm_ok (key nonce s : ByteArray) (h : fitP key nonce) (hs : s.size ≤ 1048576) : strmE key nonce 1 s = 0 ∧ strmS key nonce 1 s = strN (chaS (numsOf key) (numsOf nonce) 1 (numsOf s)) := by
  have e1 : strmE key nonce 1 s = 0 := by
    unfold strmE
    rw [if_neg (fun hh => hh h), if_neg]
    unfold strmB
    omega
  refine ⟨e1, ?_⟩
  unfold strmS
  rw [if_pos e1]
  rfl
theorem strm_bad (key nonce s : ByteArray) (h : ¬ fitP key nonce) : strmE key nonce 1 s = 1 ∧ strmS key nonce 1 s = ⟨#[]⟩ := by
  have e1 : strmE key nonce 1 s = 1 := by
    unfold strmE
    exact if_pos h
  refine ⟨e1, ?_⟩
  unfold strmS
  rw [e1]
  rfl

set_option maxRecDepth 10000 in
set_option maxHeartbeats 1000000 in
theorem rSeal_ok (key nonce ad s : ByteArray) (h : fitP key nonce) (had : ad.size ≤ 1048576) (hs : s.size ≤ 1048576) (w : World) :
    Calls Tryz.prog 35 #[.string key, .string nonce, .string ad, .string s] w fun e w' => e = .returned (.tuple #[.string (strN (sealC key nonce s ++ sealG key nonce ad (sealC key nonce s))), .int .i64 0]) ∧ Below w.heap.size w w' := by
  have hSt := fun W => rStream_any key nonce s hs 1 W
  obtain ⟨e1, e2⟩ := strm_ok key nonce s h hs
  simp only [e1, e2] at hSt
  have hcb : Bytes (sealC key nonce s) := chaS_bytes _ _ _ _ (numsOf_bytes s)
  have hcl : (sealC key nonce s).length = s.size := by rw [sealC, chaS_length, numsOf_length]
  have hMk := fun W => rmark_any key nonce ad (strN (sealC key nonce s)) h.1 h.2 had (by rw [strN_size, hcl]; exact hs) W
  rw [numsOf_strN _ hcb] at hMk
  have hSt' : ∀ W, Calls Tryz.prog 51 #[.string key, .string nonce, .int .i64 1, .string s] W fun e w' => e = .returned (.tuple #[.string (strN (sealC key nonce s)), .int .i64 0]) ∧ Below W.heap.size W w' := hSt
  clear hSt
  have hgl : (sealG key nonce ad (sealC key nonce s)).length = 16 := polyT_length _ _
  rw [← strN_append]
  have hz1 : (strN (sealC key nonce s)).size = s.size := by rw [strN_size, hcl]
  have hz2 : (strN (sealG key nonce ad (sealC key nonce s))).size = 16 := by rw [strN_size, hgl]
  generalize strN (sealG key nonce ad (sealC key nonce s)) = G at *
  generalize strN (sealC key nonce s) = C at *
  obtain ⟨CG, hCG⟩ : ∃ CG, CG = C ++ G := ⟨_, rfl⟩
  have hadd : ∀ w', (Op.stringOp .add C G).run Tryz.prog w' = .ok (.string CG) w' := fun w' => by rw [hCG]; exact run_string_add_sum (P := Tryz.prog) (w := w') C G (by omega)
  rw [← hCG]
  clear hCG hcb hcl hgl e1 e2 h
  go_enter Tryz.func35, Tryz.ntmps35
  go_wp2_with fail
  refine (hSt' _).mono ?_
  rintro e w1 ⟨rfl, hb1⟩
  clear hSt'
  go_wp2_with fail
  refine (hMk _).mono ?_
  rintro e w2 ⟨rfl, hb2⟩
  have hb3 := hb1.trans (hb2.mono hb1.size)
  clear hMk hb1 hb2
  go_wp2
  go_ret2
  exact ⟨rfl, hb3⟩

set_option maxRecDepth 10000 in
set_option maxHeartbeats 1000000 in
theorem rSeal_bad (key nonce ad s : ByteArray) (h : ¬ fitP key nonce) (hs : s.size ≤ 1048576) (w : World) :
    Calls Tryz.prog 35 #[.string key, .string nonce, .string ad, .string s] w fun e w' => e = .returned (.tuple #[.string ⟨#[]⟩, .int .i64 1]) ∧ Below w.heap.size w w' := by
  have hSt := fun W => rStream_any key nonce s hs 1 W
  obtain ⟨e1, e2⟩ := strm_bad key nonce s h
  simp only [e1, e2] at hSt
  clear e1 e2 h
  go_enter Tryz.func35, Tryz.ntmps35
  go_wp2_with fail
  refine (hSt _).mono ?_
  rintro e w1 ⟨rfl, hb1⟩
  clear hSt
  go_wp2
  go_ret2
  exact ⟨rfl, hb1⟩
theorem rSeal_any (key nonce ad s : ByteArray) (had : ad.size ≤ 1048576) (hs : s.size ≤ 1048576) (w : World) :
    Calls Tryz.prog 35 #[.string key, .string nonce, .string ad, .string s] w fun e w' => e = .returned (.tuple #[.string (sealS key nonce ad s), .int .i64 (sealE key nonce : Nat)]) ∧ Below w.heap.size w w' := by
  unfold sealS sealE
  by_cases h : fitP key nonce
  · rw [if_pos h, if_pos h]
    exact rSeal_ok key nonce ad s h had hs w
  · rw [if_neg h, if_neg h]
    exact rSeal_bad key nonce ad s h hs w

set_option maxRecDepth 10000 in
set_option maxHeartbeats 1000000 in
theorem rOpen_bad (key nonce ad s : ByteArray) (h : ¬ fitP key nonce) (w : World) :
    Calls Tryz.prog 37 #[.string key, .string nonce, .string ad, .string s] w fun e w' => e = .returned (.tuple #[.string ⟨#[]⟩, .int .i64 1]) ∧ w' = w := by
  unfold fitP at h
  by_cases hk : key.size = 32
  · have hn : ((nonce.size : Int) != 12) = true := by simp; omega
    clear h
    go_enter Tryz.func37, Tryz.ntmps37
    go_wp2
    go_ret2
    exact ⟨rfl, rfl⟩
  · have hn : ((key.size : Int) != 32) = true := by simp; omega
    clear h hk
    go_enter Tryz.func37, Tryz.ntmps37
    go_wp2
    go_ret2
    exact ⟨rfl, rfl⟩

set_option maxRecDepth 10000 in
set_option maxHeartbeats 1000000 in
theorem rOpen_short (key nonce ad s : ByteArray) (hk : key.size = 32) (hn : nonce.size = 12) (hs : s.size < 16) (w : World) :
    Calls Tryz.prog 37 #[.string key, .string nonce, .string ad, .string s] w fun e w' => e = .returned (.tuple #[.string ⟨#[]⟩, .int .i64 3]) ∧ w' = w := by
  have h1 : (s.size : Int) < 16 := by omega
  go_enter Tryz.func37, Tryz.ntmps37
  go_wp2
  go_ret2
  exact ⟨rfl, rfl⟩

set_option maxRecDepth 10000 in
set_option maxHeartbeats 1000000 in
theorem rOpen_long (key nonce ad s : ByteArray) (hk : key.size = 32) (hn : nonce.size = 12) (had : ad.size ≤ 1048576) (hs : s.size ≤ 1048576) (h16 : 16 ≤ s.size) (w : World) :
    Calls Tryz.prog 37 #[.string key, .string nonce, .string ad, .string s] w fun e w' => e = .returned (if openB key nonce ad s then .tuple #[.string (strN (chaS (numsOf key) (numsOf nonce) 1 (numsOf (openC s)))), .int .i64 0] else .tuple #[.string ⟨#[]⟩, .int .i64 10]) ∧ Below w.heap.size w w' := by
  have hcs : (openC s).size = s.size - 16 := by unfold openC; simp
  have hSt := fun W => rStream_any key nonce (openC s) (by omega) 1 W
  obtain ⟨e1, e2⟩ := strm_ok key nonce (openC s) ⟨hk, hn⟩ (by omega)
  simp only [e1, e2] at hSt
  have hMk := fun W => rmark_any key nonce ad (openC s) hk hn had (by omega) W
  have v1 : IntKind.i64.wrap ((s.size : Int) - 16) = ((s.size - 16 : Nat) : Int) := by rw [IntKind.wrap_i64]; omega
  have x1 : s.extract 0 (s.size - 16) = openC s := rfl
  have x2 : s.extract (s.size - 16) s.size = openG s := rfl
  have hBB : openB key nonce ad s ↔ openG s = strN (sealG key nonce ad (numsOf (openC s))) := Iff.rfl
  generalize strN (sealG key nonce ad (numsOf (openC s))) = T at *
  generalize strN (chaS (numsOf key) (numsOf nonce) 1 (numsOf (openC s))) = U at *
  have hlt : ¬ (s.size : Int) < 16 := by omega
  obtain ⟨m, hm⟩ : ∃ m, m = s.size - 16 := ⟨_, rfl⟩
  rw [← hm] at v1 x1 x2 hcs
  have v2 : (s.size : Int) - 16 = m := by omega
  have v3 : IntKind.i64.wrap (m : Int) = m := by rw [IntKind.wrap_i64]; omega
  have i1 : (m : Int) ≤ s.size := by omega
  generalize openC s = C at *
  generalize openG s = G at *
  clear hm e1 e2
  by_cases hB : openB key nonce ad s
  · rw [if_pos hB]
    obtain rfl : G = T := hBB.1 hB
    clear hB hBB
    go_enter Tryz.func37, Tryz.ntmps37
    go_wp2_with fail
    go_region_held3 (fun _ => True) (exact trivial) (first | (go_at_call 52; refine (hMk _).mono ?_; rintro e wA ⟨rfl, hbA⟩; have hb := (Below.refl w.heap.size w).drew.trans hbA))
    clear hMk
    go_wp2_with fail
    refine (hSt _).mono ?_
    rintro e w5 ⟨rfl, hb7⟩
    have hb8 := hb.trans (hb7.mono hb.size)
    clear hb hb7 hSt
    go_wp2
    go_ret2
    exact ⟨rfl, hb8⟩
  · rw [if_neg hB]
    have hGT : ¬ T = G := fun hh => hB (hBB.2 hh.symm)
    have hGT2 : (T.toList == G.toList) = false := by
      rw [ByteArray.toList_eq, ByteArray.toList_eq]
      apply beq_false_of_ne
      exact fun hh => hGT (ByteArray.ext (Array.toList_inj.1 hh))
    clear hB hBB hSt
    go_enter Tryz.func37, Tryz.ntmps37
    go_wp2_with fail
    go_region_held3 (fun _ => True) (exact trivial) (first | (go_at_call 52; refine (hMk _).mono ?_; rintro e wA ⟨rfl, hbA⟩; have hb := (Below.refl w.heap.size w).drew.trans hbA))
    clear hMk
    go_wp2
    go_ret2
    exact ⟨rfl, hb⟩

theorem rOpen_any (key nonce ad s : ByteArray) (had : ad.size ≤ 1048576) (hs : s.size ≤ 1048576) (w : World) :
    Calls Tryz.prog 37 #[.string key, .string nonce, .string ad, .string s] w fun e w' => e = .returned (.tuple #[.string (openS key nonce ad s), .int .i64 (openE key nonce ad s : Nat)]) ∧ Below w.heap.size w w' := by
  by_cases h : fitP key nonce
  · by_cases h16 : s.size < 16
    · have e1 : openE key nonce ad s = 3 := by unfold openE; rw [if_pos h, if_pos h16]
      have e2 : openS key nonce ad s = ⟨#[]⟩ := by unfold openS; rw [e1]; rfl
      rw [e1, e2]
      refine (rOpen_short key nonce ad s h.1 h.2 h16 w).mono ?_
      rintro e w' ⟨rfl, rfl⟩
      exact ⟨rfl, Below.refl _ _⟩
    · have ho := rOpen_long key nonce ad s h.1 h.2 had hs (by omega) w
      by_cases hB : openB key nonce ad s
      · have e1 : openE key nonce ad s = 0 := by unfold openE; rw [if_pos h, if_neg h16, if_pos hB]
        have e2 : openS key nonce ad s = strN (chaS (numsOf key) (numsOf nonce) 1 (numsOf (openC s))) := by unfold openS; rw [if_pos e1]
        rw [if_pos hB] at ho
        rw [e1, e2]
        exact ho
      · have e1 : openE key nonce ad s = 10 := by unfold openE; rw [if_pos h, if_neg h16, if_neg hB]
        have e2 : openS key nonce ad s = ⟨#[]⟩ := by unfold openS; rw [e1]; rfl
        rw [if_neg hB] at ho
        rw [e1, e2]
        exact ho
  · have e1 : openE key nonce ad s = 1 := by unfold openE; rw [if_neg h]
    have e2 : openS key nonce ad s = ⟨#[]⟩ := by unfold openS; rw [e1]; rfl
    rw [e1, e2]
    refine (rOpen_bad key nonce ad s h w).mono ?_
    rintro e w' ⟨rfl, rfl⟩
    exact ⟨rfl, Below.refl _ _⟩
end Go.Proofs.YtfmaajfohieneaaGreatDoor.Bx

namespace Go.Proofs.YtfmaajfohieneaaGreatDoor
set_option maxRecDepth 20000
open Go.RowKit

theorem rprims : RPrims realF where
  sum s hs w := Sm.rsum_any s (by omega) w
  mac k s hk hs w := Sm.rMac_any k s (by omega) (by omega) w
  macz := macS_size
  exp k i hk hi w := Sm.rExpand_in k i 32 (by decide) (by omega) hi w
  expz := expS_size
  shut k n a s ha hs w := Bx.rSeal_any k n a s ha hs w
  opn k n a s ha hs w := Bx.rOpen_any k n a s ha hs w
theorem stretchR (pass salt : ByteArray) (rounds : Int) (hp : pass.size ≤ 100) (hs : salt.size ≤ 100) : ∃ (X : ByteArray) (c : Int), (c = 0 → X.size = 32) ∧ (∀ w, TabR w → Calls Tryz.prog 9 #[.string pass, .string salt, .int .i64 rounds, .int .i64 32] w fun e w' => e = .returned (.tuple #[.string X, .int .i64 c]) ∧ Below w.heap.size w w') ∧ ∀ w, Calls Tryz.prog 10 #[.string pass, .string salt, .int .i64 rounds, .int .i64 32] w fun e w' => e = .returned (.tuple #[.string X, .int .i64 c]) ∧ Below w.heap.size w w' := by
  by_cases h : rounds < 1 ∨ 1000 < rounds
  · have h' : rounds < 1 ∨ 1000 < rounds ∨ (32 : Int) < 0 ∨ 1024 < (32 : Int) := by omega
    exact ⟨_, 1, (fun e => by cases e), fun w _ => Sm.Stretch_out pass salt rounds 32 h' w, fun w => Sm.rStretch_out pass salt rounds 32 h' w⟩
  · obtain ⟨r, rfl⟩ := Int.eq_ofNat_of_zero_le (show 0 ≤ rounds by omega)
    exact ⟨Sm.strS pass salt r 32, 0, fun _ => strS_size _ _ _, fun w ht => Sm.Stretch_in pass salt r 32 (by omega) (by omega) (by decide) (by omega) (by omega) w ht.1 ht.2, fun w => Sm.rStretch_in pass salt r 32 (by omega) (by omega) (by decide) (by omega) (by omega) w⟩
theorem walk_vaultReals (pass salt : ByteArray) (rounds : Int) (v3 : Value) (l : List OpV) (w : World) (hf : Sm.First w) (hq : Sm.Cubes w) (hl : OpsV w v3 l) :
    Calls Tryz.prog 3 #[.string pass, .string salt, .int .i64 rounds, v3] w fun e w' => e = .returned (.bool true) ∧ Below w.heap.size w w' :=
  walk_vaultReals_gen prims rprims (fun _ h => h) stretchR pass salt rounds v3 l w ⟨hf, hq⟩ hl
end Go.Proofs.YtfmaajfohieneaaGreatDoor

namespace Go.Proofs.YtfmaajfohieneaaGreatDoor.Sm
set_option maxRecDepth 20000
open Go.RowKit

def firstZ : List Int := [1779033703, 3144134277, 1013904242, 2773480762, 1359893119, 2600822924, 528734635, 1541459225]
def cubesZ : List Int := [1116352408, 1899447441, 3049323471, 3921009573, 961987163, 1508970993, 2453635748, 2870763221, 3624381080, 310598401, 607225278, 1426881987, 1925078388, 2162078206, 2614888103, 3248222580, 3835390401, 4022224774, 264347078, 604807628, 770255983, 1249150122, 1555081692, 1996064986, 2554220882, 2821834349, 2952996808, 3210313671, 3336571891, 3584528711, 113926993, 338241895, 666307205, 773529912, 1294757372, 1396182291, 1695183700, 1986661051, 2177026350, 2456956037, 2730485921, 2820302411, 3259730800, 3345764771, 3516065817, 3600352804, 4094571909, 275423344, 430227734, 506948616, 659060556, 883997877, 958139571, 1322822218, 1537002063, 1747873779, 1955562222, 2024104815, 2227730452, 2361852424, 2428436474, 2756734187, 3204031479, 3329325298]
theorem firstZ_at (i : Nat) (h : i < 8) : firstZ.getD i 0 = ((st0.at i : Nat) : Int) := by
  have all : ∀ j : Fin 8, firstZ.getD j.val 0 = ((st0.at j.val : Nat) : Int) := by decide
  exact all ⟨i, h⟩
theorem cubesZ_at (i : Nat) (h : i < 64) : cubesZ.getD i 0 = ((keyN i : Nat) : Int) := by
  have all : ∀ j : Fin 64, cubesZ.getD j.val 0 = ((keyN j.val : Nat) : Int) := by decide +kernel
  exact all ⟨i, h⟩
theorem lt_of_cell {w : World} {g i : Nat} {v : Value} (h : w.cell? ⟨g, i, none⟩ = some v) : g < w.heap.size := by
  rcases Nat.lt_or_ge g w.heap.size with h' | h'
  · exact h'
  · simp [World.cell?, Array.getElem?_eq_none h'] at h
theorem tables_of_laid {W : World} (h : laidMet Tryz.prog [("grapnel/sum.first", Lib.tabData .u32 firstZ), ("grapnel/sum.cubes", Lib.tabData .u32 cubesZ)] W) : First W ∧ Cubes W := by
  have g0 : Tryz.prog.globalNamed "grapnel/sum.first" = some 0 := by kernel_rfl
  have g1 : Tryz.prog.globalNamed "grapnel/sum.cubes" = some 1 := by kernel_rfl
  have y1 : (Tryz.prog.globals[1]?).map (·.type) = some 113 := by kernel_rfl
  have T0 := Lib.tabIs_of_head g0 (show (Tryz.prog.globals[0]?).map (·.type) = some 57 by kernel_rfl) Tryz.underlying57 Tryz.underlying55 (by kernel_rfl) (by kernel_rfl) h
  have T1 : Lib.TabIs Tryz.prog W "grapnel/sum.cubes" .u32 cubesZ := by
    obtain ⟨ps, ⟨_, _, _, _, _, _, _, _, _, _, ⟨g', t', cs, fuel, p, q, hg', ht', hvar, hd, _, _⟩, _⟩, _⟩ := h
    obtain rfl := Option.some.inj (g1.symm.trans hg')
    obtain rfl := Option.some.inj (y1.symm.trans ht')
    unfold Lib.TabIs
    rw [hvar, ← Lib.cells_of_tab Tryz.underlying113 Tryz.underlying55 (by kernel_rfl) (by kernel_rfl) hd]
  have c0 : ∀ i, i < 8 → W.cell? ⟨0, i, none⟩ = some (.int .u32 (st0.at i : Nat)) := fun i hi => by rw [T0.cell g0 i hi, firstZ_at i hi]
  have c1 : ∀ i, i < 64 → W.cell? ⟨1, i, none⟩ = some (.int .u32 (keyN i : Nat)) := fun i hi => by rw [T1.cell g1 i hi, cubesZ_at i hi]
  exact ⟨⟨lt_of_cell (c0 0 (by decide)), c0⟩, ⟨lt_of_cell (c1 0 (by decide)), c1⟩⟩
end Go.Proofs.YtfmaajfohieneaaGreatDoor.Sm
