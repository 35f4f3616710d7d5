/- The laws' laid: a device and the document's, a real vault and the document's. · Where the row's two tables read as they are laid, the first state and the numbers k stand where the program has them. · The real vault is a vault that hashes, seals and opens. · A list of blocks, of readings that came in. · The laws' text, super and sectors. -/
import Derived.Test.YtoopaigpjefonaaGreatDoorMg26
import Derived.Test.YtoopaigpjefonaaGreatDoorMg48
import Derived.Test.YtoopaigpjefonaaGreatDoorMg09
import Derived.Test.YtoopaigpjefonaaGreatDoorMg22
import Derived.Test.YtoopaigpjefonaaGreatDoorMg13
import Derived.Test.YtoopaigpjefonaaGreatDoorMg31
import Derived.Lib.LaidTab
import Derived.Test.YtoopaigpjefonaaGreatDoorMg05
import Derived.Test.YtoopaigpjefonaaGreatDoorMg07
import Derived.Test.YtoopaigpjefonaaGreatDoorMg17
import Derived.Test.YtoopaigpjefonaaGreatDoorMg06
import Derived.Test.YtoopaigpjefonaaGreatDoorMg11
import Derived.Test.YtoopaigpjefonaaGreatDoorMg23
namespace Go.Proofs.YtoopaigpjefonaaGreatDoor
set_option maxRecDepth 20000
open Go.RowKit

/-- What a law's world is of. -/
structure LaidW (w0 w : World) (X : ByteArray) (S : PS) (G B1 B2 B3 B4 : Nat) : Prop where
  row : w.heap[G]? = some (.cells #[.pointer (some ⟨B1, 0, none⟩), .pointer (some ⟨B2, 0, none⟩), .pointer (some ⟨B3, 0, none⟩), .pointer (some ⟨B4, 0, none⟩)] 39 (0, 0))
  own : w0.heap.size ≤ G
  dev : ∃ m, w0.heap.size ≤ m ∧ m ≤ G ∧ Plate w (fun k => w0.heap.size ≤ k ∧ k < m) B1 S ∧ ∃ m2, m ≤ m2 ∧ m2 ≤ G ∧ RefP w (fun k => m ≤ k ∧ k < m2) B2 S
  real : RealV w B3 X
  ref : RefR w B4 X
set_option maxHeartbeats 4000000 in
theorem laid_any (n : Nat) (hn : n ≤ 32768) : ∃ X : ByteArray, X.size = 32 ∧ ∀ w, TabR w → Calls Tryz.prog 5 #[.int .i64 n] w fun e w' => ∃ G B1 B2 B3 B4, e = .returned (.pointer (some ⟨G, 0, none⟩)) ∧ LaidW w w' X (newP n) G B1 B2 B3 B4 ∧ Below w.heap.size w w' := by
  obtain ⟨X, hX, k1, k2⟩ := stretch6 ⟨#[112]⟩ (by decide)
  refine ⟨X, hX, fun w ht => ?_⟩
  have HT : Hid (∀ W, Below w.heap.size w W → TabR W) := fun W hW => prims6.tab ht hW
  have h1 := new_any n hn w
  have h2 := fun W => rnew_any n hn W
  have h3 := fun W (hW : Below w.heap.size w W) => real_yes W (k1 W (HT.out W hW))
  have h4 := fun W => rreal_yes W (k2 W)
  clear k1 k2 ht
  go_enter Tryz.func5, Tryz.ntmps5
  go_wp2_with fail
  refine h1.mono ?_
  rintro e w1 ⟨B1, rfl, hp1, hb1⟩
  have H1 : Hid (Plate w1 (fun k => w.heap.size ≤ k ∧ k < w1.heap.size) B1 (newP n) ∧ Below w.heap.size w w1) := ⟨hp1, hb1⟩
  clear h1 hp1 hb1
  go_wp2_with fail
  refine (h2 _).mono ?_
  rintro e w2 ⟨B2, rfl, hp2, hb2⟩
  have H2 : Hid (RefP w2 (fun k => w1.heap.size ≤ k ∧ k < w2.heap.size) B2 (newP n) ∧ Below w1.heap.size w1 w2) := ⟨hp2, hb2⟩
  clear h2 hp2 hb2
  go_wp2_with fail
  refine (h3 _ (H1.out.2.trans (H2.out.2.mono H1.out.2.size))).mono ?_
  rintro e w3 ⟨B3, rfl, hp3, hb3⟩
  have H3 : Hid (RealV w3 B3 X ∧ Below w2.heap.size w2 w3) := ⟨hp3, hb3⟩
  clear h3 hp3 hb3
  go_wp2_with fail
  refine (h4 _).mono ?_
  rintro e w4 ⟨B4, rfl, hp4, hb4⟩
  have H4 : Hid (RefR w4 B4 X ∧ Below w3.heap.size w3 w4) := ⟨hp4, hb4⟩
  clear h4 hp4 hb4
  have HF : Hid (∃ W, W = w4.alloc (.cells #[.pointer (some ⟨B1, 0, none⟩), .pointer (some ⟨B2, 0, none⟩), .pointer (some ⟨B3, 0, none⟩), .pointer (some ⟨B4, 0, none⟩)] 39) ∧ LaidW w W X (newP n) w4.heap.size B1 B2 B3 B4 ∧ Below w.heap.size w W) := by
    have z1 := H1.out.2.size
    have z2 := H2.out.2.size
    have z3 := H3.out.2.size
    have z4 := H4.out.2.size
    have hA := bel_alloc w4 (.cells #[.pointer (some ⟨B1, 0, none⟩), .pointer (some ⟨B2, 0, none⟩), .pointer (some ⟨B3, 0, none⟩), .pointer (some ⟨B4, 0, none⟩)] 39)
    have b24 : Below w2.heap.size w2 w4 := H3.out.2.trans (H4.out.2.mono z3)
    have b14 : Below w1.heap.size w1 w4 := H2.out.2.trans (b24.mono z2)
    refine ⟨_, rfl, ⟨heap_alloc_new w4 _, by omega, ⟨w1.heap.size, z1, by omega, (H1.out.1.below b14).below hA, w2.heap.size, z2, by omega, (H2.out.1.keep fun k hk _ => b24.block k hk).keep fun k hk _ => hA.block k hk⟩, (H3.out.1.below H4.out.2).below hA, H4.out.1.keep hA⟩, ?_⟩
    exact (H1.out.2.trans (b14.mono z1)).trans (hA.mono (by omega))
  clear H1 H2 H3 H4
  obtain ⟨W, hW, hL, hB⟩ := HF.out
  have HL : Hid (LaidW w W X (newP n) w4.heap.size B1 B2 B3 B4 ∧ Below w.heap.size w W) := ⟨hL, hB⟩
  have hW2 := hW.symm
  clear HF hL hB hW
  go_wp2
  go_ret
  exact ⟨_, _, _, _, _, rfl, HL.out.1, HL.out.2⟩
end Go.Proofs.YtoopaigpjefonaaGreatDoor

namespace Go.Proofs.YtoopaigpjefonaaGreatDoor.Sm
set_option maxRecDepth 20000
open Go.RowKit

def firstZ : List Int := [1779033703, 3144134277, 1013904242, 2773480762, 1359893119, 2600822924, 528734635, 1541459225]
def cubesZ : List Int := [1116352408, 1899447441, 3049323471, 3921009573, 961987163, 1508970993, 2453635748, 2870763221, 3624381080, 310598401, 607225278, 1426881987, 1925078388, 2162078206, 2614888103, 3248222580, 3835390401, 4022224774, 264347078, 604807628, 770255983, 1249150122, 1555081692, 1996064986, 2554220882, 2821834349, 2952996808, 3210313671, 3336571891, 3584528711, 113926993, 338241895, 666307205, 773529912, 1294757372, 1396182291, 1695183700, 1986661051, 2177026350, 2456956037, 2730485921, 2820302411, 3259730800, 3345764771, 3516065817, 3600352804, 4094571909, 275423344, 430227734, 506948616, 659060556, 883997877, 958139571, 1322822218, 1537002063, 1747873779, 1955562222, 2024104815, 2227730452, 2361852424, 2428436474, 2756734187, 3204031479, 3329325298]
theorem firstZ_at (i : Nat) (h : i < 8) : firstZ.getD i 0 = ((st0.at i : Nat) : Int) := by
  have all : ∀ j : Fin 8, firstZ.getD j.val 0 = ((st0.at j.val : Nat) : Int) := by decide
  exact all ⟨i, h⟩
theorem cubesZ_at (i : Nat) (h : i < 64) : cubesZ.getD i 0 = ((keyN i : Nat) : Int) := by
  have all : ∀ j : Fin 64, cubesZ.getD j.val 0 = ((keyN j.val : Nat) : Int) := by decide +kernel
  exact all ⟨i, h⟩
theorem lt_of_cell {w : World} {g i : Nat} {v : Value} (h : w.cell? ⟨g, i, none⟩ = some v) : g < w.heap.size := by
  rcases Nat.lt_or_ge g w.heap.size with h' | h'
  · exact h'
  · simp [World.cell?, Array.getElem?_eq_none h'] at h
theorem tables_of_laid {W : World} (h : laidMet Tryz.prog [("grapnel/sum.first", Lib.tabData .u32 firstZ), ("grapnel/sum.cubes", Lib.tabData .u32 cubesZ)] W) : First W ∧ Cubes W := by
  have g0 : Tryz.prog.globalNamed "grapnel/sum.first" = some 0 := by kernel_rfl
  have g1 : Tryz.prog.globalNamed "grapnel/sum.cubes" = some 2 := by kernel_rfl
  have y1 : (Tryz.prog.globals[2]?).map (·.type) = some 276 := by kernel_rfl
  have T0 := Lib.tabIs_of_head g0 (show (Tryz.prog.globals[0]?).map (·.type) = some 162 by kernel_rfl) Tryz.underlying162 Tryz.underlying160 (by kernel_rfl) (by kernel_rfl) h
  have T1 : Lib.TabIs Tryz.prog W "grapnel/sum.cubes" .u32 cubesZ := by
    obtain ⟨ps, ⟨_, _, _, _, _, _, _, _, _, _, ⟨g', t', cs, fuel, p, q, hg', ht', hvar, hd, _, _⟩, _⟩, _⟩ := h
    obtain rfl := Option.some.inj (g1.symm.trans hg')
    obtain rfl := Option.some.inj (y1.symm.trans ht')
    unfold Lib.TabIs
    rw [hvar, ← Lib.cells_of_tab Tryz.underlying276 Tryz.underlying160 (by kernel_rfl) (by kernel_rfl) hd]
  have c0 : ∀ i, i < 8 → W.cell? ⟨0, i, none⟩ = some (.int .u32 (st0.at i : Nat)) := fun i hi => by rw [T0.cell g0 i hi, firstZ_at i hi]
  have c1 : ∀ i, i < 64 → W.cell? ⟨2, i, none⟩ = some (.int .u32 (keyN i : Nat)) := fun i hi => by rw [T1.cell g1 i hi, cubesZ_at i hi]
  exact ⟨⟨lt_of_cell (c0 0 (by decide)), c0⟩, ⟨lt_of_cell (c1 0 (by decide)), c1⟩⟩
end Go.Proofs.YtoopaigpjefonaaGreatDoor.Sm

namespace Go.Proofs.YtoopaigpjefonaaGreatDoor
set_option maxRecDepth 20000
open Go.RowKit

/-- What a block opens as under a real vault. -/
def rbE (f : PF) (key r : ByteArray) : Int := if r.size = 512 then if headE (r.extract 0 48) = 0 then openRE f key (hdOf (r.extract 0 48)).v7 (hdOf (r.extract 0 48)).nonce (r.extract 0 48) (r.extract 48 512) else headE (r.extract 0 48) else 1
def rbH (f : PF) (key r : ByteArray) : Hd := if rbE f key r = 0 then hdOf (r.extract 0 48) else Hd.zero
def rbS (f : PF) (key r : ByteArray) : ByteArray := if rbE f key r = 0 then openRS f key (hdOf (r.extract 0 48)).v7 (hdOf (r.extract 0 48)).nonce (r.extract 0 48) (r.extract 48 512) else ⟨#[]⟩
theorem rbopen_any {Tab : World → Prop} {f : PF} (P : Prims Tab f) (B : Nat) (key : ByteArray) (hk : key.size = 32) (r : ByteArray) (w : World) (ht : Tab w) (hp : RealV w B key) :
    Calls Tryz.prog 142 #[.pointer (some ⟨B, 0, none⟩), .string r] w fun e w' => e = .returned (.tuple #[.agg (rbH f key r).arr, .string (rbS f key r), .int .i64 (rbE f key r)]) ∧ Below w.heap.size w w' := by
  by_cases hr : r.size = 512
  case neg =>
    have e1 : rbE f key r = 1 := by simp [rbE, hr]
    have e2 : rbH f key r = Hd.zero := by simp [rbH, e1]
    have e3 : rbS f key r = ⟨#[]⟩ := by simp [rbS, e1]
    rw [e1, e2, e3]
    exact bopen_short _ r hr w
  by_cases he : headE (r.extract 0 48) = 0
  case neg =>
    have e1 : rbE f key r = headE (r.extract 0 48) := by simp [rbE, hr, he]
    have e2 : rbH f key r = Hd.zero := by simp [rbH, e1, he]
    have e3 : rbS f key r = ⟨#[]⟩ := by simp [rbS, e1, he]
    rw [e1, e2, e3]
    exact bopen_head _ r hr he w
  have hg := bopen_gen (.pointer (some ⟨B, 0, none⟩)) r _ _ w hr he fun w' hb => rvopen_any P B key (hdOf (r.extract 0 48)).v7 (hdOf (r.extract 0 48)).nonce (r.extract 0 48) (r.extract 48 512) (by omega) (by rw [ByteArray.size_extract]; omega) (by rw [ByteArray.size_extract]; omega) w' (P.tab ht hb) (hp.below hb)
  have o1 : rbE f key r = openRE f key (hdOf (r.extract 0 48)).v7 (hdOf (r.extract 0 48)).nonce (r.extract 0 48) (r.extract 48 512) := by unfold rbE; rw [if_pos hr, if_pos he]
  have o3 : (rbH f key r).arr = if rbE f key r = 0 then (hdOf (r.extract 0 48)).arr else Hd.zero.arr := by unfold rbH; split <;> rfl
  have o4 : rbS f key r = if rbE f key r = 0 then openRS f key (hdOf (r.extract 0 48)).v7 (hdOf (r.extract 0 48)).nonce (r.extract 0 48) (r.extract 48 512) else ⟨#[]⟩ := rfl
  rw [o3, o4, o1]
  exact hg
/-- A real vault, and sum's tables as they stood. -/
structure RealIn (key : ByteArray) (t0 t1 : Obj) (w : World) (F : Nat → Prop) (B : Nat) : Prop where
  f0 : F 0
  f1 : F 2
  r0 : w.heap[(0 : Nat)]? = some t0
  r1 : w.heap[(2 : Nat)]? = some t1
  tab : TabR w
  fB : F B
  v : ∃ N, F N ∧ Row w B 105 [.iface 99 (.pointer (some ⟨N, 0, none⟩))] ∧ Row w N 101 [.string key]
theorem RealIn.real {key : ByteArray} {t0 t1 : Obj} {w : World} {F : Nat → Prop} {B : Nat} (h : RealIn key t0 t1 w F B) : RealV w B key := by
  obtain ⟨N, _, h1, h2⟩ := h.v
  exact ⟨N, h1, h2⟩
theorem tab_same {w w' : World} (h : TabR w) (h0 : w'.heap[(0 : Nat)]? = w.heap[(0 : Nat)]?) (h1 : w'.heap[(2 : Nat)]? = w.heap[(2 : Nat)]?) : TabR w' := by
  obtain ⟨⟨a0, a1⟩, b0, b1⟩ := h
  refine ⟨⟨?_, fun i hi => (World.cell?_of_block (a := ⟨0, i, none⟩) h0).trans (a1 i hi)⟩, ?_, fun i hi => (World.cell?_of_block (a := ⟨2, i, none⟩) h1).trans (b1 i hi)⟩
  · have q := a1 0 (by decide)
    rw [← World.cell?_of_block (a := ⟨0, 0, none⟩) h0] at q
    exact Sm.lt_of_cell q
  · have q := b1 0 (by decide)
    rw [← World.cell?_of_block (a := ⟨2, 0, none⟩) h1] at q
    exact Sm.lt_of_cell q
theorem RealIn.keep {key : ByteArray} {t0 t1 : Obj} {w w' : World} {F : Nat → Prop} {B : Nat} (h : RealIn key t0 t1 w F B) (hk : ∀ k, k < w.heap.size → F k → w'.heap[k]? = w.heap[k]?) : RealIn key t0 t1 w' F B := by
  obtain ⟨N, fN, hB, hN⟩ := h.v
  have k0 := hk _ h.tab.1.1 h.f0
  have k1 := hk _ h.tab.2.1 h.f1
  exact ⟨h.f0, h.f1, k0.trans h.r0, k1.trans h.r1, tab_same h.tab k0 k1, h.fB, N, fN, (hk B hB.lt h.fB).trans hB, (hk N hN.lt fN).trans hN⟩
theorem RealIn.mono {key : ByteArray} {t0 t1 : Obj} {w : World} {F F' : Nat → Prop} {B : Nat} (h : RealIn key t0 t1 w F B) (hF : ∀ k, k < w.heap.size → F k → F' k) : RealIn key t0 t1 w F' B := by
  obtain ⟨N, fN, hB, hN⟩ := h.v
  exact ⟨hF _ h.tab.1.1 h.f0, hF _ h.tab.2.1 h.f1, h.r0, h.r1, h.tab, hF B hB.lt h.fB, N, hF N hN.lt fN, hB, hN⟩
theorem RealIn.below {key : ByteArray} {t0 t1 : Obj} {w w' : World} {F : Nat → Prop} {B : Nat} (h : RealIn key t0 t1 w F B) (hb : Below w.heap.size w w') : RealIn key t0 t1 w' F B := h.keep fun k hk _ => hb.block k hk
/-- The real vault in block B. -/
def realK (B : Nat) (key : ByteArray) (t0 t1 : Obj) : VK where
  σ := Unit
  v := .pointer (some ⟨B, 0, none⟩)
  lies := fun w F _ => RealIn key t0 t1 w F B
  room := fun _ _ => True
  hS := fun _ s => realF.sum s
  hP := fun _ _ => ()
  sS := fun _ h s => brS realF key h s
  sP := fun _ _ _ => ()
  oE := fun _ r => rbE realF key r
  oH := fun _ r => rbH realF key r
  oS := fun _ r => rbS realF key r
theorem realF_sum (s : ByteArray) : (realF.sum s).size = 32 := by
  show (Sm.shaS (Sm.numsOf s)).size = 32
  unfold Sm.shaS
  rw [strOfNums_size, List.length_map, Sm.shaL_length]
theorem br_size (key : ByteArray) (h : Hd) (s : ByteArray) (he : bsealE h s = 0) : (brS realF key h s).size = 512 := by
  have hs : s.size = 448 := by
    by_cases hs : s.size = 448
    · exact hs
    · rw [bsealE, if_neg hs] at he
      exact absurd he (by decide)
  have he' : h.err = 0 := by rwa [bsealE, if_pos hs] at he
  obtain ⟨_, _, n3, _, _⟩ := br_num backs6 prims6.expz key he' hs
  unfold brS bsealB
  rw [decide_eq_true ⟨hs, he'⟩, if_pos rfl, ByteArray.size_append, hd_size he', n3]
theorem br_none (key : ByteArray) (h : Hd) (s : ByteArray) (he : ¬ bsealE h s = 0) : brS realF key h s = ⟨#[]⟩ := by
  unfold brS
  rw [if_neg]
  intro hb
  have hb := of_decide_eq_true hb
  exact he (by rw [bsealE, if_pos hb.1, hb.2])
theorem realOk (B : Nat) (key : ByteArray) (hk : key.size = 32) (t0 t1 : Obj) : VKOk (realK B key t0 t1) where
  keep := fun h hk => RealIn.keep h hk
  mono := fun h hF => RealIn.mono h hF
  less := fun _ _ => trivial
  hRoom := fun _ => trivial
  sRoom := fun _ => trivial
  hSize := fun _ s _ => realF_sum s
  sSize := fun _ h s _ he => br_size key h s he
  sNone := fun _ h s he => br_none key h s he
  hash := fun F S s w hs _ hp => by
    have hp : RealIn key t0 t1 w F B := hp
    exact (rvhash_any prims6 B key s (by omega) w hp.tab hp.real).mono fun e w' ⟨he, hb⟩ => ⟨he, hp.below hb, Touch.of_below hb⟩
  seal_ := fun F S h s w _ hp => by
    have hp : RealIn key t0 t1 w F B := hp
    exact (brseal_any prims6 backs6 B key hk h s w hp.tab hp.real).mono fun e w' ⟨he, hb⟩ => ⟨he, hp.below hb, Touch.of_below hb⟩
  told := fun F S r a w _ hp => by
    have hp : RealIn key t0 t1 w F B := hp
    exact told_gen _ r _ _ _ a w fun w' hb => rbopen_any prims6 B key hk r w' (hp.below hb).tab (hp.below hb).real
  probe := fun F S w _ hp => by
    have hp : RealIn key t0 t1 w F B := hp
    have h := rvopen_any prims6 B key 0 (fillS 0 12) ⟨#[]⟩ ⟨#[]⟩ (by omega) (by decide) (by decide) w hp.tab hp.real
    have hf : fitB 0 (fillS 0 12) = true := by simp [fitB, fillS_size]
    have e1 : openRS realF key 0 (fillS 0 12) ⟨#[]⟩ ⟨#[]⟩ = ⟨#[]⟩ := by
      unfold openRS
      rw [if_pos hf]
      exact if_pos (by decide)
    have e2 : openRE realF key 0 (fillS 0 12) ⟨#[]⟩ ⟨#[]⟩ = 3 := by
      unfold openRE
      rw [if_pos hf]
      exact if_pos (by decide)
    rw [e1, e2] at h
    exact h
end Go.Proofs.YtoopaigpjefonaaGreatDoor

namespace Go.Proofs.YtoopaigpjefonaaGreatDoor
set_option maxRecDepth 20000
open Go.ChangeShapes Go.WideShapes Go.RowKit Go.Deep

structure Blk where
  At : Int
  V : Int
  Bad : Bool
instance : Inhabited Blk := ⟨⟨0, 0, false⟩⟩
structure Blk.Ok (x : Blk) : Prop where
  At : (Lit.int .i64 x.At).wf = true
  V : (Lit.int .u8 x.V).wf = true
  Bad : x.Bad = x.Bad
def Blk.cells (x : Blk) : List Value := [.int .i64 x.At, .int .u8 x.V, .bool x.Bad]
structure BlkAt (W : World) (g o : Nat) (x : Blk) : Prop where
  c0 : W.cell? ⟨g, o, none⟩ = some (.int .i64 x.At)
  c1 : W.cell? ⟨g, o + 1, none⟩ = some (.int .u8 x.V)
  c2 : W.cell? ⟨g, o + 2, none⟩ = some (.bool x.Bad)
def Blks (W : World) (v : Value) (l : List Blk) : Prop := (∃ oa cap, v = .slice oa 0 cap ∧ l = []) ∨ ∃ g o cap, v = .slice (some ⟨g, o, none⟩) l.length cap ∧ g < W.heap.size ∧ ∀ i x, l[i]? = some x → BlkAt W g (o + i * 3) x
theorem Blks.form {W : World} {v : Value} {l : List Blk} (h : Blks W v l) : ∃ oa cap, v = .slice oa l.length cap := by
  rcases h with ⟨oa, cap, rfl, rfl⟩ | ⟨g, o, cap, rfl, _⟩
  · exact ⟨oa, cap, rfl⟩
  · exact ⟨_, cap, rfl⟩
theorem Blks.get {W : World} {oa : Option Addr} {cap : Nat} {l : List Blk} (h : Blks W (.slice oa l.length cap) l) {i : Nat} (hi : i < l.length) : ∃ g o, oa = some ⟨g, o, none⟩ ∧ g < W.heap.size ∧ ∀ j x, l[j]? = some x → BlkAt W g (o + j * 3) x := by
  rcases h with ⟨oa', cap', e, rfl⟩ | ⟨g, o, cap', e, hg, hx⟩
  · simp at hi
  · simp only [Value.slice.injEq] at e
    exact ⟨g, o, e.1, hg, hx⟩
theorem BlkAt.keep {W W' : World} {g o : Nat} {x : Blk} (h : BlkAt W g o x) (k : W'.heap[g]? = W.heap[g]?) : BlkAt W' g o x := ⟨(World.cell?_of_block (a := ⟨g, o, none⟩) k).trans h.c0, (World.cell?_of_block (a := ⟨g, o + 1, none⟩) k).trans h.c1, (World.cell?_of_block (a := ⟨g, o + 2, none⟩) k).trans h.c2⟩
section
variable {H : Type} {enc : TypeId × Value → H} {W : World}
theorem blk_add_plain (b o j : Nat) : (⟨b, o, none⟩ : Addr).add j = ⟨b, o + j, none⟩ := by unfold Addr.add; split <;> simp_all
set_option maxRecDepth 100000 in
theorem blk_of_cells {fuel : Nat} {cs : List Value} {x : DataW H × List MemPlace} (h : DataW.trod enc Tryz.prog W 0 (fun _ => true) true fuel 60 cs = some x) : ∃ o : Blk, o.Ok ∧ cs = o.cells := by
  obtain ⟨xs, n, _, rfl, hl, hlen, hf⟩ := DataW.trod_struct Tryz.underlying60 h
  have h6 : Tryz.prog.cellsOf 60 = 3 := by kernel_rfl
  rw [h6] at hl
  match xs, hlen with
  | [y0, y1, y2], _ =>
  match cs, hl with
  | [d0, d1, d2], _ =>
  have g : ∀ (i t o : Nat) (f : Field) (d : Value) (y : DataW H × List MemPlace), (match Tryz.prog.underlying 60 with | some (.struct fs) => fs[i]? | _ => none) = some f → f.type = t → f.offset = o → Tryz.prog.cellsOf t = 1 → (([d0, d1, d2] : List Value).drop o).take 1 = [d] → ([y0, y1, y2] : List (DataW H × List MemPlace))[i]? = some y → DataW.trod enc Tryz.prog W 0 (fun _ => true) true n t [d] = some y := fun i t o f d y h0 h1 h2 h3 h4 h5 => by
    rw [Tryz.underlying60] at h0
    have := hf i f h0
    rw [h1, h2, h3, h4, h5] at this
    exact this
  have f0 := g 0 3 0 _ d0 y0 (by rw [Tryz.underlying60]; rfl) rfl rfl (by kernel_rfl) rfl rfl
  have f1 := g 1 5 1 _ d1 y1 (by rw [Tryz.underlying60]; rfl) rfl rfl (by kernel_rfl) rfl rfl
  have f2 := g 2 4 2 _ d2 y2 (by rw [Tryz.underlying60]; rfl) rfl rfl (by kernel_rfl) rfl rfl
  obtain ⟨a0, h0', _, w0⟩ := DataW.trod_int Tryz.underlying3 f0
  obtain ⟨a1, h1', _, w1⟩ := DataW.trod_int Tryz.underlying5 f1
  obtain ⟨a2, h2', _⟩ := DataW.trod_bool Tryz.underlying4 f2
  simp only [List.cons.injEq, and_true] at h0' h1' h2'
  subst h0' h1' h2' 
  exact ⟨⟨a0, a1, a2⟩, ⟨w0, w1, rfl⟩, rfl⟩
set_option maxRecDepth 100000 in
theorem blks_of_trod {v : Value} {d : DataW H} {p : List MemPlace} {base : Nat} (hok : Value.okWide Tryz.prog W .any base 61 v) (h : DataW.Trod enc Tryz.prog W 0 (fun _ => true) true 61 v d p) : ∃ l, Blks W v l ∧ ∀ x ∈ l, x.Ok := by
  obtain ⟨a0, len, cap, rfl⟩ := okWide_slice Tryz.underlying61 hok
  obtain ⟨fuel, hf⟩ := h
  have hlt := DataW.trod_lt fuel _ _ _ hf
  have h6 : Tryz.prog.cellsOf 60 = 3 := by kernel_rfl
  rcases open_slice Tryz.underlying61 hf with ⟨hcs, hx⟩ | ⟨a, len', cap', m, n, D, Pl, hcs, _, hl, hm, hmm, hx0, hx⟩
  · simp [Value.cells] at hcs
    obtain ⟨rfl, rfl, rfl⟩ := hcs
    exact ⟨[], .inl ⟨none, 0, rfl, rfl⟩, by simp⟩
  · simp [Value.cells] at hcs
    obtain ⟨rfl, rfl, rfl⟩ := hcs
    simp only [if_true] at hmm
    by_cases h0 : len = 0
    · subst h0; exact ⟨[], .inl ⟨_, _, rfl, rfl⟩, by simp⟩
    rw [h6] at hx hx0
    simp only [Prod.mk.injEq] at hx0
    obtain ⟨hd0, hp0⟩ := hx0
    obtain ⟨b, off, spot⟩ := a
    have hsp : spot = none := by
      obtain ⟨cs', h1, h2⟩ := hx 0 (by omega)
      obtain ⟨_, hlen, hc⟩ := World.cells?_some h1
      have := hc 0 (by omega)
      rw [List.getElem?_eq_getElem (by omega)] at this
      simpa [Addr.add] using World.cell?_spot this
    subst hsp
    have hV : ∀ i, i < len → ∃ x : Blk, x.Ok ∧ BlkAt W b (off + i * 3) x := fun i hi => by
      obtain ⟨cs', h1, h2⟩ := hx i (by omega)
      obtain ⟨_, hlen, hc⟩ := World.cells?_some h1
      obtain ⟨x, hox, rfl⟩ := blk_of_cells h2
      have g : ∀ c, c < 3 → W.cell? ⟨b, off + i * 3 + c, none⟩ = x.cells[c]? := fun c hc6 => by
        rw [← hc c hc6, blk_add_plain, blk_add_plain]
      exact ⟨x, hox, g 0 (by omega), g 1 (by omega), g 2 (by omega)⟩
    obtain ⟨f, hf⟩ := choose_lt hV
    have hbW : b < W.heap.size := hlt (.cell b off) (by rw [hp0]; exact List.mem_append_left _ (MemPlace.mem_row.2 ⟨0, by omega, by simp⟩))
    refine ⟨(List.range len).map f, .inr ⟨b, off, cap, by simp, hbW, fun i u hu => ?_⟩, fun x hx => ?_⟩
    · rw [List.getElem?_map] at hu
      have hi : i < len := by
        by_cases hi : i < len
        · exact hi
        · rw [List.getElem?_eq_none (by simp; omega)] at hu; cases hu
      rw [List.getElem?_range hi] at hu
      simp only [Option.map_some, Option.some.injEq] at hu
      rw [← hu]
      exact (hf i hi).2
    · obtain ⟨i, hi, rfl⟩ := List.mem_map.1 hx
      exact (hf i (List.mem_range.1 hi)).1
end
end Go.Proofs.YtoopaigpjefonaaGreatDoor

namespace Go.Proofs.YtoopaigpjefonaaGreatDoor
set_option maxRecDepth 20000
open Go.RowKit

theorem jfillS_num (v n : Nat) : fillS v n = strOfNums ((List.replicate n v).map fun (x : Nat) => (x : Int)) := rfl
set_option maxHeartbeats 1000000 in
theorem jtext_any (v n : Nat) (hn : n ≤ 600) (w : World) :
    Calls Tryz.prog 52 #[.int .u8 (v : Nat), .int .i64 (n : Nat)] w fun e w' => e = .returned (.string (fillS v n)) ∧ Below w.heap.size w w' := by
  have hm := run_make_row' (P := Tryz.prog) 143 5 (.int .u8 0) 1 Tryz.underlying143 info_u8 rfl .i64 .i64 n (by omega) (by omega)
  have hr0 : Row (w.alloc (.cells (madeCells #[.int .u8 0] n) 5)) w.heap.size 5 (rowF n fun k => .int .u8 ((if k < 0 then v else 0 : Nat) : Int)) := by
    have h1 : Row (w.alloc (.cells (madeCells #[.int .u8 0] n) 5)) w.heap.size 5 (List.replicate n (.int .u8 0)) := made_row (heap_alloc_new w _)
    refine h1.congr ?_
    rw [rowF]
    simp only [Nat.not_lt_zero, if_false]
    rw [List.map_const', List.length_range]
    rfl
  have hb0 := (Below.refl w.heap.size w).alloc (Nat.le_refl _) (.cells (madeCells #[.int .u8 0] n) 5)
  obtain ⟨w0, hw0⟩ : ∃ w0, w.alloc (.cells (madeCells #[.int .u8 0] n) 5) = w0 := ⟨_, rfl⟩
  rw [hw0] at hr0 hb0
  go_enter Tryz.func52, Tryz.ntmps52
  go_wp2_with fail
  go_loopw [6] (fun i wr => ∃ j : Nat, j ≤ n ∧ i = .int .i64 j ∧ Row wr w.heap.size 5 (rowF n fun k => .int .u8 ((if k < j then v else 0 : Nat) : Int)) ∧ Below w.heap.size w wr) (fun i _ => n - (intOf i).toNat)
  case atStart => exact ⟨0, Nat.zero_le _, rfl, hr0, hb0⟩
  case round =>
    clear hr0 hb0 hm hw0
    obtain ⟨j, hj, rfl, hr, hb⟩ := hrel
    by_cases hlt : j < n
    · have j1 : (j : Int) < n := by omega
      have c := hr.cellF j hlt
      have fz : wr.frozen? ⟨w.heap.size, j, none⟩ = false := hr.frozen j
      have hr2 : Row (wr.setCell ⟨w.heap.size, j, none⟩ (.int .u8 (v : Nat))) w.heap.size 5 (rowF n fun k => .int .u8 ((if k < j + 1 then v else 0 : Nat) : Int)) := (hr.setF j (.int .u8 (v : Nat))).congr (rowF_congr fun k _ => by
        by_cases e : k = j
        · subst e; simp
        · by_cases e2 : k < j
          · rw [if_neg e, if_pos e2, if_pos (by omega)]
          · rw [if_neg e, if_neg e2, if_neg (by omega)])
      have hb2 : Below w.heap.size w (wr.setCell ⟨w.heap.size, j, none⟩ (.int .u8 (v : Nat))) := hb.setCell (p := ⟨w.heap.size, j, none⟩) (Nat.le_refl _) _
      have HF : Hid (_ ∧ _) := ⟨hr2, hb2⟩
      clear hr hb hr2 hb2
      go_wp2
      go_roundw
      case rel => exact ⟨j + 1, by omega, by go_num, HF.out.1, HF.out.2⟩
      case measure => simp [intOf]; omega
    · obtain rfl : j = n := by omega
      have hcv := run_convert_bytes_arg (P := Tryz.prog) wr 143 5 Tryz.underlying143 Tryz.underlying5 w.heap.size 0 j j ((List.replicate j v).map fun (x : Nat) => (x : Int)) (by simp) (fun i hi => by
        rw [Nat.zero_add, hr.cellF i hi, if_pos hi, List.getD_eq_getElem?_getD, List.getElem?_map, List.getElem?_eq_getElem (by simpa using hi)]
        simp) 9 Tryz.underlying9
      rw [← jfillS_num] at hcv
      have HF : Hid (Below w.heap.size w wr) := hb
      clear hr hb
      obtain ⟨X, hX⟩ : ∃ X, X = fillS v j := ⟨_, rfl⟩
      rw [← hX] at hcv
      have HX : Hid (X = fillS v j) := hX
      clear hX
      go_wp2
      first
        | (rw [hcv]; go_wp2)
        | skip
      go_ret
      exact ⟨by rw [← HX.out]; rfl, HF.out⟩

theorem jlsup_ret (tmps : Array Value) (g : Nat) (w' : World) (cs : Array Value) (R : Ending → World → Prop) (h1 : tmps.getD 4 undef = .pointer (some ⟨g, 0, none⟩)) (hg : w'.heap[g]? = some (.cells cs 23 (0, 0))) (hs : cs.size = 5) (hR : R (.returned (.agg cs)) w') :
    bodyPost Tryz.prog Tryz.f21 R .ret { tmps := tmps, defers := [] } w' :=
  bodyPost_ret (v := .agg cs) (results_cell_row Tryz.results21 tmps w' g 23 cs (0, 0) _ h1 hg Tryz.underlying23 rfl (by rw [hs]; kernel_rfl)) rfl hR
/-- The law's superblock. -/
def lawSp (live ep : Int) : Sp := ⟨7, ep, 5, live, fillS 3 32⟩
set_option maxHeartbeats 2000000 in
theorem jlsup_any (live ep : Int) (w : World) : Calls Tryz.prog 21 #[.int .i64 live, .int .i64 ep] w fun e w' => e = .returned (.agg (lawSp live ep).arr) ∧ Below w.heap.size w w' := by
  have ht := fun w => jtext_any 3 32 (by decide) w
  unfold lawSp Sp.arr
  simp only
  generalize fillS 3 32 = z at *
  go_enter Tryz.func21, Tryz.ntmps21
  go_wp2_with fail
  refine (ht _).mono ?_
  rintro e w1 ⟨rfl, hb1⟩
  have g0 := (hb1.block w.heap.size (by simp)).trans (heap_alloc_new w _)
  have hbw : Below w.heap.size w w1 := (below_new w _).trans (hb1.mono (by simp))
  clear hb1 ht
  go_wp2_with (refine wpList_store_row rfl 23 _ _ rfl w.heap.size #[.int .i64 7, .int .i64 ep, .int .i64 5, .int .i64 live, .string z] rfl rfl 23 _ g0 (by kernel_rfl) rfl (by simp [Value.oneCell']) ?_)
  exact jlsup_ret _ w.heap.size _ #[.int .i64 7, .int .i64 ep, .int .i64 5, .int .i64 live, .string z] _ rfl (setRow_heap _ _ _ _ _ _ g0) rfl ⟨rfl, below_setRow hbw (Nat.le_refl _) _⟩
set_option maxHeartbeats 4000000 in
theorem jsectors_any (w : World) : Calls Tryz.prog 6 #[.int .i64 48] w fun e w' => e = .returned (.int .i64 784) ∧ Below w.heap.size w w' := by
  have hl := fun w => rlayout_any 48 (by decide) (by decide) w
  have hA : layA 48 (layQ 48) (layS 48) (layT 48) = #[.int .i64 48, .int .i64 2, .int .i64 3, .int .i64 27, .int .i64 28, .int .i64 29, .int .i64 (layQ 48 : Nat), .int .i64 (29 + (layQ 48 : Nat)), .int .i64 (layS 48 : Nat), .int .i64 (29 + (layQ 48 : Nat) + (layS 48 : Nat)), .int .i64 (29 + (layQ 48 : Nat) + (layS 48 : Nat) + 1), .int .i64 48, .int .i64 49, .int .i64 1, .int .i64 50, .int .i64 98] := rfl
  rw [hA] at hl
  generalize ((layQ 48 : Nat) : Int) = q at *
  generalize ((layS 48 : Nat) : Int) = s at *
  clear hA
  go_enter Tryz.func6, Tryz.ntmps6
  go_wp2_with fail
  refine (hl _).mono ?_
  rintro e w1 ⟨rfl, hb1⟩
  have HB : Hid (Below w.heap.size w w1) := hb1
  clear hb1 hl
  go_wp2
  go_ret
  exact ⟨rfl, HB.out.alloc HB.out.size _⟩
end Go.Proofs.YtoopaigpjefonaaGreatDoor
