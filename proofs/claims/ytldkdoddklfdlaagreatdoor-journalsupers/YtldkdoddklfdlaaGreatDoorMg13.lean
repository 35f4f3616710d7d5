/- journal's Super over any vault that is told. · The real vault in plain words, over what sum and box tell: how it lies in memory, and each of its calls. · The vault's calls, the real one behind them: what each tells; nothing that was there is changed. · The document's vault, the ideal one: how it lies in memory; the same plain words as of vault's. -/
import Derived.Test.YtldkdoddklfdlaaGreatDoorMg12
import Derived.Test.YtldkdoddklfdlaaGreatDoorMg06
import Derived.Test.YtldkdoddklfdlaaGreatDoorMg04
import Derived.Deep.AppendLies
namespace Go.Proofs.YtldkdoddklfdlaaGreatDoor
set_option maxRecDepth 20000
open Go.RowKit

theorem jsup_ret (tmps : Array Value) (g : Nat) (w' : World) (a : Int) (r : ByteArray) (y : Int) (R : Ending → World → Prop) (h1 : tmps.getD 4 undef = .pointer (some ⟨g, 0, none⟩)) (h2 : tmps.getD 5 undef = .int .i64 y) (hg : w'.heap[g]? = some (.cells #[.int .i64 a, .string r] 27 (0, 0))) (hR : R (.returned (.tuple #[.agg #[.int .i64 a, .string r], .int .i64 y])) w') :
    bodyPost Tryz.prog Tryz.f5 R .ret { tmps := tmps, defers := [] } w' := by
  have hr := run_loadVar_row (P := Tryz.prog) w' g 27 27 #[.int .i64 a, .string r] (0, 0) _ hg Tryz.underlying27 rfl (by kernel_rfl)
  simp at h1 h2
  exact bodyPost_ret (v := .tuple #[.agg #[.int .i64 a, .string r], .int .i64 y]) (by simp [results, Tryz.results5, asAddr, hr, h1, h2]) rfl hR
set_option maxHeartbeats 4000000 in
theorem jsup_no (v : Value) (a0 a1 a2 a3 : Int) (r T : ByteArray) (E : Int) (w : World) (hE : ¬ E = 0)
    (hp : ∀ w, Calls Tryz.prog 12 #[.agg #[.int .i64 a0, .int .i64 a1, .int .i64 a2, .int .i64 a3, .string r]] w fun e w' => e = .returned (.tuple #[.string T, .int .i64 E]) ∧ Below w.heap.size w w') :
    Calls Tryz.prog 5 #[v, .agg #[.int .i64 a0, .int .i64 a1, .int .i64 a2, .int .i64 a3, .string r]] w fun e w' => e = .returned (.tuple #[.agg #[.int .i64 0, .string ⟨#[]⟩], .int .i64 E]) ∧ Below w.heap.size w w' := by
  have hE1 : (E != 0) = true := by simpa using hE
  clear hE
  go_enter Tryz.func5, Tryz.ntmps5
  go_wp2_with fail
  refine (hp _).mono ?_
  rintro e w1 ⟨rfl, hb1⟩
  have g1 := (hb1.block (w.heap.size + 1) (by simp)).trans (heap_alloc2_new w _ _)
  have hbw : Below w.heap.size w w1 := (((Below.refl _ _).alloc (Nat.le_refl _) _).alloc (by simp) _).trans (hb1.mono (by simp; omega))
  clear hp hb1
  go_wp2_with (refine wpList_store_row rfl 27 _ _ rfl (w.heap.size + 1) #[.int .i64 0, .string ⟨#[]⟩] rfl rfl 27 _ g1 (by kernel_rfl) rfl (by simp [Value.oneCell']) ?_)
  exact jsup_ret _ (w.heap.size + 1) _ 0 ⟨#[]⟩ E _ rfl rfl (setRow_heap _ _ _ _ _ _ g1) ⟨rfl, below_setRow hbw (by omega) _⟩
set_option maxHeartbeats 4000000 in
theorem jsup_yes (v : Value) (a0 a1 a2 a3 : Int) (r T X : ByteArray) (E : Int) (P : World → Prop) (w : World) (hP : Stb w.heap.size P)
    (hp : ∀ w, Calls Tryz.prog 12 #[.agg #[.int .i64 a0, .int .i64 a1, .int .i64 a2, .int .i64 a3, .string r]] w fun e w' => e = .returned (.tuple #[.string T, .int .i64 0]) ∧ Below w.heap.size w w')
    (hs : ∀ w', Below w.heap.size w w' → Calls Tryz.prog 13 #[v, .agg #[.int .i64 a0, .int .i64 (a1.tmod 2), .int .i64 1, .int .i64 0, .int .i64 0, .int .i64 0, .int .i64 a1, .int .i64 a1], .string T] w' fun e w'' => e = .returned (.tuple #[.string X, .int .i64 E]) ∧ P w'' ∧ Kept w.heap.size w' w'' ∧ w'.heap.size ≤ w''.heap.size) :
    Calls Tryz.prog 5 #[v, .agg #[.int .i64 a0, .int .i64 a1, .int .i64 a2, .int .i64 a3, .string r]] w fun e w' => e = .returned (.tuple #[.agg #[.int .i64 (if E = 0 then a1.tmod 2 else 0), .string (if E = 0 then X else ⟨#[]⟩)], .int .i64 E]) ∧ P w' := by
  go_enter Tryz.func5, Tryz.ntmps5
  go_wp2_with fail
  refine (hp _).mono ?_
  rintro e w1 ⟨rfl, hb1⟩
  have g1 := (hb1.block (w.heap.size + 1) (by simp)).trans (heap_alloc2_new w _ _)
  have g0 := (hb1.block w.heap.size (by simp; omega)).trans (heap_alloc2_old w _ _)
  have hbw : Below w.heap.size w w1 := (((Below.refl _ _).alloc (Nat.le_refl _) _).alloc (by simp) _).trans (hb1.mono (by simp; omega))
  have hlt := lt_of_block g1
  have c0 : w1.cell? ⟨w.heap.size, 0, none⟩ = some (.int .i64 a0) := cell_of_row _ _ 0 _ _ _ g0
  have c1 : w1.cell? ⟨w.heap.size, 1, none⟩ = some (.int .i64 a1) := cell_of_row _ _ 1 _ _ _ g0
  have hs2 := hs (w1.alloc (.cells #[.int .i64 a0, .int .i64 (a1.tmod 2), .int .i64 1, .int .i64 0, .int .i64 0, .int .i64 0, .int .i64 a1, .int .i64 a1] 51)) (hbw.alloc (by omega) _)
  clear hp hb1 hs
  go_wp2_with fail
  refine hs2.mono ?_
  rintro e w3 ⟨rfl, hp3, hk3, hz3⟩
  have g3 : w3.heap[w.heap.size + 1]? = _ := (hk3 _ (by omega) (by simp; omega)).trans ((Below.heap_alloc _ _ _ hlt).trans g1)
  have gh : w3.heap[w1.heap.size]? = _ := (hk3 _ (by omega) (by simp)).trans (heap_alloc_new w1 _)
  have ch : w3.cell? ⟨w1.heap.size, 1, none⟩ = some (.int .i64 (a1.tmod 2)) := cell_of_row _ _ 1 _ _ _ gh
  have HP3 : Hid (∀ cs, P (w3.setRow (w.heap.size + 1) cs)) := fun cs => hP _ _ hp3 (below_setRow (Below.refl _ _) (by omega) _)
  clear hs2 g0 c0 c1 gh hp3 hk3 hz3 g1 hbw
  by_cases hE : E = 0
  · subst hE
    generalize hq : a1.tmod 2 = q at *
    go_wp2_with (refine wpList_store_row rfl 27 _ _ rfl (w.heap.size + 1) #[.int .i64 q, .string X] rfl rfl 27 _ g3 (by kernel_rfl) rfl (by simp [Value.oneCell']) ?_)
    exact jsup_ret _ (w.heap.size + 1) _ q X 0 _ rfl rfl (setRow_heap _ _ _ _ _ _ g3) ⟨by simp, HP3.out _⟩
  · have hE1 : (E != 0) = true := by simpa using hE
    go_wp2_with (refine wpList_store_row rfl 27 _ _ rfl (w.heap.size + 1) #[.int .i64 0, .string ⟨#[]⟩] rfl rfl 27 _ g3 (by kernel_rfl) rfl (by simp [Value.oneCell']) ?_)
    exact jsup_ret _ (w.heap.size + 1) _ 0 ⟨#[]⟩ E _ rfl rfl (setRow_heap _ _ _ _ _ _ g3) ⟨by simp, HP3.out _⟩
theorem jsuper_any (K : VK) (HK : VKOk K) (F : Nat → Prop) (S : K.σ) (s : Sp) {w w' : World} (hr : K.room S 1) (hl : VOut K F w S w') (hw : w.heap.size ≤ w'.heap.size) :
    Calls Tryz.prog 5 #[K.v, .agg s.arr] w' fun e w'' => e = .returned (.tuple #[.agg #[.int .i64 (supA s), .string (supR K S s)], .int .i64 (supE s)]) ∧ VOut K F w (supP K S s) w'' ∧ Kept w.heap.size w' w'' ∧ w'.heap.size ≤ w''.heap.size := by
  have hp := fun w => super_any s.vol s.ep s.nx s.lv s.root w
  by_cases he : s.err = 0
  · have he' : superE s.vol s.ep s.nx s.lv s.root = 0 := he
    rw [he'] at hp
    have e1 : supE s = bsealE s.hd s.txt := if_pos he
    have e2 : supP K S s = K.sP S s.hd s.txt := if_pos he
    have e3 : supA s = if bsealE s.hd s.txt = 0 then s.ep.tmod 2 else 0 := by unfold supA; rw [e1]
    have e4 : supR K S s = if bsealE s.hd s.txt = 0 then K.sS S s.hd s.txt else ⟨#[]⟩ := by unfold supR; rw [e1]
    rw [e1, e2, e3, e4]
    exact jsup_yes K.v s.vol s.ep s.nx s.lv s.root s.txt (K.sS S s.hd s.txt) (bsealE s.hd s.txt) (fun w'' => VOut K F w (K.sP S s.hd s.txt) w'' ∧ Kept w.heap.size w' w'' ∧ w'.heap.size ≤ w''.heap.size) w' (fun w1 w2 h hb => ⟨VOut.stb HK _ _ h.1 (hb.mono hw), fun k hk hk2 => (hb.block k hk2).trans (h.2.1 k hk hk2), Nat.le_trans h.2.2 hb.size⟩) hp fun w1 hb => by
      have h1 := VOut.seal_ HK s.hd s.txt hr (VOut.stb HK _ _ hl (hb.mono hw))
      refine h1.mono fun e w'' ⟨h2, h3, h4, h5⟩ => ⟨h2, ⟨h3, fun k hk hk2 => (h4 k hk (Nat.lt_of_lt_of_le hk2 hb.size)).trans (hb.block k hk2), Nat.le_trans hb.size h5⟩, fun k hk hk2 => h4 k (Nat.le_trans hw hk) hk2, h5⟩
  · have he' : ¬ superE s.vol s.ep s.nx s.lv s.root = 0 := he
    have e1 : supE s = superE s.vol s.ep s.nx s.lv s.root := if_neg he
    have e2 : supP K S s = S := if_neg he
    have e3 : supA s = 0 := by unfold supA; rw [e1]; exact if_neg he'
    have e4 : supR K S s = ⟨#[]⟩ := by unfold supR; rw [e1]; exact if_neg he'
    rw [e1, e2, e3, e4]
    exact (jsup_no K.v s.vol s.ep s.nx s.lv s.root (superS s.vol s.ep s.nx s.lv s.root) _ w' he' hp).mono fun e w'' ⟨h1, h2⟩ => ⟨h1, VOut.stb HK _ _ hl (h2.mono hw), fun k _ hk => h2.block k hk, h2.size⟩
end Go.Proofs.YtldkdoddklfdlaaGreatDoor

namespace Go.Proofs.YtldkdoddklfdlaaGreatDoor
set_option maxRecDepth 20000
open Go.RowKit

/-- What sum and box tell. -/
structure PF where
  sum : ByteArray → ByteArray
  mac : ByteArray → ByteArray → ByteArray
  exp : ByteArray → ByteArray → ByteArray
  shut : ByteArray → ByteArray → ByteArray → ByteArray → ByteArray
  shutX : ByteArray → ByteArray → Int
  opn : ByteArray → ByteArray → ByteArray → ByteArray → ByteArray
  opnX : ByteArray → ByteArray → ByteArray → ByteArray → Int
structure Prims (Tab : World → Prop) (f : PF) : Prop where
  tab : ∀ {w w' : World}, Tab w → Below w.heap.size w w' → Tab w'
  sum : ∀ s : ByteArray, s.size ≤ 1048576 → ∀ w, Tab w → Calls Tryz.prog 102 #[.string s] w fun e w' => e = .returned (.string (f.sum s)) ∧ Below w.heap.size w w'
  macz : ∀ k s, (f.mac k s).size = 32
  exp : ∀ k i : ByteArray, k.size ≤ 1048576 → i.size ≤ 1048576 → ∀ w, Tab w → Calls Tryz.prog 245 #[.string k, .string i, .int .i64 32] w fun e w' => e = .returned (.tuple #[.string (f.exp k i), .int .i64 0]) ∧ Below w.heap.size w w'
  expz : ∀ k i, (f.exp k i).size = 32
  shut : ∀ k n a s : ByteArray, a.size ≤ 1048576 → s.size ≤ 1048576 → ∀ w, Calls Tryz.prog 230 #[.string k, .string n, .string a, .string s] w fun e w' => e = .returned (.tuple #[.string (f.shut k n a s), .int .i64 (f.shutX k n)]) ∧ Below w.heap.size w w'
  opn : ∀ k n a s : ByteArray, a.size ≤ 1048576 → s.size ≤ 1048576 → ∀ w, Calls Tryz.prog 228 #[.string k, .string n, .string a, .string s] w fun e w' => e = .returned (.tuple #[.string (f.opn k n a s), .int .i64 (f.opnX k n a s)]) ∧ Below w.heap.size w w'
  same : ∀ a b : ByteArray, a.size ≤ maxLen → ∀ w, Calls Tryz.prog 233 #[.string a, .string b] w fun e w' => e = .returned (.bool (decide (a = b))) ∧ Below w.heap.size w w'

/-- A real vault in block B, its master key. -/
def RealV (w : World) (B : Nat) (key : ByteArray) : Prop := ∃ N, Row w B 84 [.iface 78 (.pointer (some ⟨N, 0, none⟩))] ∧ Row w N 80 [.string key]
theorem RealV.below {w w' : World} {B : Nat} {key : ByteArray} (h : RealV w B key) (hb : Below w.heap.size w w') : RealV w' B key := by
  obtain ⟨N, h1, h2⟩ := h
  exact ⟨N, h1.below hb h1.lt, h2.below hb h2.lt⟩
def markT : ByteArray := ⟨#[109, 97, 114, 107, 32]⟩
def sealTT : ByteArray := ⟨#[115, 101, 97, 108, 32]⟩
def keyR (f : PF) (key p : ByteArray) : ByteArray := f.exp key p
def macR (f : PF) (key l s : ByteArray) : ByteArray := (f.mac (f.exp key (markT ++ l)) s).extract 0 16
def sealK (f : PF) (key : ByteArray) (z : Int) : ByteArray := f.exp key (sealTT ++ putS z 6)
def sealRS (f : PF) (key : ByteArray) (z : Int) (n a s : ByteArray) : ByteArray := if fitB z n then f.shut (sealK f key z) n a s else ⟨#[]⟩
def sealRE (f : PF) (key : ByteArray) (z : Int) (n : ByteArray) : Int := if fitB z n then f.shutX (sealK f key z) n else 1
def openRS (f : PF) (key : ByteArray) (z : Int) (n a s : ByteArray) : ByteArray := if fitB z n then (if s.size < 16 then ⟨#[]⟩ else f.opn (sealK f key z) n a s) else ⟨#[]⟩
def openRE (f : PF) (key : ByteArray) (z : Int) (n a s : ByteArray) : Int := if fitB z n then (if s.size < 16 then 3 else f.opnX (sealK f key z) n a s) else 1

section
variable {Tab : World → Prop} {f : PF}
theorem keyFor_any (P : Prims Tab f) (N : Nat) (key p : ByteArray) (hk : key.size ≤ 1048576) (hp : p.size ≤ 1048576) (w : World) (ht : Tab w) (c : w.cell? ⟨N, 0, none⟩ = some (.string key)) :
    Calls Tryz.prog 236 #[.pointer (some ⟨N, 0, none⟩), .string p] w fun e w' => e = .returned (.string (f.exp key p)) ∧ Below w.heap.size w w' := by
  have h := P.exp key p hk hp w ht
  generalize f.exp key p = x at *
  clear ht P hk hp
  go_enter Tryz.func236, Tryz.ntmps236
  go_wp2_with fail
  refine h.mono ?_
  rintro e w1 ⟨rfl, hb⟩
  clear h c
  go_wp2
  go_ret
  exact ⟨rfl, hb⟩
theorem put6_le (n : Nat) : (putS n 6).size ≤ 6 := by
  unfold putS
  split
  · rw [strOfNums_size, leI_length]; decide
  · exact Nat.zero_le _
theorem sealKey_any (P : Prims Tab f) (N : Nat) (key : ByteArray) (z : Nat) (hk : key.size ≤ 1048576) (w : World) (ht : Tab w) (c : w.cell? ⟨N, 0, none⟩ = some (.string key)) :
    Calls Tryz.prog 229 #[.pointer (some ⟨N, 0, none⟩), .int .i64 (z : Nat)] w fun e w' => e = .returned (.string (sealK f key z)) ∧ Below w.heap.size w w' := by
  have h0 := inBytes_any z w
  have hz := put6_le z
  have HR : Hid (sealK f key z = f.exp key (sealTT ++ putS z 6)) := rfl
  generalize putS z 6 = p at *
  have hz2 : (sealTT ++ p).size ≤ 1048576 := by rw [ByteArray.size_append, show sealTT.size = 5 from rfl]; omega
  have ha : ∀ w', (Op.stringOp .add ⟨#[115, 101, 97, 108, 32]⟩ p).run Tryz.prog w' = .ok (.string (sealTT ++ p)) w' := fun w' => run_string_add_sum (P := Tryz.prog) (w := w') _ _ (by rw [show (⟨#[115, 101, 97, 108, 32]⟩ : ByteArray).size = 5 from rfl]; omega)
  have hN := lt_of_cell c
  have h1 : ∀ W, Below w.heap.size w W → _ := fun W hW => keyFor_any P N key (sealTT ++ p) hk hz2 W (P.tab ht hW) ((World.cell?_of_block (a := ⟨N, 0, none⟩) (hW.block N hN)).trans c)
  generalize sealTT ++ p = q at *
  clear P ht hk c hz hz2
  go_enter Tryz.func229, Tryz.ntmps229
  go_wp2_with fail
  refine h0.mono ?_
  rintro e w1 ⟨rfl, hb⟩
  clear h0
  go_wp2_with fail
  refine (h1 _ hb).mono ?_
  rintro e w2 ⟨rfl, hb2⟩
  have HB : Hid (Below w.heap.size w w2) := hb.trans (hb2.mono hb.size)
  clear h1 hb hb2
  go_wp2
  go_ret
  exact ⟨by rw [HR.out]; rfl, HB.out⟩
theorem kseal_any (P : Prims Tab f) (N : Nat) (key : ByteArray) (z : Nat) (n a s : ByteArray) (hk : key.size ≤ 1048576) (hA : a.size ≤ 1048576) (hs : s.size ≤ 1048576) (w : World) (ht : Tab w) (c : w.cell? ⟨N, 0, none⟩ = some (.string key)) :
    Calls Tryz.prog 227 #[.pointer (some ⟨N, 0, none⟩), .int .i64 (z : Nat), .string n, .string a, .string s] w fun e w' => e = .returned (.tuple #[.string (f.shut (sealK f key z) n a s), .int .i64 (f.shutX (sealK f key z) n)]) ∧ Below w.heap.size w w' := by
  have h1 := sealKey_any P N key z hk w ht c
  have h2 := fun W => P.shut (sealK f key z) n a s hA hs W
  generalize sealK f key z = x at *
  generalize f.shut x n a s = t at *
  generalize f.shutX x n = e at *
  clear P ht hk c hA hs
  go_enter Tryz.func227, Tryz.ntmps227
  go_wp2_with fail
  refine h1.mono ?_
  rintro e w1 ⟨rfl, hb⟩
  clear h1
  go_wp2_with fail
  refine (h2 _).mono ?_
  rintro e w2 ⟨rfl, hb2⟩
  have HB : Hid (Below w.heap.size w w2) := hb.trans (hb2.mono hb.size)
  clear h2 hb hb2
  go_wp2
  go_ret2
  exact ⟨rfl, HB.out⟩
theorem kopen_any (P : Prims Tab f) (N : Nat) (key : ByteArray) (z : Nat) (n a s : ByteArray) (hk : key.size ≤ 1048576) (hA : a.size ≤ 1048576) (hs : s.size ≤ 1048576) (w : World) (ht : Tab w) (c : w.cell? ⟨N, 0, none⟩ = some (.string key)) :
    Calls Tryz.prog 226 #[.pointer (some ⟨N, 0, none⟩), .int .i64 (z : Nat), .string n, .string a, .string s] w fun e w' => e = .returned (.tuple #[.string (f.opn (sealK f key z) n a s), .int .i64 (f.opnX (sealK f key z) n a s)]) ∧ Below w.heap.size w w' := by
  have h1 := sealKey_any P N key z hk w ht c
  have h2 := fun W => P.opn (sealK f key z) n a s hA hs W
  generalize sealK f key z = x at *
  generalize f.opn x n a s = t at *
  generalize f.opnX x n a s = e at *
  clear P ht hk c hA hs
  go_enter Tryz.func226, Tryz.ntmps226
  go_wp2_with fail
  refine h1.mono ?_
  rintro e w1 ⟨rfl, hb⟩
  clear h1
  go_wp2_with fail
  refine (h2 _).mono ?_
  rintro e w2 ⟨rfl, hb2⟩
  have HB : Hid (Below w.heap.size w w2) := hb.trans (hb2.mono hb.size)
  clear h2 hb hb2
  go_wp2
  go_ret2
  exact ⟨rfl, HB.out⟩
end
end Go.Proofs.YtldkdoddklfdlaaGreatDoor

namespace Go.Proofs.YtldkdoddklfdlaaGreatDoor
set_option maxRecDepth 20000
open Go.RowKit

section
variable {Tab : World → Prop} {f : PF}
theorem khash_any (P : Prims Tab f) (N : Nat) (s : ByteArray) (hs : s.size ≤ 1048576) (w : World) (ht : Tab w) :
    Calls Tryz.prog 225 #[.pointer (some ⟨N, 0, none⟩), .string s] w fun e w' => e = .returned (.string (f.sum s)) ∧ Below w.heap.size w w' := by
  have h := P.sum s hs w ht
  generalize f.sum s = x at *
  clear P ht hs
  go_enter Tryz.func225, Tryz.ntmps225
  go_wp2_with fail
  refine h.mono ?_
  rintro e w1 ⟨rfl, hb⟩
  clear h
  go_wp2
  go_ret
  exact ⟨rfl, hb⟩
theorem rvhash_any (P : Prims Tab f) (B : Nat) (key s : ByteArray) (hs : s.size ≤ 1048576) (w : World) (ht : Tab w) (hp : RealV w B key) :
    Calls Tryz.prog 87 #[.pointer (some ⟨B, 0, none⟩), .string s] w fun e w' => e = .returned (.string (f.sum s)) ∧ Below w.heap.size w w' := by
  obtain ⟨N, r1, r2⟩ := hp
  have c0 : w.cell? ⟨B, 0, none⟩ = some (.iface 78 (.pointer (some ⟨N, 0, none⟩))) := r1.cell 0
  have cN : w.cell? ⟨N, 0, none⟩ = some (.string key) := r2.cell 0
  have hg := given_any B _ _ w c0
  have hn := khash_any P N s hs w ht
  have hm : ∀ w : World, (method 489 78 (.pointer (some ⟨N, 0, none⟩)) "grapnel/vault.hash").run Tryz.prog w = .ok (225, .pointer (some ⟨N, 0, none⟩)) w := fun _ => by kernel_rfl
  generalize f.sum s = u at *
  clear P ht hs r1 r2 cN
  go_enter Tryz.func87, Tryz.ntmps87
  go_wp2_with fail
  refine hg.mono ?_
  rintro e w1 ⟨rfl, rfl⟩
  clear hg
  go_wp2_with fail
  refine hn.mono ?_
  rintro e w2 ⟨rfl, h1⟩
  have HF : Hid _ := h1
  clear h1 hn
  go_wp2
  go_ret
  exact ⟨rfl, HF.out⟩
set_option maxHeartbeats 1000000 in
theorem rvseal_any (P : Prims Tab f) (B : Nat) (key : ByteArray) (z : Int) (n a s : ByteArray) (hk : key.size ≤ 1048576) (hA : a.size ≤ 1048576) (hs : s.size ≤ 1048576) (w : World) (ht : Tab w) (hp : RealV w B key) :
    Calls Tryz.prog 31 #[.pointer (some ⟨B, 0, none⟩), .int .i64 z, .string n, .string a, .string s] w fun e w' => e = .returned (.tuple #[.string (sealRS f key z n a s), .int .i64 (sealRE f key z n)]) ∧ Below w.heap.size w w' := by
  obtain ⟨N, r1, r2⟩ := hp
  have c0 : w.cell? ⟨B, 0, none⟩ = some (.iface 78 (.pointer (some ⟨N, 0, none⟩))) := r1.cell 0
  have cN : w.cell? ⟨N, 0, none⟩ = some (.string key) := r2.cell 0
  have hg := given_any B _ _ w c0
  have hf := fit_any z n w
  unfold sealRS sealRE
  rw [show decide (0 ≤ z ∧ z ≤ 281474976710655 ∧ n.size = 12) = fitB z n from rfl] at hf
  cases hb : fitB z n <;> rw [hb] at hf
  · simp only [Bool.false_eq_true, if_false]
    clear P ht hk hA hs r1 r2 cN
    go_enter Tryz.func31, Tryz.ntmps31
    go_wp2_with fail
    refine hg.mono ?_
    rintro e w1 ⟨rfl, rfl⟩
    clear hg
    go_wp2_with fail
    refine hf.mono ?_
    rintro e w3 ⟨rfl, rfl⟩
    clear hf
    go_wp2
    go_ret2
    exact ⟨rfl, Below.refl _ _⟩
  · simp only [if_true]
    obtain ⟨m, rfl⟩ : ∃ m : Nat, z = m := ⟨z.toNat, by have := of_decide_eq_true hb; omega⟩
    have hn := kseal_any P N key m n a s hk hA hs w ht cN
    have hm : ∀ w : World, (method 489 78 (.pointer (some ⟨N, 0, none⟩)) "grapnel/vault.seal").run Tryz.prog w = .ok (227, .pointer (some ⟨N, 0, none⟩)) w := fun _ => by kernel_rfl
    generalize f.shut (sealK f key m) n a s = u at *
    generalize f.shutX (sealK f key m) n = v at *
    clear P ht hk hA hs r1 r2 cN hb
    go_enter Tryz.func31, Tryz.ntmps31
    go_wp2_with fail
    refine hg.mono ?_
    rintro e w1 ⟨rfl, rfl⟩
    clear hg
    go_wp2_with fail
    refine hf.mono ?_
    rintro e w3 ⟨rfl, rfl⟩
    clear hf
    go_wp2_with fail
    refine hn.mono ?_
    rintro e w2 ⟨rfl, h1⟩
    have HF : Hid _ := h1
    clear h1 hn
    go_wp2
    go_ret2
    exact ⟨rfl, HF.out⟩
set_option maxHeartbeats 1000000 in
theorem rvopen_any (P : Prims Tab f) (B : Nat) (key : ByteArray) (z : Int) (n a s : ByteArray) (hk : key.size ≤ 1048576) (hA : a.size ≤ 1048576) (hs : s.size ≤ 1048576) (w : World) (ht : Tab w) (hp : RealV w B key) :
    Calls Tryz.prog 80 #[.pointer (some ⟨B, 0, none⟩), .int .i64 z, .string n, .string a, .string s] w fun e w' => e = .returned (.tuple #[.string (openRS f key z n a s), .int .i64 (openRE f key z n a s)]) ∧ Below w.heap.size w w' := by
  obtain ⟨N, r1, r2⟩ := hp
  have c0 : w.cell? ⟨B, 0, none⟩ = some (.iface 78 (.pointer (some ⟨N, 0, none⟩))) := r1.cell 0
  have cN : w.cell? ⟨N, 0, none⟩ = some (.string key) := r2.cell 0
  have hg := given_any B _ _ w c0
  have hf := fit_any z n w
  unfold openRS openRE
  rw [show decide (0 ≤ z ∧ z ≤ 281474976710655 ∧ n.size = 12) = fitB z n from rfl] at hf
  cases hb : fitB z n <;> rw [hb] at hf
  · simp only [Bool.false_eq_true, if_false]
    clear P ht hk hA hs r1 r2 cN
    go_enter Tryz.func80, Tryz.ntmps80
    go_wp2_with fail
    refine hg.mono ?_
    rintro e w1 ⟨rfl, rfl⟩
    clear hg
    go_wp2_with fail
    refine hf.mono ?_
    rintro e w3 ⟨rfl, rfl⟩
    clear hf
    go_wp2
    go_ret2
    exact ⟨rfl, Below.refl _ _⟩
  simp only [if_true]
  by_cases h16 : s.size < 16
  · have h16' : (s.size : Int) < 16 := by omega
    simp only [h16, if_true]
    clear P ht hk hA hs r1 r2 cN
    go_enter Tryz.func80, Tryz.ntmps80
    go_wp2_with fail
    refine hg.mono ?_
    rintro e w1 ⟨rfl, rfl⟩
    clear hg
    go_wp2_with fail
    refine hf.mono ?_
    rintro e w3 ⟨rfl, rfl⟩
    clear hf
    go_wp2
    go_ret2
    exact ⟨rfl, Below.refl _ _⟩
  · have h16' : ¬ (s.size : Int) < 16 := by omega
    simp only [h16, if_false]
    obtain ⟨m, rfl⟩ : ∃ m : Nat, z = m := ⟨z.toNat, by have := of_decide_eq_true hb; omega⟩
    have hn := kopen_any P N key m n a s hk hA hs w ht cN
    have hm : ∀ w : World, (method 489 78 (.pointer (some ⟨N, 0, none⟩)) "grapnel/vault.open").run Tryz.prog w = .ok (226, .pointer (some ⟨N, 0, none⟩)) w := fun _ => by kernel_rfl
    generalize f.opn (sealK f key m) n a s = u at *
    generalize f.opnX (sealK f key m) n a s = v at *
    clear P ht hk hA hs r1 r2 cN hb h16
    go_enter Tryz.func80, Tryz.ntmps80
    go_wp2_with fail
    refine hg.mono ?_
    rintro e w1 ⟨rfl, rfl⟩
    clear hg
    go_wp2_with fail
    refine hf.mono ?_
    rintro e w3 ⟨rfl, rfl⟩
    clear hf
    go_wp2_with fail
    refine hn.mono ?_
    rintro e w2 ⟨rfl, h1⟩
    have HF : Hid _ := h1
    clear h1 hn
    go_wp2
    go_ret2
    exact ⟨rfl, HF.out⟩
end
/-- A new real vault, or Stretch's error. -/
theorem real_no {pass salt X : ByteArray} {rounds c : Int} (w : World) (hc : ¬ c = 0) (hs : Calls Tryz.prog 25 #[.string pass, .string salt, .int .i64 rounds, .int .i64 32] w fun e w' => e = .returned (.tuple #[.string X, .int .i64 c]) ∧ Below w.heap.size w w') :
    Calls Tryz.prog 10 #[.string pass, .string salt, .int .i64 rounds] w fun e w' => e = .returned (.tuple #[.pointer none, .int .i64 c]) ∧ Below w.heap.size w w' := by
  have hc1 : (c != 0) = true := by simpa using hc
  have hc2 : (c == 0) = false := beq_false_of_ne hc
  clear hc
  go_enter Tryz.func10, Tryz.ntmps10
  go_wp2_with fail
  refine hs.mono ?_
  rintro e w1 ⟨rfl, hb⟩
  have HB : Hid _ := hb
  clear hs hb
  go_wp2
  go_ret2
  exact ⟨rfl, HB.out⟩
theorem real_yes {pass salt X : ByteArray} {rounds : Int} (w : World) (hs : Calls Tryz.prog 25 #[.string pass, .string salt, .int .i64 rounds, .int .i64 32] w fun e w' => e = .returned (.tuple #[.string X, .int .i64 0]) ∧ Below w.heap.size w w') :
    Calls Tryz.prog 10 #[.string pass, .string salt, .int .i64 rounds] w fun e w' => ∃ B, e = .returned (.tuple #[.pointer (some ⟨B, 0, none⟩), .int .i64 0]) ∧ RealV w' B X ∧ Below w.heap.size w w' := by
  go_enter Tryz.func10, Tryz.ntmps10
  go_wp2_with fail
  refine hs.mono ?_
  rintro e w1 ⟨rfl, hb⟩
  have HB : Hid _ := hb
  clear hs hb
  go_wp2
  go_ret2
  obtain ⟨r0, r1, rB⟩ := two_new (w := w1) (w1 := (w1.alloc (.cells #[.string X] 80)).alloc (.cells #[.iface 78 (.pointer (some ⟨w1.heap.size, 0, none⟩))] 84)) (Below.refl _ _)
  exact ⟨w1.heap.size + 1, rfl, ⟨w1.heap.size, r1, r0⟩, HB.out.trans (rB.mono HB.out.size)⟩
end Go.Proofs.YtldkdoddklfdlaaGreatDoor

namespace Go.Proofs.YtldkdoddklfdlaaGreatDoor
set_option maxRecDepth 20000
open Go.RowKit

def texC (l : List (ByteArray)) : List Value := l.flatMap fun x => [.string x]
theorem texC_snoc (l : List (ByteArray)) (x : ByteArray) : texC (l ++ [x]) = texC l ++ [.string x] := by simp [texC]
theorem texC_get : ∀ (l : List (ByteArray)) (k : Nat) (x : ByteArray), l[k]? = some x → ∀ c, c < 1 → (texC l)[k * 1 + c]? = ([.string x] : List Value)[c]?
  | [], k, x, h => by simp at h
  | y :: t, 0, x, h => by
    simp at h
    subst h
    intro c hc
    rw [show texC (y :: t) = [.string y] ++ texC t from by simp [texC], Nat.zero_mul, Nat.zero_add, List.getElem?_append_left (by simpa using hc)]
  | y :: t, k + 1, x, h => by
    intro c hc
    have := texC_get t k x (by simpa using h) c hc
    have hl : ([.string y] : List Value).length = 1 := rfl
    rw [show texC (y :: t) = [.string y] ++ texC t from by simp [texC], List.getElem?_append_right (by rw [hl]; omega), hl, show (k + 1) * 1 + c - 1 = k * 1 + c by omega]
    exact this
def marC (l : List (ByteArray × ByteArray)) : List Value := l.flatMap fun x => [.string x.1, .string x.2]
theorem marC_snoc (l : List (ByteArray × ByteArray)) (x : ByteArray × ByteArray) : marC (l ++ [x]) = marC l ++ [.string x.1, .string x.2] := by simp [marC]
theorem marC_get : ∀ (l : List (ByteArray × ByteArray)) (k : Nat) (x : ByteArray × ByteArray), l[k]? = some x → ∀ c, c < 2 → (marC l)[k * 2 + c]? = ([.string x.1, .string x.2] : List Value)[c]?
  | [], k, x, h => by simp at h
  | y :: t, 0, x, h => by
    simp at h
    subst h
    intro c hc
    rw [show marC (y :: t) = [.string y.1, .string y.2] ++ marC t from by simp [marC], Nat.zero_mul, Nat.zero_add, List.getElem?_append_left (by simpa using hc)]
  | y :: t, k + 1, x, h => by
    intro c hc
    have := marC_get t k x (by simpa using h) c hc
    have hl : ([.string y.1, .string y.2] : List Value).length = 2 := rfl
    rw [show marC (y :: t) = [.string y.1, .string y.2] ++ marC t from by simp [marC], List.getElem?_append_right (by rw [hl]; omega), hl, show (k + 1) * 2 + c - 2 = k * 2 + c by omega]
    exact this
def fouC (l : List (Four)) : List Value := l.flatMap fun x => [.int .i64 x.salt, .string x.nonce, .string x.ad, .string x.text]
theorem fouC_snoc (l : List (Four)) (x : Four) : fouC (l ++ [x]) = fouC l ++ [.int .i64 x.salt, .string x.nonce, .string x.ad, .string x.text] := by simp [fouC]
theorem fouC_get : ∀ (l : List (Four)) (k : Nat) (x : Four), l[k]? = some x → ∀ c, c < 4 → (fouC l)[k * 4 + c]? = ([.int .i64 x.salt, .string x.nonce, .string x.ad, .string x.text] : List Value)[c]?
  | [], k, x, h => by simp at h
  | y :: t, 0, x, h => by
    simp at h
    subst h
    intro c hc
    rw [show fouC (y :: t) = [.int .i64 y.salt, .string y.nonce, .string y.ad, .string y.text] ++ fouC t from by simp [fouC], Nat.zero_mul, Nat.zero_add, List.getElem?_append_left (by simpa using hc)]
  | y :: t, k + 1, x, h => by
    intro c hc
    have := fouC_get t k x (by simpa using h) c hc
    have hl : ([.int .i64 y.salt, .string y.nonce, .string y.ad, .string y.text] : List Value).length = 4 := rfl
    rw [show fouC (y :: t) = [.int .i64 y.salt, .string y.nonce, .string y.ad, .string y.text] ++ fouC t from by simp [fouC], List.getElem?_append_right (by rw [hl]; omega), hl, show (k + 1) * 4 + c - 4 = k * 4 + c by omega]
    exact this

structure RefVAt (w : World) (F : Nat → Prop) (B : Nat) (hv pv fv : Value) (S : VS) : Prop where
  row : Row w B 88 [.bool true, .string ⟨#[]⟩, hv, pv, fv]
  hs : w.ownsRow 0 9 1 hv S.texts.length (texC S.texts)
  ps : w.ownsRow 0 361 2 pv S.marks.length (marC S.marks)
  fs : w.ownsRow 0 169 4 fv S.seals.length (fouC S.seals)
  fB : F B
  hF : ∀ g, hv.ownBlock = some g → F g
  pF : ∀ g, pv.ownBlock = some g → F g
  fF : ∀ g, fv.ownBlock = some g → F g
  hB : hv.ownBlock ≠ some B
  pB : pv.ownBlock ≠ some B
  qB : fv.ownBlock ≠ some B
  hp : ∀ g, hv.ownBlock = some g → pv.ownBlock ≠ some g
  hf : ∀ g, hv.ownBlock = some g → fv.ownBlock ≠ some g
  pf : ∀ g, pv.ownBlock = some g → fv.ownBlock ≠ some g
def RefV (w : World) (F : Nat → Prop) (B : Nat) (S : VS) : Prop := ∃ hv pv fv, RefVAt w F B hv pv fv S
theorem RefVAt.keep {w w' : World} {F : Nat → Prop} {B : Nat} {hv pv fv : Value} {S : VS} (h : RefVAt w F B hv pv fv S) (hk : ∀ k, k < w.heap.size → F k → w'.heap[k]? = w.heap[k]?) : RefVAt w' F B hv pv fv S :=
  { h with
    row := (hk B h.row.lt h.fB).trans h.row
    hs := owns_keep h.hs fun g hg => hk g (owns_lt h.hs g hg) (h.hF g hg)
    ps := owns_keep h.ps fun g hg => hk g (owns_lt h.ps g hg) (h.pF g hg)
    fs := owns_keep h.fs fun g hg => hk g (owns_lt h.fs g hg) (h.fF g hg) }
theorem RefVAt.mono {w : World} {F F' : Nat → Prop} {B : Nat} {hv pv fv : Value} {S : VS} (h : RefVAt w F B hv pv fv S) (hF : ∀ k, k < w.heap.size → F k → F' k) : RefVAt w F' B hv pv fv S :=
  { h with
    fB := hF _ h.row.lt h.fB
    hF := fun g hg => hF g (owns_lt h.hs g hg) (h.hF g hg)
    pF := fun g hg => hF g (owns_lt h.ps g hg) (h.pF g hg)
    fF := fun g hg => hF g (owns_lt h.fs g hg) (h.fF g hg) }
theorem RefV.keep {w w' : World} {F : Nat → Prop} {B : Nat} {S : VS} (h : RefV w F B S) (hk : ∀ k, k < w.heap.size → F k → w'.heap[k]? = w.heap[k]?) : RefV w' F B S := by
  obtain ⟨a, b, c, h⟩ := h
  exact ⟨a, b, c, h.keep hk⟩
theorem RefV.mono {w : World} {F F' : Nat → Prop} {B : Nat} {S : VS} (h : RefV w F B S) (hF : ∀ k, k < w.heap.size → F k → F' k) : RefV w F' B S := by
  obtain ⟨a, b, c, h⟩ := h
  exact ⟨a, b, c, h.mono hF⟩
theorem RefV.below {w w' : World} {F : Nat → Prop} {B : Nat} {S : VS} (h : RefV w F B S) (hb : Below w.heap.size w w') : RefV w' F B S := h.keep fun k hk _ => hb.block k hk
theorem RefV.lt {w : World} {F : Nat → Prop} {B : Nat} {S : VS} (h : RefV w F B S) : B < w.heap.size := by
  obtain ⟨a, b, c, h⟩ := h
  exact h.row.lt
/-- A slice that grew lies where it lay, or in a block that is new. -/
theorem own_new {w : World} {e : TypeId} {z n g N : Nat} {u v v' : Value} {xs : List Value} (h : w.ownsRow 0 e z u n xs) (hu : u.ownBlock = some g) (hN : w.heap.size ≤ N) (hne : v.ownBlock ≠ some g) (hat : v'.ownBlock = v.ownBlock ∨ v'.ownBlock = some N) : v'.ownBlock ≠ some g := by
  rcases hat with e | e
  · rw [e]; exact hne
  · rw [e]; intro e2; cases e2; have := owns_lt h g hu; omega

theorem RefVAt.add_h {w0 w w' : World} {F : Nat → Prop} {B : Nat} {hv pv fv v' : Value} {S : VS} {x : ByteArray} (h : RefVAt w F B hv pv fv S) (ht : Touch F w0 w)
    (hown : w'.ownsRow 0 9 1 v' (S.texts.length + 1) (texC S.texts ++ [.string x])) (hg : w.grownBy w' hv.ownBlock) (hat : v'.ownBlock = hv.ownBlock ∨ v'.ownBlock = some w.heap.size) :
    w'.cell? ⟨B, 2, none⟩ = some hv ∧ w'.frozen? ⟨B, 2, none⟩ = false ∧ RefVAt (w'.setCell ⟨B, 2, none⟩ v') (grow F w0 (w'.setCell ⟨B, 2, none⟩ v')) B v' pv fv { S with texts := S.texts ++ [x] } ∧ Touch F w0 (w'.setCell ⟨B, 2, none⟩ v') := by
  have hB := h.row.lt
  have r1 : Row w' B _ _ := (hg.block B h.row.lt (fun e => h.hB e.symm)).trans h.row
  have np : ∀ g, pv.ownBlock = some g → hv.ownBlock ≠ some g := fun g hg' => (fun e => h.hp g e hg')
  have rp := owns_keep (w' := w') h.ps fun g hg' => hg.block g (owns_lt h.ps g hg') (fun e => np g hg' e.symm)
  have nf : ∀ g, fv.ownBlock = some g → hv.ownBlock ≠ some g := fun g hg' => (fun e => h.hf g e hg')
  have rf := owns_keep (w' := w') h.fs fun g hg' => hg.block g (owns_lt h.fs g hg') (fun e => nf g hg' e.symm)
  have nB : v'.ownBlock ≠ some B := by
    rcases hat with e | e
    · rw [e]; exact h.hB
    · rw [e]; intro e2; cases e2; omega
  have hsz : (w'.setCell ⟨B, 2, none⟩ v').heap.size = w'.heap.size := by simp
  have ht2 : Touch F w0 w' := ⟨ht.1.trans ⟨hg.os, hg.tape, hg.output, hg.size, fun k hk => absurd hk (Nat.not_lt_zero k)⟩, fun k hk hn => (hg.block k (Nat.lt_of_lt_of_le hk ht.size) (fun e => hn (h.hF k e.symm))).trans (ht.2 k hk hn)⟩
  have hnew : w'.ownsRow 0 9 1 v' (S.texts ++ [x]).length (texC (S.texts ++ [x])) := by
    rw [texC_snoc, List.length_append]
    exact hown
  have hFn : ∀ g, v'.ownBlock = some g → grow F w0 (w'.setCell ⟨B, 2, none⟩ v') g := fun g hg' => by
    have hlt := owns_lt hown g hg'
    rcases hat with e | e
    · exact .inl (h.hF g (by rw [← e]; exact hg'))
    · rw [e] at hg'
      cases hg'
      exact .inr ⟨ht.size, by rw [hsz]; exact hlt⟩
  exact ⟨r1.cell 2, r1.frozen 2, ⟨r1.setL 2 v', owns_off hnew nB _ _, owns_off rp h.pB _ _, owns_off rf h.qB _ _, .inl h.fB, hFn, fun g hg' => .inl (h.pF g hg'), fun g hg' => .inl (h.fF g hg'), nB, h.pB, h.qB, fun g hg' e => own_new h.ps e (Nat.le_refl _) (np g e) hat hg', fun g hg' e => own_new h.fs e (Nat.le_refl _) (nf g e) hat hg', h.pf⟩, ht2.setCell _ _ _ (.inl h.fB)⟩

theorem RefVAt.add_p {w0 w w' : World} {F : Nat → Prop} {B : Nat} {hv pv fv v' : Value} {S : VS} {x : ByteArray × ByteArray} (h : RefVAt w F B hv pv fv S) (ht : Touch F w0 w)
    (hown : w'.ownsRow 0 361 2 v' (S.marks.length + 1) (marC S.marks ++ [.string x.1, .string x.2])) (hg : w.grownBy w' pv.ownBlock) (hat : v'.ownBlock = pv.ownBlock ∨ v'.ownBlock = some w.heap.size) :
    w'.cell? ⟨B, 3, none⟩ = some pv ∧ w'.frozen? ⟨B, 3, none⟩ = false ∧ RefVAt (w'.setCell ⟨B, 3, none⟩ v') (grow F w0 (w'.setCell ⟨B, 3, none⟩ v')) B hv v' fv { S with marks := S.marks ++ [x] } ∧ Touch F w0 (w'.setCell ⟨B, 3, none⟩ v') := by
  have hB := h.row.lt
  have r1 : Row w' B _ _ := (hg.block B h.row.lt (fun e => h.pB e.symm)).trans h.row
  have nh : ∀ g, hv.ownBlock = some g → pv.ownBlock ≠ some g := fun g hg' => h.hp g hg'
  have rh := owns_keep (w' := w') h.hs fun g hg' => hg.block g (owns_lt h.hs g hg') (fun e => nh g hg' e.symm)
  have nf : ∀ g, fv.ownBlock = some g → pv.ownBlock ≠ some g := fun g hg' => (fun e => h.pf g e hg')
  have rf := owns_keep (w' := w') h.fs fun g hg' => hg.block g (owns_lt h.fs g hg') (fun e => nf g hg' e.symm)
  have nB : v'.ownBlock ≠ some B := by
    rcases hat with e | e
    · rw [e]; exact h.pB
    · rw [e]; intro e2; cases e2; omega
  have hsz : (w'.setCell ⟨B, 3, none⟩ v').heap.size = w'.heap.size := by simp
  have ht2 : Touch F w0 w' := ⟨ht.1.trans ⟨hg.os, hg.tape, hg.output, hg.size, fun k hk => absurd hk (Nat.not_lt_zero k)⟩, fun k hk hn => (hg.block k (Nat.lt_of_lt_of_le hk ht.size) (fun e => hn (h.pF k e.symm))).trans (ht.2 k hk hn)⟩
  have hnew : w'.ownsRow 0 361 2 v' (S.marks ++ [x]).length (marC (S.marks ++ [x])) := by
    rw [marC_snoc, List.length_append]
    exact hown
  have hFn : ∀ g, v'.ownBlock = some g → grow F w0 (w'.setCell ⟨B, 3, none⟩ v') g := fun g hg' => by
    have hlt := owns_lt hown g hg'
    rcases hat with e | e
    · exact .inl (h.pF g (by rw [← e]; exact hg'))
    · rw [e] at hg'
      cases hg'
      exact .inr ⟨ht.size, by rw [hsz]; exact hlt⟩
  exact ⟨r1.cell 3, r1.frozen 3, ⟨r1.setL 3 v', owns_off rh h.hB _ _, owns_off hnew nB _ _, owns_off rf h.qB _ _, .inl h.fB, fun g hg' => .inl (h.hF g hg'), hFn, fun g hg' => .inl (h.fF g hg'), h.hB, nB, h.qB, fun g hg' => own_new h.hs hg' (Nat.le_refl _) (nh g hg') hat, h.hf, fun g hg' e => own_new h.fs e (Nat.le_refl _) (nf g e) hat hg'⟩, ht2.setCell _ _ _ (.inl h.fB)⟩

theorem RefVAt.add_f {w0 w w' : World} {F : Nat → Prop} {B : Nat} {hv pv fv v' : Value} {S : VS} {x : Four} (h : RefVAt w F B hv pv fv S) (ht : Touch F w0 w)
    (hown : w'.ownsRow 0 169 4 v' (S.seals.length + 1) (fouC S.seals ++ [.int .i64 x.salt, .string x.nonce, .string x.ad, .string x.text])) (hg : w.grownBy w' fv.ownBlock) (hat : v'.ownBlock = fv.ownBlock ∨ v'.ownBlock = some w.heap.size) :
    w'.cell? ⟨B, 4, none⟩ = some fv ∧ w'.frozen? ⟨B, 4, none⟩ = false ∧ RefVAt (w'.setCell ⟨B, 4, none⟩ v') (grow F w0 (w'.setCell ⟨B, 4, none⟩ v')) B hv pv v' { S with seals := S.seals ++ [x] } ∧ Touch F w0 (w'.setCell ⟨B, 4, none⟩ v') := by
  have hB := h.row.lt
  have r1 : Row w' B _ _ := (hg.block B h.row.lt (fun e => h.qB e.symm)).trans h.row
  have nh : ∀ g, hv.ownBlock = some g → fv.ownBlock ≠ some g := fun g hg' => h.hf g hg'
  have rh := owns_keep (w' := w') h.hs fun g hg' => hg.block g (owns_lt h.hs g hg') (fun e => nh g hg' e.symm)
  have np : ∀ g, pv.ownBlock = some g → fv.ownBlock ≠ some g := fun g hg' => h.pf g hg'
  have rp := owns_keep (w' := w') h.ps fun g hg' => hg.block g (owns_lt h.ps g hg') (fun e => np g hg' e.symm)
  have nB : v'.ownBlock ≠ some B := by
    rcases hat with e | e
    · rw [e]; exact h.qB
    · rw [e]; intro e2; cases e2; omega
  have hsz : (w'.setCell ⟨B, 4, none⟩ v').heap.size = w'.heap.size := by simp
  have ht2 : Touch F w0 w' := ⟨ht.1.trans ⟨hg.os, hg.tape, hg.output, hg.size, fun k hk => absurd hk (Nat.not_lt_zero k)⟩, fun k hk hn => (hg.block k (Nat.lt_of_lt_of_le hk ht.size) (fun e => hn (h.fF k e.symm))).trans (ht.2 k hk hn)⟩
  have hnew : w'.ownsRow 0 169 4 v' (S.seals ++ [x]).length (fouC (S.seals ++ [x])) := by
    rw [fouC_snoc, List.length_append]
    exact hown
  have hFn : ∀ g, v'.ownBlock = some g → grow F w0 (w'.setCell ⟨B, 4, none⟩ v') g := fun g hg' => by
    have hlt := owns_lt hown g hg'
    rcases hat with e | e
    · exact .inl (h.fF g (by rw [← e]; exact hg'))
    · rw [e] at hg'
      cases hg'
      exact .inr ⟨ht.size, by rw [hsz]; exact hlt⟩
  exact ⟨r1.cell 4, r1.frozen 4, ⟨r1.setL 4 v', owns_off rh h.hB _ _, owns_off rp h.pB _ _, owns_off hnew nB _ _, .inl h.fB, fun g hg' => .inl (h.hF g hg'), fun g hg' => .inl (h.pF g hg'), hFn, h.hB, h.pB, nB, h.hp, fun g hg' => own_new h.hs hg' (Nat.le_refl _) (nh g hg') hat, fun g hg' => own_new h.ps hg' (Nat.le_refl _) (np g hg') hat⟩, ht2.setCell _ _ _ (.inl h.fB)⟩
end Go.Proofs.YtldkdoddklfdlaaGreatDoor
