/- journal's layoutOf and Live over any device whose sectors are told. · What journal's functions tell, in plain words; nothing of the program's calls. -/
import Derived.Test.YtbmjablmmlnieaaGreatDoorMg22
import Derived.BigQuiet
import Derived.Deep.RegionHeld3
import Derived.Test.YtbmjablmmlnieaaGreatDoorMg20
import Derived.Test.YtbmjablmmlnieaaGreatDoorMg21
import Derived.Test.YtbmjablmmlnieaaGreatDoorMg01
import Derived.Test.YtbmjablmmlnieaaGreatDoorMg04
import Derived.Test.YtbmjablmmlnieaaGreatDoorMg17
namespace Go.Proofs.YtbmjablmmlnieaaGreatDoor
set_option maxRecDepth 20000
open Go.RowKit

theorem below_setRow {B g : Nat} {w w' : World} (h : Below B w w') (hg : B ≤ g) (cs : Array Value) : Below B w (w'.setRow g cs) := h.trans ⟨rfl, rfl, rfl, by simp [World.setRow], fun k hk => setRow_other _ _ _ _ (by omega)⟩
theorem lo_ret (tmps : Array Value) (g : Nat) (w' : World) (y : Int) (cs : Array Value) (R : Ending → World → Prop) (h1 : tmps.getD 2 undef = .pointer (some ⟨g, 0, none⟩)) (h3 : tmps.getD 3 undef = .int .i64 y) (hg : w'.heap[g]? = some (.cells cs 71 (0, 0))) (hs : cs.size = 16) (hR : R (.returned (.tuple #[.agg cs, .int .i64 y])) w') :
    bodyPost Tryz.prog Tryz.f27 R .ret { tmps := tmps, defers := [] } w' := by
  have hr := run_loadVar_row (P := Tryz.prog) w' g 71 71 cs (0, 0) _ hg Tryz.underlying71 rfl (by rw [hs]; kernel_rfl)
  simp at h1 h3
  exact bodyPost_ret (v := .tuple #[.agg cs, .int .i64 y]) (by simp [results, Tryz.results27, asAddr, hr, h1, h3]) rfl hR
/-- What a round of layoutOf knows. -/
structure LoR (w : World) (s : Int) (k : Nat) (wr : World) : Prop where
  lo : 48 ≤ k
  hi : k ≤ 1025
  go : liveO s = lvGo s (1025 - k) k
  below : Below w.heap.size w wr
  res : wr.heap[w.heap.size]? = some (.cells layZ 71 (0, 0))
set_option maxHeartbeats 4000000 in
theorem layoutOf_any (p : Value) (s : Int) (w : World) (hS : ∀ W, Below w.heap.size w W → Calls Tryz.prog 60 #[p] W fun e W' => e = .returned (.int .i64 s) ∧ W' = W) :
    Calls Tryz.prog 27 #[p] w fun e w' => e = .returned (.tuple #[.agg (loA s), .int .i64 (loE s)]) ∧ Below w.heap.size w w' := by
  obtain ⟨X, hX⟩ : ∃ X, X = loA s := ⟨_, rfl⟩
  obtain ⟨Y, hY⟩ : ∃ Y, Y = loE s := ⟨_, rfl⟩
  rw [← hX, ← hY]
  have HX : Hid (X = loA s ∧ Y = loE s) := ⟨hX, hY⟩
  have HS : Hid (∀ W, Below w.heap.size w W → Calls Tryz.prog 60 #[p] W fun e W' => e = .returned (.int .i64 s) ∧ W' = W) := hS
  have HI : Hid (LoR w s 48 (w.alloc (.cells layZ 71))) := ⟨Nat.le_refl _, by omega, rfl, (Below.refl _ _).alloc (Nat.le_refl _) _, heap_alloc_new w _⟩
  clear hX hY hS
  unfold layZ at HI
  go_enter Tryz.func27, Tryz.ntmps27
  go_wp2_with fail
  go_loopw [4] (fun iv wr => ∃ k : Nat, iv = .int .i64 (k : Int) ∧ Hid (LoR w s k wr)) (fun iv _ => 1025 - (intOf iv).toNat)
  case atStart => exact ⟨48, rfl, HI⟩
  case round =>
    clear HI
    obtain ⟨k, rfl, HR⟩ := hrel
    have hk := HR.out.lo
    by_cases hlt : k ≤ 1024
    · have j1 : (k : Int) ≤ 1024 := by omega
      have hl := layout_any k hk hlt
      have hT := totI_bound hlt
      have HG : Hid ((totI k * 8 = s → X = layA k (layQ k) (layS k) (layT k) ∧ Y = 0) ∧ (¬ totI k * 8 = s → liveO s = lvGo s (1025 - (k + 1)) (k + 1))) := by
        have e : liveO s = if totI k * 8 = s then some k else lvGo s (1025 - (k + 1)) (k + 1) := by rw [HR.out.go, show 1025 - k = (1025 - (k + 1)) + 1 by omega]; rfl
        refine ⟨fun h => ?_, fun h => by rw [e, if_neg h]⟩
        rw [if_pos h] at e
        rw [HX.out.1, HX.out.2, loA, loE, e]
        exact ⟨rfl, rfl⟩
      have hA1 := loA_one k (layQ k) (layS k) (layT k)
      unfold totI at hT HG
      generalize layQ k = q at *
      generalize layS k = s2 at *
      generalize layT k = tt at *
      obtain ⟨A, hA⟩ : ∃ A, A = layA k q s2 tt := ⟨_, rfl⟩
      rw [← hA] at HG hA1
      unfold layA at hl hA
      generalize (k : Int) + 1 + (tt : Int) + (k : Int) = t at *
      have hAs : A.size = 16 := by rw [hA]; rfl
      go_wp2_with fail
      refine (hl _).mono ?_
      rintro e w1 ⟨rfl, hb1⟩
      clear hl
      have hb2 : Below w.heap.size w w1 := HR.out.below.trans (hb1.mono HR.out.below.size)
      have hr2 : w1.heap[w.heap.size]? = some (.cells layZ 71 (0, 0)) := (hb1.block _ (lt_of_block HR.out.res)).trans HR.out.res
      have H1 : Hid (Below w.heap.size w w1 ∧ w1.heap[w.heap.size]? = some (.cells layZ 71 (0, 0))) := ⟨hb2, hr2⟩
      clear hb1 hb2 hr2
      have HA : Hid (A = #[.int .i64 (k : Int), .int .i64 2, .int .i64 3, .int .i64 27, .int .i64 28, .int .i64 29, .int .i64 (q : Int), .int .i64 (29 + (q : Int)), .int .i64 (s2 : Int), .int .i64 (29 + (q : Int) + (s2 : Int)), .int .i64 (29 + (q : Int) + (s2 : Int) + 1), .int .i64 (k : Int), .int .i64 ((k : Int) + 1), .int .i64 (tt : Int), .int .i64 ((k : Int) + 1 + (tt : Int)), .int .i64 t]) := hA
      clear hA
      go_wp2_with fail
      obtain ⟨w2, hw2⟩ : ∃ w2, w2 = w1.alloc (.cells #[.int .i64 (k : Int), .int .i64 2, .int .i64 3, .int .i64 27, .int .i64 28, .int .i64 29, .int .i64 (q : Int), .int .i64 (29 + (q : Int)), .int .i64 (s2 : Int), .int .i64 (29 + (q : Int) + (s2 : Int)), .int .i64 (29 + (q : Int) + (s2 : Int) + 1), .int .i64 (k : Int), .int .i64 ((k : Int) + 1), .int .i64 (tt : Int), .int .i64 ((k : Int) + 1 + (tt : Int)), .int .i64 t] 71) := ⟨_, rfl⟩
      have hb2 : Below w.heap.size w w2 := by rw [hw2]; exact H1.out.1.alloc H1.out.1.size _
      have hr2 : w2.heap[w.heap.size]? = some (.cells layZ 71 (0, 0)) := by rw [hw2]; exact (Below.heap_alloc w1 _ _ (lt_of_block H1.out.2)).trans H1.out.2
      have he2 : w2.heap[w1.heap.size]? = some (.cells A 71 (0, 0)) := by rw [hw2, HA.out]; exact heap_alloc_new w1 _
      have hne : w1.heap.size ≠ w.heap.size := by have := lt_of_block H1.out.2; omega
      rw [← hw2]
      have c15 : w2.cell? ⟨w1.heap.size, 15, none⟩ = some (.int .i64 t) := by rw [cell_of_row _ _ 15 _ _ _ he2, HA.out]; rfl
      clear hw2 HA
      generalize w1.heap.size = g at *
      have HQ : Hid (∀ n, Calls Tryz.prog 60 #[p] (w2.drewN n) fun e W' => e = .returned (.int .i64 s) ∧ W' = w2.drewN n) := fun n => HS.out _ (hb2.trans ⟨rfl, rfl, rfl, Nat.le_refl _, fun _ _ => rfl⟩)
      have H2 : Hid (Below w.heap.size w w2 ∧ w2.heap[w.heap.size]? = some (.cells layZ 71 (0, 0)) ∧ w2.heap[g]? = some (.cells A 71 (0, 0))) := ⟨hb2, hr2, he2⟩
      clear H1 hb2 hr2 he2 HS HR
      by_cases hs : t * 8 = s
      · have hs1 : decide (t * 8 = s) = true := by simp [hs]
        subst hs
        have HXY : Hid (X = A ∧ Y = 0) := HG.out.1 rfl
        clear HG
        go_quiet (first | (go_at_call 60; exact Calls.quiet_of_same (HQ.out _)))
        have hb3 : Below w.heap.size w (w2.drewN nq) := H2.out.1.trans ⟨rfl, rfl, rfl, Nat.le_refl _, fun _ _ => rfl⟩
        have hr3 : (w2.drewN nq).heap[w.heap.size]? = some (.cells layZ 71 (0, 0)) := H2.out.2.1
        have he3 : (w2.drewN nq).heap[g]? = some (.cells A 71 (0, 0)) := H2.out.2.2
        clear c15 HQ H2
        generalize w2.drewN nq = w3 at *
        go_wp2_with (first | refine wpList_load_row rfl 71 _ rfl g rfl 71 A (0, 0) _ he3 Tryz.underlying71 rfl (by rw [hAs]; kernel_rfl) ?_ | refine wpList_store_row rfl 71 _ _ rfl w.heap.size A rfl rfl 71 _ hr3 (by rw [hAs]; kernel_rfl) (by rw [hAs]; rfl) hA1 ?_)
        rw [HXY.out.1, HXY.out.2]
        exact lo_ret _ w.heap.size _ 0 A _ rfl rfl (setRow_heap _ _ _ _ _ _ hr3) hAs ⟨rfl, below_setRow hb3 (Nat.le_refl _) _⟩
      · have hs1 : (t * 8 == s) = false := by simp [hs]
        have hs2 : decide (t * 8 = s) = false := by simp [hs]
        go_quiet (first | (go_at_call 60; exact Calls.quiet_of_same (HQ.out _)))
        have HF : Hid (LoR w s (k + 1) (w2.drewN nq)) := ⟨by omega, by omega, HG.out.2 hs, H2.out.1.trans ⟨rfl, rfl, rfl, Nat.le_refl _, fun _ _ => rfl⟩, H2.out.2.1⟩
        clear c15 HQ H2 HG
        go_wp2
        go_roundw
        case rel => exact ⟨k + 1, by go_num, HF⟩
        case measure => simp [intOf]; omega
    · have j1 : ¬ (k : Int) ≤ 1024 := by omega
      have hk5 := HR.out.hi
      have HE : Hid (X = layZ ∧ Y = 30) := by
        have e : liveO s = none := by rw [HR.out.go, show 1025 - k = 0 by omega]; rfl
        rw [HX.out.1, HX.out.2, loA, loE, e]
        exact ⟨rfl, rfl⟩
      have hr3 := HR.out.res
      go_wp2_with (refine wpList_store_row rfl 71 _ _ rfl w.heap.size layZ rfl rfl 71 _ hr3 (by kernel_rfl) rfl (by simp [layZ, Value.oneCell']) ?_)
      rw [HE.out.1, HE.out.2]
      exact lo_ret _ w.heap.size _ 30 layZ _ rfl rfl (setRow_heap _ _ _ _ _ _ hr3) rfl ⟨rfl, below_setRow HR.out.below (Nat.le_refl _) _⟩
theorem live_any (p : Value) (s : Int) (w : World) (hS : ∀ W, Below w.heap.size w W → Calls Tryz.prog 60 #[p] W fun e W' => e = .returned (.int .i64 s) ∧ W' = W) :
    Calls Tryz.prog 8 #[p] w fun e w' => e = .returned (.tuple #[.int .i64 (loN s), .int .i64 (loE s)]) ∧ Below w.heap.size w w' := by
  have h1 := layoutOf_any p s w hS
  clear hS
  unfold loA loE at h1
  unfold loN loE
  cases hq : liveO s with
  | none =>
    rw [hq] at h1
    simp only [layZ] at h1
    go_enter Tryz.func8, Tryz.ntmps8
    go_wp2_with fail
    refine h1.mono ?_
    rintro e w1 ⟨rfl, hb1⟩
    have HB : Hid (Below w.heap.size w w1) := hb1
    clear hb1 h1
    go_wp2
    go_ret2
    exact ⟨rfl, HB.out.alloc HB.out.size _⟩
  | some n =>
    rw [hq] at h1
    simp only [layA] at h1
    generalize layQ n = q at *
    generalize layS n = s2 at *
    generalize layT n = tt at *
    go_enter Tryz.func8, Tryz.ntmps8
    go_wp2_with fail
    refine h1.mono ?_
    rintro e w1 ⟨rfl, hb1⟩
    have HB : Hid (Below w.heap.size w w1) := hb1
    clear hb1 h1
    go_wp2
    go_ret2
    exact ⟨rfl, HB.out.alloc HB.out.size _⟩
end Go.Proofs.YtbmjablmmlnieaaGreatDoor

namespace Go.Proofs.YtbmjablmmlnieaaGreatDoor
set_option maxRecDepth 20000
open Go.RowKit

/-- A superblock. -/
structure Sp where
  vol : Int
  ep : Int
  nx : Int
  lv : Int
  root : ByteArray
def Sp.arr (s : Sp) : Array Value := #[.int .i64 s.vol, .int .i64 s.ep, .int .i64 s.nx, .int .i64 s.lv, .string s.root]
def Sp.zero : Sp := ⟨0, 0, 0, 0, ⟨#[]⟩⟩
def Sp.txt (s : Sp) : ByteArray := superS s.vol s.ep s.nx s.lv s.root
def Sp.err (s : Sp) : Int := superE s.vol s.ep s.nx s.lv s.root
theorem sp_size {s : Sp} (h : s.err = 0) : s.txt.size = 448 := by
  unfold Sp.err superE at h
  split at h
  · next hr =>
    have hl := recE_zero h
    unfold Sp.txt superS
    rw [if_pos ⟨hr, hl⟩]
    have h2 := laidL_length (superPs s.vol s.ep s.nx s.lv) hl
    have h3 : s.root.data.toList.length = 32 := by rw [← hr]; simp
    show ((laidL (superPs s.vol s.ep s.nx s.lv) ++ s.root.data.toList) ++ List.replicate 394 0).toArray.size = 448
    rw [List.size_toArray, List.length_append, List.length_append, h2, h3, List.length_replicate]
    rfl
  · cases h
def spOf (t : ByteArray) : Sp := ⟨superON t 0 6, superON t 6 6, superON t 12 6, superON t 18 4, superOR t⟩
theorem superOC_arr (t : ByteArray) : superOC t = (spOf t).arr := rfl
/-- A superblock's head; what Super tells. -/
def Sp.hd (s : Sp) : Hd := ⟨s.vol, s.ep.tmod 2, 1, 0, 0, 0, s.ep, s.ep⟩
def supE (s : Sp) : Int := if s.err = 0 then bsealE s.hd s.txt else s.err
def supA (s : Sp) : Int := if supE s = 0 then s.ep.tmod 2 else 0
def supR (K : VK) (S : K.σ) (s : Sp) : ByteArray := if supE s = 0 then K.sS S s.hd s.txt else ⟨#[]⟩
def supP (K : VK) (S : K.σ) (s : Sp) : K.σ := if s.err = 0 then K.sP S s.hd s.txt else S
theorem supR_size {K : VK} (HK : VKOk K) {S : K.σ} {s : Sp} (hr : K.room S 1) (h : supE s = 0) : (supR K S s).size = 512 := by
  unfold supR
  rw [if_pos h]
  by_cases he : s.err = 0
  · unfold supE at h
    rw [if_pos he] at h
    exact HK.sSize S _ _ hr h
  · unfold supE at h
    rw [if_neg he] at h
    exact absurd h he
theorem supP_room {K : VK} (HK : VKOk K) {S : K.σ} {s : Sp} {n : Nat} (hr : K.room S (n + 1)) : K.room (supP K S s) n := by
  unfold supP
  split
  · exact HK.sRoom hr
  · exact HK.less hr (Nat.le_succ n)
/-- A reading. -/
structure Rg where
  ok : Bool
  h : Hd
  body : ByteArray
def Rg.arr (r : Rg) : Array Value := readA r.ok r.h r.body
def Rg.zero : Rg := ⟨false, Hd.zero, ⟨#[]⟩⟩
def toldR (K : VK) (S : K.σ) (r : ByteArray) (a : Int) : Rg := if K.oE S r = 0 ∧ (K.oH S r).v1 = a then ⟨true, K.oH S r, K.oS S r⟩ else Rg.zero
theorem toldR_arr (K : VK) (S : K.σ) (r : ByteArray) (a : Int) : toldK K S r a = (toldR K S r a).arr := by
  unfold toldK toldR
  split <;> rfl
def loadR (K : VK) (S : PS) (T : K.σ) (a : Int) : Rg := if (bget S a).1.2.2 = 0 ∧ (bget S a).1.2.1 = 0 then toldR K T (bget S a).1.1 a else Rg.zero
def lookR (K : VK) (T : K.σ) (raws : List ByteArray) (masks : List Int) (a : Int) : Rg := if atM raws masks a = 0 then toldR K T (atS raws masks a) a else Rg.zero
theorem lookR_arr (K : VK) (T : K.σ) (raws : List ByteArray) (masks : List Int) (a : Int) : lookK K T raws masks a = (lookR K T raws masks a).arr := by
  unfold lookK lookR
  split
  · exact toldR_arr K T _ a
  · rfl
/-- The superblock that a slot's reading is. -/
def sinB (r : Rg) (slot live : Int) : Bool := decide (r.ok = true ∧ r.h.v2 = 1 ∧ superOE r.body = 0 ∧ (spOf r.body).ep.tmod 2 = slot ∧ (spOf r.body).lv = live)
def sinS (r : Rg) (slot live : Int) : Sp := if sinB r slot live then spOf r.body else Sp.zero
/-- The one that is chosen behind j slots. -/
def chN (l : List Rg) (live : Int) : Nat → Option Sp
  | 0 => none
  | j + 1 => match l[j]? with
    | some r => if sinB r j live = true ∧ (∀ b, chN l live j = some b → b.ep < (spOf r.body).ep) then some (spOf r.body) else chN l live j
    | none => chN l live j
def chO (l : List Rg) (live : Int) : Option Sp := chN l live (min 2 l.length)
def osp (o : Option Sp) : Sp := o.getD Sp.zero
/-- A block's head is one of its address. -/
def hdB (x : Wt) : Bool := decide (x.raw.size = 512 ∧ headE (x.raw.extract 0 48) = 0 ∧ (hdOf (x.raw.extract 0 48)).v1 = x.at_)
def togB (least live : Int) : List Wt → Bool
  | [] => true
  | x :: l => decide (least ≤ x.at_ ∧ x.at_ < live) && hdB x && togB (x.at_ + 1) live l
def recsL (log : Int) : Nat → List Wt → List Wt
  | _, [] => []
  | i, x :: l => ⟨log + (i : Int), x.raw⟩ :: recsL log (i + 1) l
def joinB : List Wt → ByteArray
  | [] => ⟨#[]⟩
  | x :: l => x.raw ++ joinB l
/-- The promise's head, its body, its block. -/
def Sp.hdC (s : Sp) : Hd := ⟨s.vol, 2, 2, 0, 0, 0, s.ep, s.ep⟩
def proT (K : VK) (S : K.σ) (ws : List Wt) (s : Sp) : ByteArray := padS (putS (ws.length : Int) 2 ++ K.hS S (joinB ws) ++ s.txt.extract 0 54) 448
def proE (K : VK) (S : K.σ) (ws : List Wt) (s : Sp) : Int := if s.err = 0 then bsealE s.hdC (proT K S ws s) else s.err
def proA (K : VK) (S : K.σ) (ws : List Wt) (s : Sp) : Int := if proE K S ws s = 0 then 2 else 0
def proR (K : VK) (S : K.σ) (ws : List Wt) (s : Sp) : ByteArray := if proE K S ws s = 0 then K.sS (K.hP S (joinB ws)) s.hdC (proT K S ws s) else ⟨#[]⟩
def proP (K : VK) (S : K.σ) (ws : List Wt) (s : Sp) : K.σ := if s.err = 0 then K.sP (K.hP S (joinB ws)) s.hdC (proT K S ws s) else S
/-- What a reading promises. -/
def piT (r : Rg) : ByteArray := padS (r.body.extract 34 448) 448
def piB (r : Rg) (live : Int) : Bool := decide (r.ok = true ∧ r.h.v2 = 2 ∧ getN r.body 0 2 ≤ 24 ∧ superOE (piT r) = 0 ∧ (spOf (piT r)).lv = live)
def piN (r : Rg) (live : Int) : Int := if piB r live then getN r.body 0 2 else 0
def piS (r : Rg) (live : Int) : Sp := if piB r live then spOf (piT r) else Sp.zero
/-- The records. -/
def rcdW (raws : List ByteArray) (masks : List Int) (log : Int) (i : Nat) : Wt := ⟨(hdOf ((atS raws masks (log + (i : Int))).extract 0 48)).v1, atS raws masks (log + (i : Int))⟩
def rcdL (raws : List ByteArray) (masks : List Int) (log : Int) (n : Nat) : List Wt := (List.range n).map (rcdW raws masks log)
def rcdB (raws : List ByteArray) (masks : List Int) (log : Int) (n : Nat) : Bool := (List.range n).all fun i => decide (atM raws masks (log + (i : Int)) = 0)
end Go.Proofs.YtbmjablmmlnieaaGreatDoor
