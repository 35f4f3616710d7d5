/- pack.HeadOf, called with any text, tells the head and the error that the text is by the document. · The numbers of a text that is a head are laid as that text; nothing of the program's calls. · Numbers in the same widths, and entries, that are laid as the same bytes are the same. · Blocks in plain words: heads, nonces, what is sealed under the ideal vault and what opens; nothing of the program's calls. -/
import Derived.Test.YtdhiopbomnfmnaaGreatDoorMg08
import Derived.Test.YtdhiopbomnfmnaaGreatDoorMg07
import Derived.Test.YtdhiopbomnfmnaaGreatDoorMg01
import Derived.Test.YtdhiopbomnfmnaaGreatDoorMg03
namespace Go.Proofs.YtdhiopbomnfmnaaGreatDoor
set_option maxRecDepth 20000
open Go.RowKit

theorem read_returns (s : ByteArray) (hs : s.size ≤ 48) (hT : ∀ (w : World) (b : Nat), Rd w b s 0 → Calls Tryz.prog 47 #[.pointer (some ⟨b, 0, none⟩)] w fun e w' => e = .returned (.agg (headCells s)) ∧ Only b w w') (w : World) :
    Calls Tryz.prog 46 #[.string s, .int .i64 48, .func (.func 47) #[] #[]] w fun e w' => e = .returned (.tuple #[.agg (headCells s), .int .i64 0]) ∧ Below w.heap.size w w' := by
  have hmf : ∀ (fn : Fn) (first cap : Array Value) (w : World), (Instr.makeFunc fn first cap).run Tryz.prog w = .ok (.func fn first cap) w := fun _ _ _ _ => rfl
  have i1 : ¬ (48 : Int) < s.size := by omega
  go_enter_defers Tryz.func46, Tryz.ntmps46
  go_wp2_with fail
  have hb0 : Below w.heap.size w (((w.alloc (.cells #[.int .i64 0, .int .i64 0, .int .i64 0, .int .i64 0, .int .i64 0, .int .i64 0, .int .i64 0, .int .i64 0] 23)).alloc (.cells #[.int .i64 0] 25)).alloc (.cells #[.string s, .int .i64 0] 124)) := (((Below.refl _ _).alloc (Nat.le_refl _) _).alloc (by simp) _).alloc (by simp; omega) _
  have hR : Rd (((w.alloc (.cells #[.int .i64 0, .int .i64 0, .int .i64 0, .int .i64 0, .int .i64 0, .int .i64 0, .int .i64 0, .int .i64 0] 23)).alloc (.cells #[.int .i64 0] 25)).alloc (.cells #[.string s, .int .i64 0] 124)) (w.heap.size + 1 + 1) s 0 := by
    have := heap_alloc_new ((w.alloc (.cells #[.int .i64 0, .int .i64 0, .int .i64 0, .int .i64 0, .int .i64 0, .int .i64 0, .int .i64 0, .int .i64 0] 23)).alloc (.cells #[.int .i64 0] 25)) (.cells #[.string s, .int .i64 0] 124)
    simpa [Rd] using this
  have g0 : (((w.alloc (.cells #[.int .i64 0, .int .i64 0, .int .i64 0, .int .i64 0, .int .i64 0, .int .i64 0, .int .i64 0, .int .i64 0] 23)).alloc (.cells #[.int .i64 0] 25)).alloc (.cells #[.string s, .int .i64 0] 124)).heap[w.heap.size]? = some (.cells #[.int .i64 0, .int .i64 0, .int .i64 0, .int .i64 0, .int .i64 0, .int .i64 0, .int .i64 0, .int .i64 0] 23 (0, 0)) :=
    (Below.heap_alloc _ _ _ (by simp; omega)).trans (heap_alloc2_old w _ _)
  have g1 : (((w.alloc (.cells #[.int .i64 0, .int .i64 0, .int .i64 0, .int .i64 0, .int .i64 0, .int .i64 0, .int .i64 0, .int .i64 0] 23)).alloc (.cells #[.int .i64 0] 25)).alloc (.cells #[.string s, .int .i64 0] 124)).heap[w.heap.size + 1]? = some (.cells #[.int .i64 0] 25 (0, 0)) :=
    (Below.heap_alloc _ _ _ (by simp)).trans (heap_alloc2_new w _ _)
  generalize ((w.alloc (.cells #[.int .i64 0, .int .i64 0, .int .i64 0, .int .i64 0, .int .i64 0, .int .i64 0, .int .i64 0, .int .i64 0] 23)).alloc (.cells #[.int .i64 0] 25)).alloc (.cells #[.string s, .int .i64 0] 124) = w0 at *
  refine (hT _ _ hR).mono ?_
  rintro e w1 ⟨rfl, hb1⟩
  have hl := hR.lt
  have k0 := (hb1.2 w.heap.size (by omega) (by omega)).trans g0
  have k1 := (hb1.2 (w.heap.size + 1) (by omega) (by omega)).trans g1
  have hl1 := lt_of_block k1
  have hbw : Below w.heap.size w w1 := hb0.trans ((hb1.below (by omega)).mono (by omega))
  have c0 := setRow_heap w1 w.heap.size _ (headCells s) _ _ k0
  have c1 := (setRow_other w1 w.heap.size (w.heap.size + 1) (headCells s) (by omega)).trans k1
  have c2 : (w1.setRow w.heap.size (headCells s)).cell? ⟨w.heap.size + 1, 0, none⟩ = some (.int .i64 0) := by simp [World.cell?, c1]
  have c3 : (w1.setRow w.heap.size (headCells s)).frozen? ⟨w.heap.size + 1, 0, none⟩ = false := by simp [World.frozen?, c1]
  have hbr : Below w.heap.size w (w1.setRow w.heap.size (headCells s)) := hbw.trans ⟨rfl, rfl, rfl, by simp [World.setRow], fun k hk => setRow_other _ _ _ _ (by omega)⟩
  clear hT hmf hR hb0 hb1 g0 g1
  go_wp2_with (refine wpList_store_row rfl 23 _ _ rfl w.heap.size (headCells s) rfl rfl 23 _ k0 (by kernel_rfl) rfl (headCells_one s) ?_)
  refine leaves_cons (f := 59) (args := #[.pointer (some ⟨w.heap.size + 1, 0, none⟩)]) (by simp) (by simp [go_sem]) ?_
  refine (catch_idle ⟨w.heap.size + 1, 0, none⟩ _).mono ?_
  rintro e u' w2 ⟨rfl, rfl, rfl⟩
  have d1 := heap_setCell_same (w1.setRow w.heap.size (headCells s)) (w.heap.size + 1) 0 _ _ (.int .i64 0) c1
  exact ⟨_, read_results _ _ w.heap.size _ 0 rfl rfl ((Below.heap_setCell _ _ _ _ (by simp)).trans c0) rfl (by simp [World.cell?, d1]), rfl, hbr.setCell (p := ⟨w.heap.size + 1, 0, none⟩) (by simp) _⟩

/-- The error that a text is as a head. -/
def headE (s : ByteArray) : Int :=
  if 48 < s.size then 4 else if s.size < 48 then 3 else if ((s.extract 0 4).toList == [71, 82, 80, 78]) = true then if allZ (s.extract 40 48) = true then 0 else 5 else 5
/-- A head's number of a text. -/
def headN (s : ByteArray) (a k : Nat) : Int := if headE s = 0 then leVal ((s.data.toList.drop a).take k) else 0
def headC (s : ByteArray) : Array Value := #[.int .i64 (headN s 4 6), .int .i64 (headN s 10 4), .int .i64 (headN s 14 2), .int .i64 (headN s 16 4), .int .i64 (headN s 20 4), .int .i64 (headN s 24 4), .int .i64 (headN s 28 6), .int .i64 (headN s 34 6)]
theorem headC_one (s : ByteArray) : (headC s).all (·.oneCell') = true := by simp [headC, Value.oneCell']
theorem headC_no {s : ByteArray} (h : ¬ headE s = 0) : headC s = #[.int .i64 0, .int .i64 0, .int .i64 0, .int .i64 0, .int .i64 0, .int .i64 0, .int .i64 0, .int .i64 0] := by simp [headC, headN, h]
theorem headC_yes {s : ByteArray} (h : headE s = 0) : headC s = headCells s := by simp [headC, headN, headCells, h]

theorem readHead_any (s : ByteArray) (w : World) :
    Calls Tryz.prog 46 #[.string s, .int .i64 48, .func (.func 47) #[] #[]] w fun e w' => e = .returned (.tuple #[.agg (headC s), .int .i64 (headE s)]) ∧ Below w.heap.size w w' := by
  by_cases h1 : 48 < s.size
  · have he : headE s = 4 := by simp [headE, h1]
    rw [headC_no (by rw [he]; decide), he]
    exact read_long s 48 h1 w
  by_cases h2 : s.size < 48
  · have he : headE s = 3 := by simp [headE, h1, h2]
    rw [headC_no (by rw [he]; decide), he]
    exact read_panics s (by omega) 3 (fun w b h => takeHead_short b s h2 w h) w
  by_cases h3 : ((s.extract 0 4).toList == [71, 82, 80, 78]) = true
  case neg =>
    have he : headE s = 5 := by rw [headE, if_neg h1, if_neg h2, if_neg h3]
    rw [headC_no (by rw [he]; decide), he]
    exact read_panics s (by omega) 5 (fun w b h => by simpa only [if_neg h3] using takeHead_full b s (by omega) w h) w
  by_cases h4 : allZ (s.extract 40 48) = true
  case neg =>
    have he : headE s = 5 := by rw [headE, if_neg h1, if_neg h2, if_pos h3, if_neg h4]
    rw [headC_no (by rw [he]; decide), he]
    exact read_panics s (by omega) 5 (fun w b h => by simpa only [if_pos h3, if_neg h4] using takeHead_full b s (by omega) w h) w
  have he : headE s = 0 := by rw [headE, if_neg h1, if_neg h2, if_pos h3, if_pos h4]
  rw [headC_yes he, he]
  exact read_returns s (by omega) (fun w b h => by simpa only [if_pos h3, if_pos h4] using takeHead_full b s (by omega) w h) w

theorem headOf_any (s : ByteArray) (w : World) :
    Calls Tryz.prog 22 #[.string s] w fun e w' => e = .returned (.tuple #[.agg (headC s), .int .i64 (headE s)]) ∧ Below w.heap.size w w' := by
  have hmf : ∀ (fn : Fn) (first cap : Array Value) (w : World), (Instr.makeFunc fn first cap).run Tryz.prog w = .ok (.func fn first cap) w := fun _ _ _ _ => rfl
  go_enter Tryz.func22, Tryz.ntmps22
  go_wp2_with fail
  refine (readHead_any s _).mono ?_
  rintro e w1 ⟨rfl, hb1⟩
  have g0 := (hb1.block w.heap.size (by simp)).trans (heap_alloc_new w _)
  have hbw : Below w.heap.size w w1 := (below_new w _).trans (hb1.mono (by simp))
  clear hb1
  go_wp2_with (refine wpList_store_row rfl 23 _ _ rfl w.heap.size (headC s) rfl rfl 23 _ g0 (by kernel_rfl) rfl (headC_one s) ?_)
  have hr := run_loadVar_row (P := Tryz.prog) (w1.setRow w.heap.size (headC s)) w.heap.size 23 23 (headC s) (0, 0) _ (setRow_heap _ _ _ _ _ _ g0) Tryz.underlying23 rfl (by kernel_rfl)
  exact bodyPost_ret (v := .tuple #[.agg (headC s), .int .i64 (headE s)]) (by simp [results, Tryz.results22, asAddr, hr]) rfl ⟨rfl, hbw.trans ⟨rfl, rfl, rfl, by simp [World.setRow], fun k hk => setRow_other _ _ _ _ (by omega)⟩⟩
end Go.Proofs.YtdhiopbomnfmnaaGreatDoor

namespace Go.Proofs.YtdhiopbomnfmnaaGreatDoor
set_option maxRecDepth 20000

theorem list_three (L : List UInt8) (a m : Nat) : L.take a ++ (L.drop a).take m ++ L.drop (a + m) = L := by
  rw [List.append_assoc, ← List.drop_drop, List.take_append_drop, List.take_append_drop]
theorem size_of_list (s : ByteArray) : s.data.toList.length = s.size := by simp

theorem head_parts {s : ByteArray} (h : headE s = 0) : s.size = 48 ∧ (s.extract 0 4).toList = [71, 82, 80, 78] ∧ allZ (s.extract 40 48) = true := by
  unfold headE at h
  by_cases h1 : 48 < s.size
  · rw [if_pos h1] at h; omega
  rw [if_neg h1] at h
  by_cases h2 : s.size < 48
  · rw [if_pos h2] at h; omega
  rw [if_neg h2] at h
  by_cases h3 : ((s.extract 0 4).toList == [71, 82, 80, 78]) = true
  case neg => rw [if_neg h3] at h; omega
  rw [if_pos h3] at h
  by_cases h4 : allZ (s.extract 40 48) = true
  case neg => rw [if_neg h4] at h; omega
  exact ⟨by omega, eq_of_beq h3, h4⟩
theorem head_back {s : ByteArray} (h : headE s = 0) : recE (headPs (headN s 4 6) (headN s 10 4) (headN s 14 2) (headN s 16 4) (headN s 20 4) (headN s 24 4) (headN s 28 6) (headN s 34 6)) = 0 ∧ recS [71, 82, 80, 78] (headPs (headN s 4 6) (headN s 10 4) (headN s 14 2) (headN s 16 4) (headN s 20 4) (headN s 24 4) (headN s 28 6) (headN s 34 6)) 8 = s := by
  obtain ⟨h48, hm, hz⟩ := head_parts h
  have e : headPs (headN s 4 6) (headN s 10 4) (headN s 14 2) (headN s 16 4) (headN s 20 4) (headN s 24 4) (headN s 28 6) (headN s 34 6) = pairsOf s.data.toList 4 [6, 4, 2, 4, 4, 4, 6, 6] := by
    simp only [headN, if_pos h]
    rfl
  have hl := size_of_list s
  obtain ⟨p1, p2⟩ := pairs_laid s.data.toList [6, 4, 2, 4, 4, 4, 6, 6] 4 (by decide) (by rw [hl, h48]; decide)
  rw [e]
  refine ⟨recE_ok p1, ?_⟩
  rw [recS_ok p1, p2]
  refine ba_of ?_
  have c1 := text_cut s 0 4
  rw [ByteArray.toList_eq] at hm
  rw [hm] at c1
  have c2 := text_zeros s 40 48 h48 (by decide) hz
  have c3 := list_three s.data.toList 4 36
  rw [show (s.data.toList.take 4) = [71, 82, 80, 78] from c1, c2] at c3
  exact c3.symm
end Go.Proofs.YtdhiopbomnfmnaaGreatDoor

namespace Go.Proofs.YtdhiopbomnfmnaaGreatDoor
set_option maxRecDepth 20000
open Go.RowKit Go.Lib

theorem putS_val {n k : Int} (h : putE n k = 0) : leVal (putS n k).data.toList = n := by
  unfold putE at h
  split at h
  · omega
  split at h
  · omega
  unfold putS
  rw [if_pos (by omega)]
  exact leVal_leI k.toNat n (by omega) (by omega)
theorem putS_inj {a b k : Int} (ha : putE a k = 0) (hb : putE b k = 0) (h : (putS a k).data.toList = (putS b k).data.toList) : a = b := by
  rw [← putS_val ha, ← putS_val hb, h]
theorem laidL_inj : ∀ (ps qs : List (Int × Int)), ps.map (·.2) = qs.map (·.2) → laidOk ps = true → laidOk qs = true → laidL ps = laidL qs → ps = qs
  | [], [], _, _, _, _ => rfl
  | [], q :: r, h, _, _, _ => by simp at h
  | p :: r, [], h, _, _, _ => by simp at h
  | p :: r, q :: t, h, hp, hq, hl => by
    simp only [List.map_cons, List.cons.injEq] at h
    simp only [laidOk, Bool.and_eq_true, beq_iff_eq] at hp hq
    rw [laidL, laidL] at hl
    have hk : (putS p.1 p.2).data.toList.length = (putS q.1 q.2).data.toList.length := by rw [putS_size hp.1, putS_size hq.1, h.1]
    obtain ⟨h1, h2⟩ := List.append_inj hl hk
    have e1 : p.1 = q.1 := putS_inj (k := q.2) (by rw [← h.1]; exact hp.1) hq.1 (by rw [← h1, h.1])
    rw [laidL_inj r t h.2 hp.2 hq.2 h2, show p = q from Prod.ext e1 h.1]
theorem recE_zero {ps : List (Int × Int)} (h : recE ps = 0) : laidOk ps = true := by
  unfold recE at h
  split at h
  · assumption
  · omega
theorem ba_inj {l m : List UInt8} (h : (⟨l.toArray⟩ : ByteArray) = ⟨m.toArray⟩) : l = m := by
  have := congrArg (fun b : ByteArray => b.data.toList) h
  simpa using this
theorem recS_inj {pre pre' : List UInt8} {ps qs : List (Int × Int)} {z : Nat} (hw : ps.map (·.2) = qs.map (·.2)) (hpre : pre.length = pre'.length) (hp : laidOk ps = true) (hq : laidOk qs = true) (h : recS pre ps z = recS pre' qs z) : pre = pre' ∧ ps = qs := by
  rw [recS_ok hp, recS_ok hq] at h
  have h1 := ba_inj h
  have h2 := List.append_cancel_right h1
  obtain ⟨h3, h4⟩ := List.append_inj h2 hpre
  exact ⟨h3, laidL_inj ps qs hw hp hq h4⟩
theorem entE_zero {s : ByteArray} {a1 a2 : Int} (h : entE s a1 a2 = 0) : s.size ≤ 19 ∧ entFree s a1 a2 = true ∧ laidOk (entPs a1 a2) = true := by
  unfold entE at h
  split at h
  · split at h
    · exact ⟨by assumption, by assumption, recE_zero h⟩
    · omega
  · omega
theorem entPre_length {s : ByteArray} (h : s.size ≤ 19) : (entPre s).length = 20 := by
  unfold entPre
  rw [List.length_append, List.length_append, (entLen h).2, List.length_replicate, show s.data.toList.length = s.size by simp]
  omega
theorem entS_inj {s t : ByteArray} {a1 a2 b1 b2 : Int} (hs : entE s a1 a2 = 0) (ht : entE t b1 b2 = 0) (h : entS s a1 a2 = entS t b1 b2) : s = t ∧ a1 = b1 ∧ a2 = b2 := by
  obtain ⟨s1, s2, s3⟩ := entE_zero hs
  obtain ⟨t1, t2, t3⟩ := entE_zero ht
  unfold entS at h
  rw [if_pos ⟨s1, s2⟩, if_pos ⟨t1, t2⟩] at h
  obtain ⟨h1, h2⟩ := recS_inj (pre := entPre s) (pre' := entPre t) (ps := entPs a1 a2) (qs := entPs b1 b2) (z := 0) rfl (by rw [entPre_length s1, entPre_length t1]) s3 t3 h
  have h3 : s = t := by
    unfold entPre at h1
    rw [List.append_assoc, List.append_assoc] at h1
    obtain ⟨e1, e2⟩ := List.append_inj h1 (by rw [(entLen s1).2, (entLen t1).2])
    have e3 : (s.size : Int) = t.size := putS_inj (k := 1) (entLen s1).1 (entLen t1).1 e1
    obtain ⟨e4, _⟩ := List.append_inj e2 (by simp; omega)
    apply ByteArray.ext
    exact Array.toList_inj.1 e4
  unfold entPs at h2
  simp only [List.cons.injEq, Prod.mk.injEq, and_true] at h2
  exact ⟨h3, h2.1, h2.2⟩
end Go.Proofs.YtdhiopbomnfmnaaGreatDoor

namespace Go.Proofs.YtdhiopbomnfmnaaGreatDoor
set_option maxRecDepth 20000
open Go.RowKit Go.Lib

structure Hd where
  v0 : Int
  v1 : Int
  v2 : Int
  v3 : Int
  v4 : Int
  v5 : Int
  v6 : Int
  v7 : Int
deriving DecidableEq
def Hd.arr (h : Hd) : Array Value := #[.int .i64 h.v0, .int .i64 h.v1, .int .i64 h.v2, .int .i64 h.v3, .int .i64 h.v4, .int .i64 h.v5, .int .i64 h.v6, .int .i64 h.v7]
def Hd.zero : Hd := ⟨0, 0, 0, 0, 0, 0, 0, 0⟩
def Hd.ps (h : Hd) : List (Int × Int) := headPs h.v0 h.v1 h.v2 h.v3 h.v4 h.v5 h.v6 h.v7
/-- A head's bytes, and its error. -/
def Hd.txt (h : Hd) : ByteArray := recS [71, 82, 80, 78] h.ps 8
def Hd.err (h : Hd) : Int := recE h.ps
/-- The head that a text is. -/
def hdOf (s : ByteArray) : Hd := ⟨headN s 4 6, headN s 10 4, headN s 14 2, headN s 16 4, headN s 20 4, headN s 24 4, headN s 28 6, headN s 34 6⟩
theorem headC_arr (s : ByteArray) : headC s = (hdOf s).arr := rfl
theorem Hd.arr_inj {g h : Hd} (e : g.arr = h.arr) : g = h := by
  obtain ⟨a0, a1, a2, a3, a4, a5, a6, a7⟩ := g
  obtain ⟨b0, b1, b2, b3, b4, b5, b6, b7⟩ := h
  simp [Hd.arr] at e
  obtain ⟨rfl, rfl, rfl, rfl, rfl, rfl, rfl, rfl⟩ := e
  rfl
theorem hd_back {s : ByteArray} (h : headE s = 0) : (hdOf s).err = 0 ∧ (hdOf s).txt = s := head_back h
theorem hd_err (h : Hd) : h.err = 0 ∨ h.err = 2 := by
  unfold Hd.err recE
  split
  · exact .inl rfl
  · exact .inr rfl
theorem hd_laid {h : Hd} (e : h.err = 0) : laidOk h.ps = true := recE_zero e
theorem hd_list {h : Hd} (e : h.err = 0) : h.txt.data.toList = [71, 82, 80, 78] ++ laidL h.ps ++ List.replicate 8 0 ∧ (laidL h.ps).length = 36 := by
  have hl := laidL_length h.ps (hd_laid e)
  refine ⟨?_, hl⟩
  unfold Hd.txt
  rw [recS_ok (hd_laid e)]
theorem hd_size {h : Hd} (e : h.err = 0) : h.txt.size = 48 := by
  obtain ⟨h1, h2⟩ := hd_list e
  rw [← size_of_list, h1]
  simp [h2]
theorem hd_headE {h : Hd} (e : h.err = 0) : headE h.txt = 0 := by
  obtain ⟨h1, h2⟩ := hd_list e
  have hs := hd_size e
  have c1 := text_cut h.txt 0 4
  have c2 := text_cut h.txt 40 48
  rw [h1] at c1 c2
  have d1 : (h.txt.extract 0 4).toList = [71, 82, 80, 78] := by
    rw [ByteArray.toList_eq, ← c1]
    simp
  have d2 : allZ (h.txt.extract 40 48) = true := by
    unfold allZ
    have e2 : List.take (48 - 40) (List.drop 40 ([71, 82, 80, 78] ++ laidL h.ps ++ List.replicate 8 0)) = List.replicate 8 0 := by
      rw [List.drop_append_of_le_length (by simp [h2]), List.drop_of_length_le (by simp [h2])]
      rfl
    rw [← c2, e2]
    rfl
  unfold headE
  rw [if_neg (by omega), if_neg (by omega), if_pos (by rw [d1]; rfl), if_pos d2]
theorem hd_inj {g h : Hd} (eg : g.err = 0) (eh : h.err = 0) (e : g.txt = h.txt) : g = h := by
  have := (recS_inj (pre := [71, 82, 80, 78]) (pre' := [71, 82, 80, 78]) (ps := g.ps) (qs := h.ps) (z := 8) rfl rfl (hd_laid eg) (hd_laid eh) e).2
  obtain ⟨a0, a1, a2, a3, a4, a5, a6, a7⟩ := g
  obtain ⟨b0, b1, b2, b3, b4, b5, b6, b7⟩ := h
  simp [Hd.ps, headPs] at this
  obtain ⟨rfl, rfl, rfl, rfl, rfl, rfl, rfl, rfl⟩ := this
  rfl
theorem hd_reads {h : Hd} (e : h.err = 0) : hdOf h.txt = h := by
  obtain ⟨h1, h2⟩ := hd_back (hd_headE e)
  exact hd_inj h1 e h2

/-- A head's nonce. -/
def nonceS (a v : Int) : ByteArray := padS (putS a 4 ++ putS v 6) 12
def Hd.nonce (h : Hd) : ByteArray := nonceS h.v1 h.v6
theorem hd_puts {h : Hd} (e : h.err = 0) : putE h.v1 4 = 0 ∧ putE h.v6 6 = 0 ∧ putE h.v7 6 = 0 := by
  have := hd_laid e
  simp only [Hd.ps, headPs, laidOk, Bool.and_eq_true, beq_iff_eq] at this
  exact ⟨this.2.1, this.2.2.2.2.2.2.1, this.2.2.2.2.2.2.2.1⟩
theorem putS_len {n k : Int} (h : putE n k = 0) : (putS n k).size = k.toNat := by
  have := putS_size h
  rw [size_of_list] at this
  exact this
theorem nonce_eq {h : Hd} (e : h.err = 0) : h.nonce = putS h.v1 4 ++ putS h.v6 6 ++ noughtsS 2 ∧ h.nonce.size = 12 := by
  obtain ⟨h1, h2, _⟩ := hd_puts e
  have s1 := putS_len h1
  have s2 := putS_len h2
  have hs : (putS h.v1 4 ++ putS h.v6 6).size = 10 := by rw [ByteArray.size_append, s1, s2]; rfl
  have e1 : h.nonce = putS h.v1 4 ++ putS h.v6 6 ++ noughtsS 2 := by
    unfold Hd.nonce nonceS
    have := padS_ok (s := putS h.v1 4 ++ putS h.v6 6) (n := 12) (by decide) (by omega)
    rw [pad_append, show (12 : Int) = ((12 : Nat) : Int) from rfl, this, hs]
  refine ⟨e1, ?_⟩
  rw [e1, ByteArray.size_append, hs, noughtsS_size]
theorem salt_fits {h : Hd} (e : h.err = 0) : 0 ≤ h.v7 ∧ h.v7 ≤ 281474976710655 := by
  obtain ⟨_, _, h3⟩ := hd_puts e
  unfold putE at h3
  split at h3
  · omega
  split at h3
  · omega
  · rename_i h4
    rw [show (256 : Int) ^ (6 : Int).toNat = 281474976710656 by decide] at h4
    omega
theorem fit_hd {h : Hd} (e : h.err = 0) : fitB h.v7 h.nonce = true := by
  have := salt_fits e
  have := (nonce_eq e).2
  simp [fitB]
  omega
/-- What is sealed. -/
def Hd.four (h : Hd) (s : ByteArray) : Four := ⟨h.v7, h.nonce, h.txt, s⟩
theorem four_inj {g h : Hd} {s t : ByteArray} (eg : g.err = 0) (eh : h.err = 0) (e : g.four s = h.four t) : g = h ∧ s = t := by
  simp only [Hd.four, Four.mk.injEq] at e
  exact ⟨hd_inj eg eh e.2.2.1, e.2.2.2⟩
theorem four_fit {h : Hd} {s : ByteArray} (e : h.err = 0) (hs : s.size ≤ 140737488355328) : fitF (h.four s) := by
  have h1 := salt_fits e
  have h2 := (nonce_eq e).2
  have h3 := hd_size e
  refine ⟨?_, by show h.nonce.size ≤ _; omega, by show h.txt.size ≤ _; omega, hs⟩
  show (decide (IntKind.i64.min ≤ h.v7) && decide (h.v7 ≤ IntKind.i64.max)) = true
  rw [show IntKind.i64.min = -9223372036854775808 from rfl, show IntKind.i64.max = 9223372036854775807 from rfl]
  simp
  omega

/-- The block of a head, a body and a number. -/
def blkS (h : Hd) (s : ByteArray) (n : Nat) : ByteArray := h.txt ++ (s ++ wideS n 16)
theorem ba_cut {a b : ByteArray} {n : Nat} (ha : a.size = n) : (a ++ b).extract 0 n = a ∧ (a ++ b).extract n (n + b.size) = b := by
  subst ha
  constructor
  · exact ByteArray.extract_append_eq_left rfl
  · exact ByteArray.extract_append_eq_right rfl rfl
theorem blk_size {h : Hd} {s : ByteArray} {n : Nat} (e : h.err = 0) (hs : s.size = 448) (hn : n < 281474976710656) : (blkS h s n).size = 512 := by
  unfold blkS
  rw [ByteArray.size_append, ByteArray.size_append, hd_size e, hs, wideS_size hn (by decide)]
theorem blk_parts {h : Hd} {s : ByteArray} {n : Nat} (e : h.err = 0) (hs : s.size = 448) (hn : n < 281474976710656) : (blkS h s n).extract 0 48 = h.txt ∧ (blkS h s n).extract 48 512 = s ++ wideS n 16 ∧ headS (s ++ wideS n 16) = s ∧ tagS16 (s ++ wideS n 16) = wideS n 16 := by
  have hw := wideS_size (k := 16) hn (by decide)
  have h1 := ba_cut (a := h.txt) (b := s ++ wideS n 16) (hd_size e)
  have h2 := ba_cut (a := s) (b := wideS n 16) hs
  have hz : (s ++ wideS n 16).size = 464 := by rw [ByteArray.size_append, hs, hw]
  rw [hz] at h1
  rw [hw] at h2
  refine ⟨h1.1, h1.2, ?_, ?_⟩
  · unfold headS; rw [hz]; exact h2.1
  · unfold tagS16; rw [hz]; exact h2.2
theorem ba_two (r : ByteArray) {n : Nat} (h : n ≤ r.size) : r.extract 0 n ++ r.extract n r.size = r := by
  rw [ByteArray.extract_append_extract]
  simp [Nat.max_eq_right h]

/-- What Seal tells, and what the vault has numbered then. -/
def bsealB (h : Hd) (s : ByteArray) : Bool := decide (s.size = 448 ∧ h.err = 0)
def bsealS (S : VS) (h : Hd) (s : ByteArray) : ByteArray := if bsealB h s then blkS h s (numOf (addN S.seals (h.four s)) (h.four s)) else ⟨#[]⟩
def bsealE (h : Hd) (s : ByteArray) : Int := if s.size = 448 then h.err else 1
def bsealP (S : VS) (h : Hd) (s : ByteArray) : VS := if bsealB h s then { S with seals := addN S.seals (h.four s) } else S
/-- What Open tells. -/
def opensB (S : VS) (r : ByteArray) : Bool := openB S (hdOf (r.extract 0 48)).v7 (hdOf (r.extract 0 48)).nonce (r.extract 0 48) (r.extract 48 512)
def bopenE (S : VS) (r : ByteArray) : Int := if r.size = 512 then (if headE (r.extract 0 48) = 0 then (if opensB S r then 0 else 10) else headE (r.extract 0 48)) else 1
def bopenH (S : VS) (r : ByteArray) : Hd := if bopenE S r = 0 then hdOf (r.extract 0 48) else Hd.zero
def bopenS (S : VS) (r : ByteArray) : ByteArray := if bopenE S r = 0 then headS (r.extract 48 512) else ⟨#[]⟩

theorem bopen_iff (S : VS) (r : ByteArray) (hl : S.seals.length ≤ 1000000) : bopenE S r = 0 ↔ ∃ h s, h.err = 0 ∧ s.size = 448 ∧ numOf S.seals (h.four s) ≠ 0 ∧ r = blkS h s (numOf S.seals (h.four s)) := by
  constructor
  · intro hz
    unfold bopenE at hz
    by_cases h1 : r.size = 512
    case neg => rw [if_neg h1] at hz; omega
    rw [if_pos h1] at hz
    by_cases h2 : headE (r.extract 0 48) = 0
    case neg => rw [if_neg h2] at hz; omega
    rw [if_pos h2] at hz
    by_cases h3 : opensB S r = true
    case neg => rw [if_neg h3] at hz; omega
    obtain ⟨k1, k2⟩ := hd_back h2
    have h4 : numOf S.seals ((hdOf (r.extract 0 48)).four (headS (r.extract 48 512))) ≠ 0 ∧ tagS16 (r.extract 48 512) = wideS (numOf S.seals ((hdOf (r.extract 0 48)).four (headS (r.extract 48 512)))) 16 := by
      simp only [Hd.four, k2]
      simpa [opensB, openB] using h3
    have z1 : (r.extract 48 512).size = 464 := by simp [h1]
    refine ⟨hdOf (r.extract 0 48), headS (r.extract 48 512), k1, ?_, h4.1, ?_⟩
    · simp [headS, z1]
    · unfold blkS
      rw [k2, ← h4.2]
      have e1 : headS (r.extract 48 512) ++ tagS16 (r.extract 48 512) = r.extract 48 512 := by
        unfold headS tagS16
        exact ba_two _ (by omega)
      rw [e1, ← h1]
      exact (ba_two r (by omega)).symm
  · rintro ⟨h, s, e, hs, hn, rfl⟩
    have hlt : numOf S.seals (h.four s) < 281474976710656 := by have := numOf_le (h.four s) S.seals; omega
    obtain ⟨p1, p2, p3, p4⟩ := blk_parts e hs hlt
    unfold bopenE
    rw [if_pos (blk_size e hs hlt), p1, if_pos (hd_headE e), if_pos]
    unfold opensB
    rw [p1, p2, hd_reads e]
    unfold openB
    rw [p3, p4]
    exact decide_eq_true ⟨hn, rfl⟩
theorem bopen_blk (S : VS) (h : Hd) (s : ByteArray) (hl : S.seals.length ≤ 1000000) (e : h.err = 0) (hs : s.size = 448) (hn : numOf S.seals (h.four s) ≠ 0) : bopenE S (blkS h s (numOf S.seals (h.four s))) = 0 ∧ bopenH S (blkS h s (numOf S.seals (h.four s))) = h ∧ bopenS S (blkS h s (numOf S.seals (h.four s))) = s := by
  have hlt : numOf S.seals (h.four s) < 281474976710656 := by have := numOf_le (h.four s) S.seals; omega
  obtain ⟨p1, p2, p3, p4⟩ := blk_parts e hs hlt
  have h0 := (bopen_iff S _ hl).2 ⟨h, s, e, hs, hn, rfl⟩
  refine ⟨h0, ?_, ?_⟩
  · unfold bopenH; rw [if_pos h0, p1, hd_reads e]
  · unfold bopenS; rw [if_pos h0, p2, p3]
theorem blk_inj {g h : Hd} {s t : ByteArray} {m n : Nat} (eg : g.err = 0) (eh : h.err = 0) (hs : s.size = 448) (ht : t.size = 448) (hm : m < 281474976710656) (hn : n < 281474976710656) (e : blkS g s m = blkS h t n) : g = h ∧ s = t ∧ m = n := by
  obtain ⟨p1, p2, p3, p4⟩ := blk_parts eg hs hm
  obtain ⟨q1, q2, q3, q4⟩ := blk_parts eh ht hn
  rw [e] at p1 p2
  have e1 := p1.symm.trans q1
  have e2 := p2.symm.trans q2
  exact ⟨hd_inj eg eh e1, by rw [← p3, ← q3, e2], wideS_inj hm hn (by rw [← p4, ← q4, e2])⟩
end Go.Proofs.YtdhiopbomnfmnaaGreatDoor
