/- journal's headed and together. · journal's Found over any vault that is told. · journal's Found where a promise reads well, and its records do not. -/
import Derived.Test.YtldkdoddklfdlaaGreatDoorMg12
import Derived.Laws.Small
import Derived.Test.YtldkdoddklfdlaaGreatDoorMg40
import Derived.Test.YtldkdoddklfdlaaGreatDoorMg13
import Derived.BigQuiet
import Derived.Deep.RegionHeld3
namespace Go.Proofs.YtldkdoddklfdlaaGreatDoor
set_option maxRecDepth 20000
open Go.RowKit

set_option maxHeartbeats 4000000 in
theorem headed_any (a : Int) (r : ByteArray) (w : World) :
    Calls Tryz.prog 86 #[.agg #[.int .i64 a, .string r]] w fun e w' => e = .returned (.bool (hdB ⟨a, r⟩)) ∧ Below w.heap.size w w' := by
  have hb0 : Below w.heap.size w (w.alloc (.cells #[.int .i64 a, .string r] 27)) := (Below.refl _ _).alloc (Nat.le_refl _) _
  by_cases hr : r.size = 512
  case neg =>
    have h1 : ((r.size : Int) != 512) = true := by simp; omega
    have e1 : hdB ⟨a, r⟩ = false := by simp [hdB, hr]
    rw [e1]
    have HB : Hid _ := hb0
    clear hb0 hr e1
    go_enter Tryz.func86, Tryz.ntmps86
    go_wp2
    go_ret
    exact ⟨rfl, HB.out⟩
  have h1 : ((r.size : Int) != 512) = false := by simp; omega
  have h48 : (48 : Int) ≤ r.size := by omega
  have hh := fun w => bheadOf_any (r.extract 0 48) w
  have HD : Hid (hdB ⟨a, r⟩ = decide (headE (r.extract 0 48) = 0 ∧ (hdOf (r.extract 0 48)).v1 = a)) := by
    show hdB ⟨a, r⟩ = _
    simp [hdB, hr]
  generalize hdB ⟨a, r⟩ = D at *
  generalize hx : r.extract 0 48 = x at *
  generalize hdOf x = h at *
  generalize headE x = E at *
  clear hr
  go_enter Tryz.func86, Tryz.ntmps86
  go_wp2_with fail
  try rw [hx]
  refine (hh _).mono ?_
  rintro e w2 ⟨rfl, hb2⟩
  have g0 := (hb2.block w.heap.size (by simp)).trans (heap_alloc_new w _)
  have hbw : Below w.heap.size w w2 := hb0.trans (hb2.mono hb0.size)
  have hlt := lt_of_block g0
  have c0 : (w2.alloc (.cells #[.int .i64 h.v0, .int .i64 h.v1, .int .i64 h.v2, .int .i64 h.v3, .int .i64 h.v4, .int .i64 h.v5, .int .i64 h.v6, .int .i64 h.v7] 51)).cell? ⟨w.heap.size, 0, none⟩ = some (.int .i64 a) := cell_of_row _ _ 0 _ _ _ ((Below.heap_alloc _ _ _ hlt).trans g0)
  have HB : Hid (Below w.heap.size w (w2.alloc (.cells #[.int .i64 h.v0, .int .i64 h.v1, .int .i64 h.v2, .int .i64 h.v3, .int .i64 h.v4, .int .i64 h.v5, .int .i64 h.v6, .int .i64 h.v7] 51))) := hbw.alloc (by omega) _
  clear hh hb2 g0 hbw hb0
  by_cases hE : E = 0
  · subst hE
    by_cases ha : h.v1 = a
    · have k1 : (h.v1 == a) = true := by simp [ha]
      have eD : Hid (D = true) := by show D = true; rw [HD.out]; simp [ha]
      clear HD ha
      go_wp2
      go_ret
      exact ⟨by rw [eD.out]; rfl, HB.out⟩
    · have k1 : (h.v1 == a) = false := by simp [ha]
      have eD : Hid (D = false) := by show D = false; rw [HD.out]; simp [ha]
      clear HD ha
      go_wp2
      go_ret
      exact ⟨by rw [eD.out]; rfl, HB.out⟩
  · have k1 : (E == 0) = false := by simp [hE]
    have eD : Hid (D = false) := by show D = false; rw [HD.out]; simp [hE]
    clear HD
    go_wp2
    go_ret
    exact ⟨by rw [eD.out]; rfl, HB.out⟩
/-- What a round of together knows. -/
structure TgR (w : World) (n q s2 t : Nat) (l : List Wt) (j : Nat) (least : Int) (wr : World) : Prop where
  b : togB 27 (n : Int) l = togB least (n : Int) (l.drop j)
  lo : 27 ≤ least ∧ least ≤ 100000
  below : Below w.heap.size w wr
  row : wr.heap[w.heap.size]? = some (.cells (layA n q s2 t) 103 (0, 0))
set_option maxHeartbeats 4000000 in
theorem together_any (n q s2 t : Nat) (v : Value) (l : List Wt) (w : World) (hv : Wts w v l) (hll : l.length ≤ 1000) (hn : n ≤ 1024) :
    Calls Tryz.prog 48 #[.agg (layA n q s2 t), v] w fun e w' => e = .returned (.bool (togB 27 (n : Int) l)) ∧ Below w.heap.size w w' := by
  obtain ⟨oa, ca, rfl⟩ := hv.form
  have HV : Hid (Wts w (.slice oa l.length ca) l) := hv
  have HI : Hid (TgR w n q s2 t l 0 27 (w.alloc (.cells (layA n q s2 t) 103))) := ⟨rfl, by omega, (Below.refl _ _).alloc (Nat.le_refl _) _, heap_alloc_new w _⟩
  have e3 : (w.alloc (.cells (layA n q s2 t) 103)).cell? ⟨w.heap.size, 3, none⟩ = some (.int .i64 27) := cell_of_row _ _ 3 _ _ _ (heap_alloc_new w _)
  obtain ⟨X, hX⟩ : ∃ X, X = togB 27 (n : Int) l := ⟨_, rfl⟩
  have HX : Hid (X = togB 27 (n : Int) l) := hX
  rw [← hX]
  clear hv hX
  obtain ⟨A, hA⟩ : ∃ A, A = layA n q s2 t := ⟨_, rfl⟩
  rw [← hA] at e3 ⊢
  have HA : Hid (A = layA n q s2 t) := hA
  rw [← hA] at HI
  clear hA
  go_enter Tryz.func48, Tryz.ntmps48
  go_wp2_with fail
  clear e3
  go_loopw [5, 12] (fun lv iv wr => ∃ (j : Nat) (least : Int), j ≤ l.length ∧ iv = .int .i64 (j : Int) ∧ lv = .int .i64 least ∧ Hid (TgR w n q s2 t l j least wr)) (fun _ iv _ => l.length - (intOf iv).toNat)
  case atStart => exact ⟨0, 27, Nat.zero_le _, rfl, rfl, HI⟩
  case round =>
    clear HI HA
    obtain ⟨j, least, hj, rfl, rfl, HR⟩ := hrel
    by_cases hlt : j < l.length
    · have j1 : (j : Int) < l.length := by omega
      obtain ⟨g, o, rfl, hg, hc⟩ := HV.out.at hlt
      have hgw := Nat.lt_of_lt_of_le hg HR.out.below.size
      obtain ⟨c0, c1⟩ := hc.keep (HR.out.below.block g hg)
      have hd : l.drop j = l[j] :: l.drop (j + 1) := List.drop_eq_getElem_cons hlt
      have HE : Hid (X = (decide (least ≤ l[j].at_ ∧ l[j].at_ < (n : Int)) && hdB l[j] && togB (l[j].at_ + 1) (n : Int) (l.drop (j + 1))) ∧ togB 27 (n : Int) l = (decide (least ≤ l[j].at_ ∧ l[j].at_ < (n : Int)) && hdB l[j] && togB (l[j].at_ + 1) (n : Int) (l.drop (j + 1)))) := by
        have := HR.out.b
        rw [hd] at this
        exact ⟨HX.out.trans this, this⟩
      clear hc hd
      generalize l[j] = x at *
      obtain ⟨a, r⟩ := x
      simp only at c0 c1 HE
      have hlo := HR.out.lo
      have hzl := lt_of_block HR.out.row
      have hh := fun w => headed_any a r w
      have HRow : Hid ((wr.alloc (.cells #[.int .i64 a, .string r] 27)).heap[w.heap.size]? = some (.cells (layA n q s2 t) 103 (0, 0)) ∧ Below w.heap.size w (wr.alloc (.cells #[.int .i64 a, .string r] 27))) := ⟨(Below.heap_alloc _ _ _ hzl).trans HR.out.row, HR.out.below.alloc HR.out.below.size _⟩
      have d0 : (wr.alloc (.cells #[.int .i64 a, .string r] 27)).cell? ⟨w.heap.size, 0, none⟩ = some (.int .i64 (n : Int)) := cell_of_row _ _ 0 _ _ _ HRow.out.1
      clear HR hg
      by_cases k1 : a < least
      · have HF : Hid (X = false) := by
          show X = false
          rw [HE.out.1, decide_eq_false (by omega)]
          rfl
        have k1' : decide (a < least) = true := by simpa using k1
        clear HE hh d0
        go_wp2
        go_ret
        exact ⟨by rw [HF.out]; rfl, HRow.out.2⟩
      · have k1' : decide (a < least) = false := by simpa using k1
        by_cases k2 : (n : Int) ≤ a
        · have HF : Hid (X = false) := by
            show X = false
            rw [HE.out.1, decide_eq_false (by omega)]
            rfl
          have k2' : decide (a ≥ (n : Int)) = true := by simpa using k2
          have k2'' : decide ((n : Int) ≤ a) = true := by simpa using k2
          clear HE hh k1
          go_wp2
          go_ret
          exact ⟨by rw [HF.out]; rfl, HRow.out.2⟩
        · have k2'' : decide ((n : Int) ≤ a) = false := by simpa using k2
          have HE2 : Hid (X = (hdB ⟨a, r⟩ && togB (a + 1) (n : Int) (l.drop (j + 1))) ∧ togB 27 (n : Int) l = (hdB ⟨a, r⟩ && togB (a + 1) (n : Int) (l.drop (j + 1)))) := by
            have := HE.out
            rw [decide_eq_true (show least ≤ a ∧ a < (n : Int) by omega)] at this
            show _ ∧ _
            simpa using this
          have kk : 27 ≤ a ∧ a ≤ 1024 := by omega
          clear HE k1
          generalize hdB ⟨a, r⟩ = B at *
          go_wp2_with fail
          refine (hh _).mono ?_
          rintro e w2 ⟨rfl, hb2⟩
          have hz2 : wr.heap.size < w2.heap.size := by have := hb2.size; simp at this; omega
          have hrow2 := (hb2.block w.heap.size (by simp; omega)).trans HRow.out.1
          have f0 : w2.cell? ⟨wr.heap.size, 0, none⟩ = some (.int .i64 a) := cell_of_row _ _ 0 _ _ _ ((hb2.block wr.heap.size (by simp)).trans (heap_alloc_new wr _))
          have HB2 : Hid (Below w.heap.size w w2) := HRow.out.2.trans (hb2.mono HRow.out.2.size)
          cases B with
          | false =>
            have HF : Hid (X = false) := HE2.out.1
            clear HE2 hh hb2 d0
            go_wp2
            go_ret
            exact ⟨by rw [HF.out]; rfl, HB2.out⟩
          | true =>
            have HF : Hid (TgR w n q s2 t l (j + 1) (a + 1) w2) := ⟨by rw [HE2.out.2]; rfl, by omega, HB2.out, hrow2⟩
            clear HE2 hh hb2 d0 hrow2
            go_wp2
            go_roundw
            case rel => exact ⟨j + 1, a + 1, by omega, by go_num, by go_num, HF⟩
            case measure => simp [intOf]; omega
    · have j1 : ¬ (j : Int) < l.length := by omega
      have hd : l.drop j = [] := List.drop_eq_nil_of_le (by omega)
      have HF : Hid (X = true ∧ Below w.heap.size w wr) := by
        refine ⟨?_, HR.out.below⟩
        have := HR.out.b
        rw [hd] at this
        exact HX.out.trans this
      clear hd HR
      go_wp2
      go_ret
      exact ⟨by rw [HF.out.1]; rfl, HF.out.2⟩
end Go.Proofs.YtldkdoddklfdlaaGreatDoor

namespace Go.Proofs.YtldkdoddklfdlaaGreatDoor
set_option maxRecDepth 20000
open Go.RowKit

/-- What Found tells. -/
def fnB (K : VK) (T : K.σ) (raws : List ByteArray) (masks : List Int) (n : Int) : Bool := piB (lookR K T raws masks 2) n && rcdB raws masks 3 (piN (lookR K T raws masks 2) n).toNat && togB 27 n (rcdL raws masks 3 (piN (lookR K T raws masks 2) n).toNat)
def fnW (K : VK) (T : K.σ) (raws : List ByteArray) (masks : List Int) (n : Int) : List Wt := rcdL raws masks 3 (piN (lookR K T raws masks 2) n).toNat
def fnOk (K : VK) (T : K.σ) (raws : List ByteArray) (masks : List Int) (n : Int) : Bool := fnB K T raws masks n && decide (K.hS T (joinB (fnW K T raws masks n)) = (lookR K T raws masks 2).body.extract 2 34)
def fnP (K : VK) (T : K.σ) (raws : List ByteArray) (masks : List Int) (n : Int) : K.σ := if fnB K T raws masks n then K.hP T (joinB (fnW K T raws masks n)) else T
theorem jfnd_ret (tmps : Array Value) (g : Nat) (w' : World) (v : Value) (cs : Array Value) (b : Bool) (R : Ending → World → Prop) (h0 : tmps.getD 6 undef = v) (h1 : tmps.getD 7 undef = .pointer (some ⟨g, 0, none⟩)) (h2 : tmps.getD 8 undef = .bool b) (hg : w'.heap[g]? = some (.cells cs 23 (0, 0))) (hs : cs.size = 5) (hR : R (.returned (.tuple #[v, .agg cs, .bool b])) w') :
    bodyPost Tryz.prog Tryz.f54 R .ret { tmps := tmps, defers := [] } w' := by
  have hr := run_loadVar_row (P := Tryz.prog) w' g 23 23 cs (0, 0) _ hg Tryz.underlying23 rfl (by rw [hs]; kernel_rfl)
  simp at h0 h1 h2
  exact bodyPost_ret (v := .tuple #[v, .agg cs, .bool b]) (by simp [results, Tryz.results54, asAddr, hr, h0, h1, h2]) rfl hR
set_option maxHeartbeats 4000000 in
theorem found_pno (v : Value) (n q s2 t : Nat) (oa ob : Option Addr) (ca cb : Nat) (raws : List ByteArray) (masks : List Int) (ok : Bool) (h : Hd) (body : ByteArray) (c : Int) (s : Sp) (w : World)
    (hlook : ∀ W, Below w.heap.size w W → Calls Tryz.prog 92 #[v, .agg #[.slice oa raws.length ca, .slice ob masks.length cb], .int .i64 2] W fun e W' => e = .returned (.agg #[.bool ok, .int .i64 h.v0, .int .i64 h.v1, .int .i64 h.v2, .int .i64 h.v3, .int .i64 h.v4, .int .i64 h.v5, .int .i64 h.v6, .int .i64 h.v7, .string body]) ∧ Below W.heap.size W W')
    (hpi : ∀ W, Calls Tryz.prog 93 #[.agg #[.bool ok, .int .i64 h.v0, .int .i64 h.v1, .int .i64 h.v2, .int .i64 h.v3, .int .i64 h.v4, .int .i64 h.v5, .int .i64 h.v6, .int .i64 h.v7, .string body], .int .i64 (n : Int)] W fun e W' => e = .returned (.tuple #[.int .i64 c, .agg s.arr, .bool false]) ∧ Below W.heap.size W W') :
    Calls Tryz.prog 54 #[v, .agg (layA n q s2 t), .agg #[.slice oa raws.length ca, .slice ob masks.length cb]] w fun e w' => e = .returned (.tuple #[.slice none 0 0, .agg Sp.zero.arr, .bool false]) ∧ Below w.heap.size w w' := by
  obtain ⟨s0, s1, s3, s4, r⟩ := s
  simp only [Sp.arr, Sp.zero] at *
  have hb0 : Below w.heap.size w (((w.alloc (.cells (layA n q s2 t) 103)).alloc (.cells #[.slice oa raws.length ca, .slice ob masks.length cb] 131)).alloc (.cells #[.int .i64 0, .int .i64 0, .int .i64 0, .int .i64 0, .string ⟨#[]⟩] 23)) := (((Below.refl _ _).alloc (Nat.le_refl _) _).alloc (by simp) _).alloc (by simp; omega) _
  have h1 := hlook _ hb0
  have gL : (((w.alloc (.cells (layA n q s2 t) 103)).alloc (.cells #[.slice oa raws.length ca, .slice ob masks.length cb] 131)).alloc (.cells #[.int .i64 0, .int .i64 0, .int .i64 0, .int .i64 0, .string ⟨#[]⟩] 23)).heap[w.heap.size]? = some (.cells (layA n q s2 t) 103 (0, 0)) := (Below.heap_alloc _ _ _ (by simp; omega)).trans (heap_alloc2_old w _ _)
  have gR : (((w.alloc (.cells (layA n q s2 t) 103)).alloc (.cells #[.slice oa raws.length ca, .slice ob masks.length cb] 131)).alloc (.cells #[.int .i64 0, .int .i64 0, .int .i64 0, .int .i64 0, .string ⟨#[]⟩] 23)).heap[w.heap.size + 1 + 1]? = some (.cells #[.int .i64 0, .int .i64 0, .int .i64 0, .int .i64 0, .string ⟨#[]⟩] 23 (0, 0)) := by
    have := heap_alloc_new ((w.alloc (.cells (layA n q s2 t) 103)).alloc (.cells #[.slice oa raws.length ca, .slice ob masks.length cb] 131)) (.cells #[.int .i64 0, .int .i64 0, .int .i64 0, .int .i64 0, .string ⟨#[]⟩] 23)
    simpa using this
  unfold layA at h1 gL gR hb0 ⊢
  clear hlook
  generalize raws.length = rl at *
  generalize masks.length = ml at *
  go_enter Tryz.func54, Tryz.ntmps54
  go_wp2_with fail
  refine h1.mono ?_
  rintro e w1 ⟨rfl, hb1⟩
  have gL1 := (hb1.block _ (lt_of_block gL)).trans gL
  have gR1 := (hb1.block _ (lt_of_block gR)).trans gR
  have hlt1 := lt_of_block gR1
  have n1 : (w1.alloc (.cells #[.bool ok, .int .i64 h.v0, .int .i64 h.v1, .int .i64 h.v2, .int .i64 h.v3, .int .i64 h.v4, .int .i64 h.v5, .int .i64 h.v6, .int .i64 h.v7, .string body] 125)).cell? ⟨w.heap.size, 0, none⟩ = some (.int .i64 (n : Int)) := cell_of_row _ _ 0 _ _ _ ((Below.heap_alloc _ _ _ (by omega)).trans gL1)
  have HB1 : Hid (Below w.heap.size w w1 ∧ w1.heap[w.heap.size + 1 + 1]? = some (.cells #[.int .i64 0, .int .i64 0, .int .i64 0, .int .i64 0, .string ⟨#[]⟩] 23 (0, 0))) := ⟨hb0.trans (hb1.mono hb0.size), gR1⟩
  clear h1 hb0 gL gR hb1 gL1 gR1
  go_wp2_with fail
  refine (hpi _).mono ?_
  rintro e w2 ⟨rfl, hb2⟩
  have hz2 := hb2.size
  have gR2 := (hb2.block (w.heap.size + 1 + 1) (by simp; omega)).trans ((Below.heap_alloc _ _ _ hlt1).trans HB1.out.2)
  have hlt2 := lt_of_block gR2
  have g3 : (w2.alloc (.cells #[.int .i64 s0, .int .i64 s1, .int .i64 s3, .int .i64 s4, .string r] 23)).heap[w.heap.size + 1 + 1]? = some (.cells #[.int .i64 0, .int .i64 0, .int .i64 0, .int .i64 0, .string ⟨#[]⟩] 23 (0, 0)) := (Below.heap_alloc _ _ _ hlt2).trans gR2
  have hb3 : Below w.heap.size w (w2.alloc (.cells #[.int .i64 s0, .int .i64 s1, .int .i64 s3, .int .i64 s4, .string r] 23)) := ((HB1.out.1.alloc HB1.out.1.size _).trans (hb2.mono (by have := HB1.out.1.size; simp; omega))).alloc (by omega) _
  clear hpi hb2 n1 HB1 gR2
  go_wp2_with (refine wpList_store_row rfl 23 _ _ rfl (w.heap.size + 1 + 1) #[.int .i64 0, .int .i64 0, .int .i64 0, .int .i64 0, .string ⟨#[]⟩] rfl rfl 23 _ g3 (by kernel_rfl) rfl (by simp [Value.oneCell']) ?_)
  exact jfnd_ret _ (w.heap.size + 1 + 1) _ (.slice none 0 0) #[.int .i64 0, .int .i64 0, .int .i64 0, .int .i64 0, .string ⟨#[]⟩] false _ rfl rfl rfl (setRow_heap _ _ _ _ _ _ g3) rfl ⟨rfl, below_setRow hb3 (by omega) _⟩
end Go.Proofs.YtldkdoddklfdlaaGreatDoor

namespace Go.Proofs.YtldkdoddklfdlaaGreatDoor
set_option maxRecDepth 20000
open Go.RowKit

set_option maxHeartbeats 4000000 in
theorem found_rno (v : Value) (n q s2 t : Nat) (oa ob : Option Addr) (ca cb : Nat) (raws : List ByteArray) (masks : List Int) (ok : Bool) (h : Hd) (body : ByteArray) (m : Nat) (s0 s1 s3 s4 : Int) (r : ByteArray) (w : World)
    (hlook : ∀ W, Below w.heap.size w W → Calls Tryz.prog 92 #[v, .agg #[.slice oa raws.length ca, .slice ob masks.length cb], .int .i64 2] W fun e W' => e = .returned (.agg #[.bool ok, .int .i64 h.v0, .int .i64 h.v1, .int .i64 h.v2, .int .i64 h.v3, .int .i64 h.v4, .int .i64 h.v5, .int .i64 h.v6, .int .i64 h.v7, .string body]) ∧ Below W.heap.size W W')
    (hpi : ∀ W, Calls Tryz.prog 93 #[.agg #[.bool ok, .int .i64 h.v0, .int .i64 h.v1, .int .i64 h.v2, .int .i64 h.v3, .int .i64 h.v4, .int .i64 h.v5, .int .i64 h.v6, .int .i64 h.v7, .string body], .int .i64 (n : Int)] W fun e W' => e = .returned (.tuple #[.int .i64 (m : Int), .agg #[.int .i64 s0, .int .i64 s1, .int .i64 s3, .int .i64 s4, .string r], .bool true]) ∧ Below W.heap.size W W')
    (hrcd : ∀ W, Below w.heap.size w W → Calls Tryz.prog 94 #[.agg (layA n q s2 t), .agg #[.slice oa raws.length ca, .slice ob masks.length cb], .int .i64 (m : Int)] W fun e W' => e = .returned (.tuple #[.slice none 0 0, .bool false]) ∧ Below W.heap.size W W') :
    Calls Tryz.prog 54 #[v, .agg (layA n q s2 t), .agg #[.slice oa raws.length ca, .slice ob masks.length cb]] w fun e w' => e = .returned (.tuple #[.slice none 0 0, .agg Sp.zero.arr, .bool false]) ∧ Below w.heap.size w w' := by
  have hb0 : Below w.heap.size w (((w.alloc (.cells (layA n q s2 t) 103)).alloc (.cells #[.slice oa raws.length ca, .slice ob masks.length cb] 131)).alloc (.cells #[.int .i64 0, .int .i64 0, .int .i64 0, .int .i64 0, .string ⟨#[]⟩] 23)) := (((Below.refl _ _).alloc (Nat.le_refl _) _).alloc (by simp) _).alloc (by simp; omega) _
  have h1 := hlook _ hb0
  have gL : (((w.alloc (.cells (layA n q s2 t) 103)).alloc (.cells #[.slice oa raws.length ca, .slice ob masks.length cb] 131)).alloc (.cells #[.int .i64 0, .int .i64 0, .int .i64 0, .int .i64 0, .string ⟨#[]⟩] 23)).heap[w.heap.size]? = some (.cells (layA n q s2 t) 103 (0, 0)) := (Below.heap_alloc _ _ _ (by simp; omega)).trans (heap_alloc2_old w _ _)
  have gI : (((w.alloc (.cells (layA n q s2 t) 103)).alloc (.cells #[.slice oa raws.length ca, .slice ob masks.length cb] 131)).alloc (.cells #[.int .i64 0, .int .i64 0, .int .i64 0, .int .i64 0, .string ⟨#[]⟩] 23)).heap[w.heap.size + 1]? = some (.cells #[.slice oa raws.length ca, .slice ob masks.length cb] 131 (0, 0)) := (Below.heap_alloc _ _ _ (by simp)).trans (heap_alloc2_new w _ _)
  have gR : (((w.alloc (.cells (layA n q s2 t) 103)).alloc (.cells #[.slice oa raws.length ca, .slice ob masks.length cb] 131)).alloc (.cells #[.int .i64 0, .int .i64 0, .int .i64 0, .int .i64 0, .string ⟨#[]⟩] 23)).heap[w.heap.size + 1 + 1]? = some (.cells #[.int .i64 0, .int .i64 0, .int .i64 0, .int .i64 0, .string ⟨#[]⟩] 23 (0, 0)) := by
    have := heap_alloc_new ((w.alloc (.cells (layA n q s2 t) 103)).alloc (.cells #[.slice oa raws.length ca, .slice ob masks.length cb] 131)) (.cells #[.int .i64 0, .int .i64 0, .int .i64 0, .int .i64 0, .string ⟨#[]⟩] 23)
    simpa using this
  unfold layA at h1 gL gI gR hb0 hrcd ⊢
  clear hlook
  go_enter Tryz.func54, Tryz.ntmps54
  go_wp2_with fail
  refine h1.mono ?_
  rintro e w1 ⟨rfl, hb1⟩
  have gL1 := (hb1.block _ (lt_of_block gL)).trans gL
  have gI1 := (hb1.block _ (lt_of_block gI)).trans gI
  have gR1 := (hb1.block _ (lt_of_block gR)).trans gR
  have hlt1 := lt_of_block gR1
  have hba : Below w1.heap.size w1 (w1.alloc (.cells #[.bool ok, .int .i64 h.v0, .int .i64 h.v1, .int .i64 h.v2, .int .i64 h.v3, .int .i64 h.v4, .int .i64 h.v5, .int .i64 h.v6, .int .i64 h.v7, .string body] 125)) := (Below.refl _ _).alloc (Nat.le_refl _) _
  have n1 : (w1.alloc (.cells #[.bool ok, .int .i64 h.v0, .int .i64 h.v1, .int .i64 h.v2, .int .i64 h.v3, .int .i64 h.v4, .int .i64 h.v5, .int .i64 h.v6, .int .i64 h.v7, .string body] 125)).cell? ⟨w.heap.size, 0, none⟩ = some (.int .i64 (n : Int)) := cell_of_row _ _ 0 _ _ _ ((hba.block _ (by omega)).trans gL1)
  have HB1 : Hid (Below w.heap.size w (w1.alloc (.cells #[.bool ok, .int .i64 h.v0, .int .i64 h.v1, .int .i64 h.v2, .int .i64 h.v3, .int .i64 h.v4, .int .i64 h.v5, .int .i64 h.v6, .int .i64 h.v7, .string body] 125)) ∧ (w1.alloc (.cells #[.bool ok, .int .i64 h.v0, .int .i64 h.v1, .int .i64 h.v2, .int .i64 h.v3, .int .i64 h.v4, .int .i64 h.v5, .int .i64 h.v6, .int .i64 h.v7, .string body] 125)).heap[w.heap.size]? = some (.cells #[.int .i64 (n : Int), .int .i64 2, .int .i64 3, .int .i64 27, .int .i64 28, .int .i64 29, .int .i64 (q : Int), .int .i64 (29 + (q : Int)), .int .i64 (s2 : Int), .int .i64 (29 + (q : Int) + (s2 : Int)), .int .i64 (29 + (q : Int) + (s2 : Int) + 1), .int .i64 (n : Int), .int .i64 ((n : Int) + 1), .int .i64 (t : Int), .int .i64 ((n : Int) + 1 + (t : Int)), .int .i64 ((n : Int) + 1 + (t : Int) + (n : Int))] 103 (0, 0)) ∧ (w1.alloc (.cells #[.bool ok, .int .i64 h.v0, .int .i64 h.v1, .int .i64 h.v2, .int .i64 h.v3, .int .i64 h.v4, .int .i64 h.v5, .int .i64 h.v6, .int .i64 h.v7, .string body] 125)).heap[w.heap.size + 1]? = some (.cells #[.slice oa raws.length ca, .slice ob masks.length cb] 131 (0, 0)) ∧ (w1.alloc (.cells #[.bool ok, .int .i64 h.v0, .int .i64 h.v1, .int .i64 h.v2, .int .i64 h.v3, .int .i64 h.v4, .int .i64 h.v5, .int .i64 h.v6, .int .i64 h.v7, .string body] 125)).heap[w.heap.size + 1 + 1]? = some (.cells #[.int .i64 0, .int .i64 0, .int .i64 0, .int .i64 0, .string ⟨#[]⟩] 23 (0, 0)) ∧ (w1.alloc (.cells #[.bool ok, .int .i64 h.v0, .int .i64 h.v1, .int .i64 h.v2, .int .i64 h.v3, .int .i64 h.v4, .int .i64 h.v5, .int .i64 h.v6, .int .i64 h.v7, .string body] 125)).heap[w1.heap.size]? = some (.cells #[.bool ok, .int .i64 h.v0, .int .i64 h.v1, .int .i64 h.v2, .int .i64 h.v3, .int .i64 h.v4, .int .i64 h.v5, .int .i64 h.v6, .int .i64 h.v7, .string body] 125 (0, 0)) ∧ w.heap.size + 1 + 1 < w1.heap.size) := ⟨(hb0.trans (hb1.mono hb0.size)).trans (hba.mono (by omega)), (hba.block _ (by omega)).trans gL1, (hba.block _ (by omega)).trans gI1, (hba.block _ (by omega)).trans gR1, heap_alloc_new w1 _, hlt1⟩
  clear h1 hb0 gL gI gR hb1 gL1 gI1 gR1 hba
  go_wp2_with fail
  refine (hpi _).mono ?_
  rintro e w2 ⟨rfl, hb2⟩
  have hz2 : w1.heap.size < w2.heap.size := by have := hb2.size; simp at this; omega
  have hba : Below w2.heap.size w2 (w2.alloc (.cells #[.int .i64 s0, .int .i64 s1, .int .i64 s3, .int .i64 s4, .string r] 23)) := (Below.refl _ _).alloc (Nat.le_refl _) _
  have hbc : Below (w1.alloc (.cells #[.bool ok, .int .i64 h.v0, .int .i64 h.v1, .int .i64 h.v2, .int .i64 h.v3, .int .i64 h.v4, .int .i64 h.v5, .int .i64 h.v6, .int .i64 h.v7, .string body] 125)).heap.size (w1.alloc (.cells #[.bool ok, .int .i64 h.v0, .int .i64 h.v1, .int .i64 h.v2, .int .i64 h.v3, .int .i64 h.v4, .int .i64 h.v5, .int .i64 h.v6, .int .i64 h.v7, .string body] 125)) (w2.alloc (.cells #[.int .i64 s0, .int .i64 s1, .int .i64 s3, .int .i64 s4, .string r] 23)) := hb2.trans (hba.mono hb2.size)
  have HB2 : Hid (Below w.heap.size w (w2.alloc (.cells #[.int .i64 s0, .int .i64 s1, .int .i64 s3, .int .i64 s4, .string r] 23)) ∧ (w2.alloc (.cells #[.int .i64 s0, .int .i64 s1, .int .i64 s3, .int .i64 s4, .string r] 23)).heap[w.heap.size]? = some (.cells #[.int .i64 (n : Int), .int .i64 2, .int .i64 3, .int .i64 27, .int .i64 28, .int .i64 29, .int .i64 (q : Int), .int .i64 (29 + (q : Int)), .int .i64 (s2 : Int), .int .i64 (29 + (q : Int) + (s2 : Int)), .int .i64 (29 + (q : Int) + (s2 : Int) + 1), .int .i64 (n : Int), .int .i64 ((n : Int) + 1), .int .i64 (t : Int), .int .i64 ((n : Int) + 1 + (t : Int)), .int .i64 ((n : Int) + 1 + (t : Int) + (n : Int))] 103 (0, 0)) ∧ (w2.alloc (.cells #[.int .i64 s0, .int .i64 s1, .int .i64 s3, .int .i64 s4, .string r] 23)).heap[w.heap.size + 1]? = some (.cells #[.slice oa raws.length ca, .slice ob masks.length cb] 131 (0, 0)) ∧ (w2.alloc (.cells #[.int .i64 s0, .int .i64 s1, .int .i64 s3, .int .i64 s4, .string r] 23)).heap[w.heap.size + 1 + 1]? = some (.cells #[.int .i64 0, .int .i64 0, .int .i64 0, .int .i64 0, .string ⟨#[]⟩] 23 (0, 0)) ∧ (w2.alloc (.cells #[.int .i64 s0, .int .i64 s1, .int .i64 s3, .int .i64 s4, .string r] 23)).heap[w1.heap.size]? = some (.cells #[.bool ok, .int .i64 h.v0, .int .i64 h.v1, .int .i64 h.v2, .int .i64 h.v3, .int .i64 h.v4, .int .i64 h.v5, .int .i64 h.v6, .int .i64 h.v7, .string body] 125 (0, 0)) ∧ (w2.alloc (.cells #[.int .i64 s0, .int .i64 s1, .int .i64 s3, .int .i64 s4, .string r] 23)).heap[w2.heap.size]? = some (.cells #[.int .i64 s0, .int .i64 s1, .int .i64 s3, .int .i64 s4, .string r] 23 (0, 0)) ∧ w.heap.size + 1 + 1 < w1.heap.size) := ⟨HB1.out.1.trans (hbc.mono HB1.out.1.size), (hbc.block _ (lt_of_block HB1.out.2.1)).trans HB1.out.2.1, (hbc.block _ (lt_of_block HB1.out.2.2.1)).trans HB1.out.2.2.1, (hbc.block _ (lt_of_block HB1.out.2.2.2.1)).trans HB1.out.2.2.2.1, (hbc.block _ (lt_of_block HB1.out.2.2.2.2.1)).trans HB1.out.2.2.2.2.1, heap_alloc_new w2 _, HB1.out.2.2.2.2.2⟩
  have h3 := hrcd _ HB2.out.1
  have i0 : (w2.alloc (.cells #[.int .i64 s0, .int .i64 s1, .int .i64 s3, .int .i64 s4, .string r] 23)).cell? ⟨w.heap.size + 1, 0, none⟩ = some (.slice oa raws.length ca) := cell_of_row _ _ 0 _ _ _ HB2.out.2.2.1
  have i1 : (w2.alloc (.cells #[.int .i64 s0, .int .i64 s1, .int .i64 s3, .int .i64 s4, .string r] 23)).cell? ⟨w.heap.size + 1, 1, none⟩ = some (.slice ob masks.length cb) := cell_of_row _ _ 1 _ _ _ HB2.out.2.2.1
  have y0 : (w2.alloc (.cells #[.int .i64 s0, .int .i64 s1, .int .i64 s3, .int .i64 s4, .string r] 23)).cell? ⟨w.heap.size, 0, none⟩ = some (.int .i64 (n : Int)) := cell_of_row _ _ 0 _ _ _ HB2.out.2.1
  have y1 : (w2.alloc (.cells #[.int .i64 s0, .int .i64 s1, .int .i64 s3, .int .i64 s4, .string r] 23)).cell? ⟨w.heap.size, 1, none⟩ = some (.int .i64 2) := cell_of_row _ _ 1 _ _ _ HB2.out.2.1
  have y2 : (w2.alloc (.cells #[.int .i64 s0, .int .i64 s1, .int .i64 s3, .int .i64 s4, .string r] 23)).cell? ⟨w.heap.size, 2, none⟩ = some (.int .i64 3) := cell_of_row _ _ 2 _ _ _ HB2.out.2.1
  have y3 : (w2.alloc (.cells #[.int .i64 s0, .int .i64 s1, .int .i64 s3, .int .i64 s4, .string r] 23)).cell? ⟨w.heap.size, 3, none⟩ = some (.int .i64 27) := cell_of_row _ _ 3 _ _ _ HB2.out.2.1
  have y4 : (w2.alloc (.cells #[.int .i64 s0, .int .i64 s1, .int .i64 s3, .int .i64 s4, .string r] 23)).cell? ⟨w.heap.size, 4, none⟩ = some (.int .i64 28) := cell_of_row _ _ 4 _ _ _ HB2.out.2.1
  have y5 : (w2.alloc (.cells #[.int .i64 s0, .int .i64 s1, .int .i64 s3, .int .i64 s4, .string r] 23)).cell? ⟨w.heap.size, 5, none⟩ = some (.int .i64 29) := cell_of_row _ _ 5 _ _ _ HB2.out.2.1
  have y6 : (w2.alloc (.cells #[.int .i64 s0, .int .i64 s1, .int .i64 s3, .int .i64 s4, .string r] 23)).cell? ⟨w.heap.size, 6, none⟩ = some (.int .i64 (q : Int)) := cell_of_row _ _ 6 _ _ _ HB2.out.2.1
  have y7 : (w2.alloc (.cells #[.int .i64 s0, .int .i64 s1, .int .i64 s3, .int .i64 s4, .string r] 23)).cell? ⟨w.heap.size, 7, none⟩ = some (.int .i64 (29 + (q : Int))) := cell_of_row _ _ 7 _ _ _ HB2.out.2.1
  have y8 : (w2.alloc (.cells #[.int .i64 s0, .int .i64 s1, .int .i64 s3, .int .i64 s4, .string r] 23)).cell? ⟨w.heap.size, 8, none⟩ = some (.int .i64 (s2 : Int)) := cell_of_row _ _ 8 _ _ _ HB2.out.2.1
  have y9 : (w2.alloc (.cells #[.int .i64 s0, .int .i64 s1, .int .i64 s3, .int .i64 s4, .string r] 23)).cell? ⟨w.heap.size, 9, none⟩ = some (.int .i64 (29 + (q : Int) + (s2 : Int))) := cell_of_row _ _ 9 _ _ _ HB2.out.2.1
  have y10 : (w2.alloc (.cells #[.int .i64 s0, .int .i64 s1, .int .i64 s3, .int .i64 s4, .string r] 23)).cell? ⟨w.heap.size, 10, none⟩ = some (.int .i64 (29 + (q : Int) + (s2 : Int) + 1)) := cell_of_row _ _ 10 _ _ _ HB2.out.2.1
  have y11 : (w2.alloc (.cells #[.int .i64 s0, .int .i64 s1, .int .i64 s3, .int .i64 s4, .string r] 23)).cell? ⟨w.heap.size, 11, none⟩ = some (.int .i64 (n : Int)) := cell_of_row _ _ 11 _ _ _ HB2.out.2.1
  have y12 : (w2.alloc (.cells #[.int .i64 s0, .int .i64 s1, .int .i64 s3, .int .i64 s4, .string r] 23)).cell? ⟨w.heap.size, 12, none⟩ = some (.int .i64 ((n : Int) + 1)) := cell_of_row _ _ 12 _ _ _ HB2.out.2.1
  have y13 : (w2.alloc (.cells #[.int .i64 s0, .int .i64 s1, .int .i64 s3, .int .i64 s4, .string r] 23)).cell? ⟨w.heap.size, 13, none⟩ = some (.int .i64 (t : Int)) := cell_of_row _ _ 13 _ _ _ HB2.out.2.1
  have y14 : (w2.alloc (.cells #[.int .i64 s0, .int .i64 s1, .int .i64 s3, .int .i64 s4, .string r] 23)).cell? ⟨w.heap.size, 14, none⟩ = some (.int .i64 ((n : Int) + 1 + (t : Int))) := cell_of_row _ _ 14 _ _ _ HB2.out.2.1
  have y15 : (w2.alloc (.cells #[.int .i64 s0, .int .i64 s1, .int .i64 s3, .int .i64 s4, .string r] 23)).cell? ⟨w.heap.size, 15, none⟩ = some (.int .i64 ((n : Int) + 1 + (t : Int) + (n : Int))) := cell_of_row _ _ 15 _ _ _ HB2.out.2.1
  clear hpi hb2 n1 HB1 hba hbc hrcd
  go_wp2_with fail
  refine h3.mono ?_
  rintro e w3 ⟨rfl, hb3⟩
  have g3 := (hb3.block _ (lt_of_block HB2.out.2.2.2.1)).trans HB2.out.2.2.2.1
  have hb4 : Below w.heap.size w w3 := HB2.out.1.trans (hb3.mono HB2.out.1.size)
  have HB4 : Hid (w3.heap[w.heap.size + 1 + 1]? = some (.cells #[.int .i64 0, .int .i64 0, .int .i64 0, .int .i64 0, .string ⟨#[]⟩] 23 (0, 0)) ∧ Below w.heap.size w w3) := ⟨g3, hb4⟩
  clear h3 hb3 g3 hb4 HB2 i0 i1 y0 y1 y2 y3 y4 y5 y6 y7 y8 y9 y10 y11 y12 y13 y14 y15
  go_wp2_with fail
  go_quiet (fail)
  have g5 : (w3.drewN nq).heap[w.heap.size + 1 + 1]? = some (.cells #[.int .i64 0, .int .i64 0, .int .i64 0, .int .i64 0, .string ⟨#[]⟩] 23 (0, 0)) := HB4.out.1
  have hb5 : Below w.heap.size w (w3.drewN nq) := below_drewN HB4.out.2 nq
  clear HB4
  generalize w3.drewN nq = w5 at *
  go_wp2_with (refine wpList_store_row rfl 23 _ _ rfl (w.heap.size + 1 + 1) #[.int .i64 0, .int .i64 0, .int .i64 0, .int .i64 0, .string ⟨#[]⟩] rfl rfl 23 _ g5 (by kernel_rfl) rfl (by simp [Value.oneCell']) ?_)
  exact jfnd_ret _ (w.heap.size + 1 + 1) _ (.slice none 0 0) #[.int .i64 0, .int .i64 0, .int .i64 0, .int .i64 0, .string ⟨#[]⟩] false _ rfl rfl rfl (setRow_heap _ _ _ _ _ _ g5) rfl ⟨rfl, below_setRow hb5 (by omega) _⟩
end Go.Proofs.YtldkdoddklfdlaaGreatDoor
