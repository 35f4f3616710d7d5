/- The document's Root. · The real vault in plain words, over what sum and box tell: how it lies in memory, and each of its calls. · The vault's calls, the real one behind them: what each tells; nothing that was there is changed. -/
import Derived.Test.YtgfhaadcajlifaaDoorMg20
import Derived.Test.YtgfhaadcajlifaaDoorMg17
namespace Go.Proofs.YtgfhaadcajlifaaDoor
set_option maxRecDepth 20000
open Go.RowKit

section
variable {R : World → Prop} {h : ByteArray → ByteArray} {B : Nat}
set_option maxHeartbeats 1000000 in
theorem rroot_any (Q : RV R h B) (hh : ∀ x, (h x).size = 32) (w : World) (oa : Option Addr) (c : Nat) (l : List ByteArray) (hlv : Lv w (fun _ => False) oa l) (hlen : l.length ≤ 200) (hs : ∀ x, x ∈ l → x.size ≤ 1000) (hr : R w) :
    Calls Tryd.prog 11 #[.pointer (some ⟨B, 0, none⟩), .slice oa l.length c] w fun e w' => e = .returned (.string (h (rootT l.length (topS h l)))) ∧ Below w.heap.size w w' := by
  have hrw := rrows_any Q hh w oa c l hlv hlen hs hr
  have HR : Hid (∀ w', Below w.heap.size w w' → R w') := fun w' hb => Q.keep hr hb
  obtain ⟨M, hM⟩ : ∃ M, M = hgt l.length := ⟨_, rfl⟩
  have HMM : Hid (M = hgt l.length) := hM
  have hM2 : M ≤ 200 := by have := hgt_le l.length; omega
  obtain ⟨m, hm⟩ : ∃ m, m = l.length := ⟨_, rfl⟩
  have HM : Hid (m = l.length) := hm
  rw [← hM] at hrw
  rw [← hm] at hrw hlen ⊢
  have htp := fun w' hr' => rtopped_any Q w' m (topS h l) (by omega) (by
    have : (topS h l).size ≤ 32 := by
      unfold topS
      rw [← hM]
      cases e : rowAt h l M with
      | nil => decide
      | cons a t => have := rowAt_size hh l M a (by rw [e]; exact List.mem_cons_self); show a.size ≤ 32; omega
    omega) hr'
  generalize h (rootT m (topS h l)) = y at *
  have m1 : IntKind.i64.wrap (((M + 1 : Nat) : Int) - 1) = (M : Int) := by rw [IntKind.wrap_i64]; omega
  have m2 : ((M + 1 : Nat) : Int) - 1 = (M : Int) := by omega
  have m3 : IntKind.i64.wrap ((M : Int) + 1 - 1) = (M : Int) := by rw [IntKind.wrap_i64]; omega
  have m4 : (M : Int) < ((M + 1 : Nat) : Int) := by omega
  have m5 : (M : Int) < (M : Int) + 1 := by omega
  clear hr hlv hs hm hM
  go_enter Tryd.func11, Tryd.ntmps11
  go_wp2_with fail
  refine hrw.mono ?_
  rintro e w1 ⟨⟨v, vs, rfl, hra⟩, hb1⟩
  have hown := hra.owns
  rw [rowsUp_length] at hown
  obtain ⟨g, cap, rfl, hcap, hg, hcell⟩ := owns_formG hown (by omega)
  have hvl : vs.length = M + 1 := by rw [hra.len, rowsUp_length]
  obtain ⟨u, hu⟩ : ∃ u, vs[M]? = some u := ⟨_, List.getElem?_eq_getElem (by omega)⟩
  have cM := hcell M u hu
  have hrow := hra.row M u _ hu (rowsUp_get h l M M (Nat.le_refl _))
  obtain ⟨ou, cu, rfl⟩ := OwnL.form hrow
  have htop : topS h l = (rowAt h l M).headD ⟨#[]⟩ := by unfold topS; rw [← HMM.out]
  have htp1 := htp w1 (HR.out w1 hb1)
  have HB1 : Hid (Below w.heap.size w w1) := hb1
  clear hrw htp hown hcell hvl hu hra hb1
  rcases hrw2 : rowAt h l M with _ | ⟨a, t⟩
  · rw [hrw2] at cM htop
    have e1 : topS h l = ⟨#[]⟩ := htop
    rw [e1] at htp1
    have e2 : ([] : List ByteArray).length = 0 := rfl
    rw [e2] at cM
    clear hrow htop hrw2 e1 e2
    go_wp2_with fail
    refine htp1.mono ?_
    rintro e w2 ⟨rfl, hb2⟩
    have HF : Hid (Below w.heap.size w w2) := HB1.out.trans (hb2.mono HB1.out.size)
    clear hb2 htp1
    go_wp2
    go_ret
    exact ⟨rfl, HF.out⟩
  · rw [hrw2] at cM htop hrow
    have e1 : topS h l = a := htop
    rw [e1] at htp1
    obtain ⟨ga, rfl, _, hga, hca, _⟩ := OwnL.cell hrow (i := 0) (x := a) rfl
    obtain ⟨tl, htl⟩ : ∃ tl, (a :: t).length = tl := ⟨_, rfl⟩
    have htl0 : 0 < tl := by rw [← htl]; simp
    have htl1 : (0 : Int) < tl := by omega
    rw [htl] at cM
    clear hrow htop hrw2 e1 htl
    go_wp2_with fail
    refine htp1.mono ?_
    rintro e w2 ⟨rfl, hb2⟩
    have HF : Hid (Below w.heap.size w w2) := HB1.out.trans (hb2.mono HB1.out.size)
    clear hb2 htp1
    go_wp2
    go_ret
    exact ⟨rfl, HF.out⟩
end
end Go.Proofs.YtgfhaadcajlifaaDoor

namespace Go.Proofs.YtgfhaadcajlifaaDoor
set_option maxRecDepth 20000
open Go.RowKit

/-- What sum and box tell. -/
structure PF where
  sum : ByteArray → ByteArray
  mac : ByteArray → ByteArray → ByteArray
  exp : ByteArray → ByteArray → ByteArray
  shut : ByteArray → ByteArray → ByteArray → ByteArray → ByteArray
  shutX : ByteArray → ByteArray → Int
  opn : ByteArray → ByteArray → ByteArray → ByteArray → ByteArray
  opnX : ByteArray → ByteArray → ByteArray → ByteArray → Int
/-- A real vault in block B, its master key. -/
def RealV (w : World) (B : Nat) (key : ByteArray) : Prop := ∃ N, Row w B 84 [.iface 78 (.pointer (some ⟨N, 0, none⟩))] ∧ Row w N 80 [.string key]
theorem RealV.below {w w' : World} {B : Nat} {key : ByteArray} (h : RealV w B key) (hb : Below w.heap.size w w') : RealV w' B key := by
  obtain ⟨N, h1, h2⟩ := h
  exact ⟨N, h1.below hb h1.lt, h2.below hb h2.lt⟩
def markT : ByteArray := ⟨#[109, 97, 114, 107, 32]⟩
def sealTT : ByteArray := ⟨#[115, 101, 97, 108, 32]⟩
def keyR (f : PF) (key p : ByteArray) : ByteArray := f.exp key p
def macR (f : PF) (key l s : ByteArray) : ByteArray := (f.mac (f.exp key (markT ++ l)) s).extract 0 16
def sealK (f : PF) (key : ByteArray) (z : Int) : ByteArray := f.exp key (sealTT ++ putS z 6)
def sealRS (f : PF) (key : ByteArray) (z : Int) (n a s : ByteArray) : ByteArray := if fitB z n then f.shut (sealK f key z) n a s else ⟨#[]⟩
def sealRE (f : PF) (key : ByteArray) (z : Int) (n : ByteArray) : Int := if fitB z n then f.shutX (sealK f key z) n else 1
def openRS (f : PF) (key : ByteArray) (z : Int) (n a s : ByteArray) : ByteArray := if fitB z n then (if s.size < 16 then ⟨#[]⟩ else f.opn (sealK f key z) n a s) else ⟨#[]⟩
def openRE (f : PF) (key : ByteArray) (z : Int) (n a s : ByteArray) : Int := if fitB z n then (if s.size < 16 then 3 else f.opnX (sealK f key z) n a s) else 1

section
variable {Tab : World → Prop} {f : PF}
theorem put6_le (n : Nat) : (putS n 6).size ≤ 6 := by
  unfold putS
  split
  · rw [strOfNums_size, leI_length]; decide
  · exact Nat.zero_le _
end
end Go.Proofs.YtgfhaadcajlifaaDoor

namespace Go.Proofs.YtgfhaadcajlifaaDoor
set_option maxRecDepth 20000
open Go.RowKit

section
variable {Tab : World → Prop} {f : PF}
end
/-- A new real vault, or Stretch's error. -/
theorem real_no {pass salt X : ByteArray} {rounds c : Int} (w : World) (hc : ¬ c = 0) (hs : Calls Tryd.prog 40 #[.string pass, .string salt, .int .i64 rounds, .int .i64 32] w fun e w' => e = .returned (.tuple #[.string X, .int .i64 c]) ∧ Below w.heap.size w w') :
    Calls Tryd.prog 20 #[.string pass, .string salt, .int .i64 rounds] w fun e w' => e = .returned (.tuple #[.pointer none, .int .i64 c]) ∧ Below w.heap.size w w' := by
  have hc1 : (c != 0) = true := by simpa using hc
  have hc2 : (c == 0) = false := beq_false_of_ne hc
  clear hc
  go_enter Tryd.func20, Tryd.ntmps20
  go_wp2_with fail
  refine hs.mono ?_
  rintro e w1 ⟨rfl, hb⟩
  have HB : Hid _ := hb
  clear hs hb
  go_wp2
  go_ret2
  exact ⟨rfl, HB.out⟩
theorem real_yes {pass salt X : ByteArray} {rounds : Int} (w : World) (hs : Calls Tryd.prog 40 #[.string pass, .string salt, .int .i64 rounds, .int .i64 32] w fun e w' => e = .returned (.tuple #[.string X, .int .i64 0]) ∧ Below w.heap.size w w') :
    Calls Tryd.prog 20 #[.string pass, .string salt, .int .i64 rounds] w fun e w' => ∃ B, e = .returned (.tuple #[.pointer (some ⟨B, 0, none⟩), .int .i64 0]) ∧ RealV w' B X ∧ Below w.heap.size w w' := by
  go_enter Tryd.func20, Tryd.ntmps20
  go_wp2_with fail
  refine hs.mono ?_
  rintro e w1 ⟨rfl, hb⟩
  have HB : Hid _ := hb
  clear hs hb
  go_wp2
  go_ret2
  obtain ⟨r0, r1, rB⟩ := two_new (w := w1) (w1 := (w1.alloc (.cells #[.string X] 80)).alloc (.cells #[.iface 78 (.pointer (some ⟨w1.heap.size, 0, none⟩))] 84)) (Below.refl _ _)
  exact ⟨w1.heap.size + 1, rfl, ⟨w1.heap.size, r1, r0⟩, HB.out.trans (rB.mono HB.out.size)⟩
end Go.Proofs.YtgfhaadcajlifaaDoor
