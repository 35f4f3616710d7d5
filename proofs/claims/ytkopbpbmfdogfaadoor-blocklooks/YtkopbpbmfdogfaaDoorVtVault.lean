/- The vault's calls, the ideal one behind them: what each tells, and what it has numbered then. -/
import Derived.Test.YtkopbpbmfdogfaaDoorVtOpen
namespace Go.Proofs.YtkopbpbmfdogfaaDoor
set_option maxRecDepth 20000
open Go.RowKit Go.Maps

theorem fit_any (z : Int) (a : ByteArray) (w : World) : Calls Tryd.prog 20 #[.int .i64 z, .string a] w fun e w' => e = .returned (.bool (decide (0 ≤ z ∧ z ≤ 281474976710655 ∧ a.size = 12))) ∧ w' = w := by
  by_cases h1 : 0 ≤ z
  case neg =>
    have hr : decide (0 ≤ z ∧ z ≤ 281474976710655 ∧ a.size = 12) = false := by simp [h1]
    rw [hr]
    go_enter Tryd.func20, Tryd.ntmps20
    go_wp2
    go_ret
    exact ⟨rfl, rfl⟩
  by_cases h2 : z ≤ 281474976710655
  case neg =>
    have hr : decide (0 ≤ z ∧ z ≤ 281474976710655 ∧ a.size = 12) = false := by simp [h2]
    rw [hr]
    go_enter Tryd.func20, Tryd.ntmps20
    go_wp2
    go_ret
    exact ⟨rfl, rfl⟩
  by_cases h3 : (a.size : Int) = 12
  · have hr : decide (0 ≤ z ∧ z ≤ 281474976710655 ∧ a.size = 12) = true := by simp [h1, h2]; omega
    rw [hr]
    go_enter Tryd.func20, Tryd.ntmps20
    go_wp2
    go_ret
    exact ⟨rfl, rfl⟩
  · have hr : decide (0 ≤ z ∧ z ≤ 281474976710655 ∧ a.size = 12) = false := by simp [h1, h2]; omega
    have h4 : ((a.size : Int) == 12) = false := beq_false_of_ne h3
    rw [hr]
    go_enter Tryd.func20, Tryd.ntmps20
    go_wp2
    go_ret
    exact ⟨rfl, rfl⟩
theorem given_any (B : Nat) (t : TypeId) (v : Value) (w : World) (c : w.cell? ⟨B, 0, none⟩ = some (.iface t v)) : Calls Tryd.prog 19 #[.pointer (some ⟨B, 0, none⟩)] w fun e w' => e = .returned (.bool true) ∧ w' = w := by
  go_enter Tryd.func19, Tryd.ntmps19
  go_wp2_with fail
  go_ret
  exact ⟨rfl, rfl⟩
theorem given_nil (w : World) : Calls Tryd.prog 19 #[.pointer none] w fun e w' => e = .returned (.bool false) ∧ w' = w := by
  go_enter Tryd.func19, Tryd.ntmps19
  go_wp2_with fail
  go_ret
  exact ⟨rfl, rfl⟩
theorem given_zero (B : Nat) (w : World) (c : w.cell? ⟨B, 0, none⟩ = some .nilIface) : Calls Tryd.prog 19 #[.pointer (some ⟨B, 0, none⟩)] w fun e w' => e = .returned (.bool false) ∧ w' = w := by
  go_enter Tryd.func19, Tryd.ntmps19
  go_wp2_with fail
  go_ret
  exact ⟨rfl, rfl⟩

def hashP (S : VS) (s : ByteArray) : VS := { S with texts := addN S.texts s }
def hashS (S : VS) (s : ByteArray) : ByteArray := wideS (numOf (addN S.texts s) s) 32
def macP (S : VS) (l s : ByteArray) : VS := { S with marks := addN S.marks (l, s) }
def macS (S : VS) (l s : ByteArray) : ByteArray := wideS (numOf (addN S.marks (l, s)) (l, s)) 16
def madeB (S : VS) (l s tag : ByteArray) : Bool := decide (numOf S.marks (l, s) ≠ 0 ∧ tag = wideS (numOf S.marks (l, s)) 16)
/-- There is such a salt, and the nonce has its length. -/
def fitB (z : Int) (n : ByteArray) : Bool := decide (0 ≤ z ∧ z ≤ 281474976710655 ∧ n.size = 12)
def sealP (S : VS) (z : Int) (n a s : ByteArray) : VS := if fitB z n then { S with seals := addN S.seals ⟨z, n, a, s⟩ } else S
def sealS (S : VS) (z : Int) (n a s : ByteArray) : ByteArray := if fitB z n then s ++ wideS (numOf (addN S.seals ⟨z, n, a, s⟩) ⟨z, n, a, s⟩) 16 else ⟨#[]⟩
def sealE (z : Int) (n : ByteArray) : Int := if fitB z n then 0 else 1
/-- What is opened: the number of the four, and the tag is that. -/
def openB (S : VS) (z : Int) (n a s : ByteArray) : Bool := decide (numOf S.seals ⟨z, n, a, headS s⟩ ≠ 0 ∧ tagS16 s = wideS (numOf S.seals ⟨z, n, a, headS s⟩) 16)
def openS (S : VS) (z : Int) (n a s : ByteArray) : ByteArray := if fitB z n then (if s.size < 16 then ⟨#[]⟩ else if openB S z n a s then headS s else ⟨#[]⟩) else ⟨#[]⟩
def openE (S : VS) (z : Int) (n a s : ByteArray) : Int := if fitB z n then (if s.size < 16 then 3 else if openB S z n a s then 0 else 10) else 1

set_option maxHeartbeats 1000000 in
theorem vseal_any (B : Nat) (F : Nat → Prop) (S : VS) (z : Int) (n ad s : ByteArray) (hs : fitF ⟨z, n, ad, s⟩) (hl : S.seals.length ≤ 1000000) (w : World) (hp : Ideal w F B S) :
    Calls Tryd.prog 12 #[.pointer (some ⟨B, 0, none⟩), .int .i64 z, .string n, .string ad, .string s] w fun e w' => e = .returned (.tuple #[.string (sealS S z n ad s), .int .i64 (sealE z n)]) ∧ Ideal w' F B (sealP S z n ad s) ∧ Touch F w w' := by
  have hp0 := hp
  obtain ⟨N, a, b, c, h⟩ := hp
  have c0 : w.cell? ⟨B, 0, none⟩ = some (.iface 41 (.pointer (some ⟨N, 0, none⟩))) := h.row.cell 0
  have hg := given_any B _ _ w c0
  have hf := fit_any z n w
  unfold sealS sealE sealP
  rw [show decide (0 ≤ z ∧ z ≤ 281474976710655 ∧ n.size = 12) = fitB z n from rfl] at hf
  have hn := nseal_any N c S.seals ⟨z, n, ad, s⟩ hs hl w (h.num.cell 2) h.seals
  have hm : ∀ w : World, (method 258 41 (.pointer (some ⟨N, 0, none⟩)) "grapnel/vault.seal").run Tryd.prog w = .ok (92, .pointer (some ⟨N, 0, none⟩)) w := fun _ => by kernel_rfl
  have HK : Hid (∀ w', Nums keyS 146 w' c (addN S.seals ⟨z, n, ad, s⟩) → Only c w w' → Ideal w' F B { S with seals := addN S.seals ⟨z, n, ad, s⟩ } ∧ Touch F w w') := fun w' h1 h2 => ⟨⟨N, a, b, c, h.addS h2 h1⟩, Touch.of_only h2 h.fc⟩
  have HP : Hid (Ideal w F B S) := hp0
  generalize s ++ wideS (numOf (addN S.seals ⟨z, n, ad, s⟩) ⟨z, n, ad, s⟩) 16 = u at *
  generalize addN S.seals ⟨z, n, ad, s⟩ = l2 at *
  clear h hs hp0
  cases hb : fitB z n <;> rw [hb] at hf
  · simp only [Bool.false_eq_true, if_false]
    go_enter Tryd.func12, Tryd.ntmps12
    go_wp2_with fail
    refine hg.mono ?_
    rintro e w1 ⟨rfl, rfl⟩
    clear hg
    go_wp2_with fail
    refine hf.mono ?_
    rintro e w3 ⟨rfl, rfl⟩
    clear hf
    go_wp2
    go_ret2
    exact ⟨rfl, HP.out, Touch.refl _ _⟩
  · simp only [if_true]
    go_enter Tryd.func12, Tryd.ntmps12
    go_wp2_with fail
    refine hg.mono ?_
    rintro e w1 ⟨rfl, rfl⟩
    clear hg
    go_wp2_with fail
    refine hf.mono ?_
    rintro e w3 ⟨rfl, rfl⟩
    clear hf
    go_wp2_with fail
    refine hn.mono ?_
    rintro e w2 ⟨rfl, h1, h2⟩
    have HF : Hid _ := HK.out w2 h1 h2
    clear h1 h2 hn
    go_wp2
    go_ret2
    exact ⟨rfl, HF.out⟩
set_option maxHeartbeats 1000000 in
theorem vopen_any (B : Nat) (F : Nat → Prop) (S : VS) (z : Int) (n ad s : ByteArray) (hs : fitF ⟨z, n, ad, s⟩) (hl : S.seals.length ≤ 1000000) (w : World) (hp : Ideal w F B S) :
    Calls Tryd.prog 27 #[.pointer (some ⟨B, 0, none⟩), .int .i64 z, .string n, .string ad, .string s] w fun e w' => e = .returned (.tuple #[.string (openS S z n ad s), .int .i64 (openE S z n ad s)]) ∧ Below w.heap.size w w' := by
  obtain ⟨N, a, b, c, h⟩ := hp
  have c0 : w.cell? ⟨B, 0, none⟩ = some (.iface 41 (.pointer (some ⟨N, 0, none⟩))) := h.row.cell 0
  have hg := given_any B _ _ w c0
  have hf := fit_any z n w
  unfold openS openE
  rw [show decide (0 ≤ z ∧ z ≤ 281474976710655 ∧ n.size = 12) = fitB z n from rfl] at hf
  have hn := fun h16 => nopen_any N c S.seals z n ad s hs h16 hl w (h.num.cell 2) h.seals
  have hdec : ∀ X Y : Value, (if numOf S.seals ⟨z, n, ad, headS s⟩ ≠ 0 ∧ tagS16 s = wideS (numOf S.seals ⟨z, n, ad, headS s⟩) 16 then X else Y) = if openB S z n ad s then X else Y := fun X Y => by simp [openB]
  simp only [hdec] at hn
  have hm : ∀ w : World, (method 258 41 (.pointer (some ⟨N, 0, none⟩)) "grapnel/vault.open").run Tryd.prog w = .ok (91, .pointer (some ⟨N, 0, none⟩)) w := fun _ => by kernel_rfl
  clear h hs hdec
  generalize headS s = u at *
  generalize openB S z n ad s = ok at *
  cases hb : fitB z n <;> rw [hb] at hf
  · simp only [Bool.false_eq_true, if_false]
    go_enter Tryd.func27, Tryd.ntmps27
    go_wp2_with fail
    refine hg.mono ?_
    rintro e w1 ⟨rfl, rfl⟩
    clear hg
    go_wp2_with fail
    refine hf.mono ?_
    rintro e w3 ⟨rfl, rfl⟩
    clear hf
    go_wp2
    go_ret2
    exact ⟨rfl, Below.refl _ _⟩
  · simp only [if_true]
    by_cases h16 : s.size < 16
    · have h16' : (s.size : Int) < 16 := by omega
      simp only [h16, if_true]
      clear hn
      go_enter Tryd.func27, Tryd.ntmps27
      go_wp2_with fail
      refine hg.mono ?_
      rintro e w1 ⟨rfl, rfl⟩
      clear hg
      go_wp2_with fail
      refine hf.mono ?_
      rintro e w3 ⟨rfl, rfl⟩
      clear hf
      go_wp2
      go_ret2
      exact ⟨rfl, Below.refl _ _⟩
    · have h16' : ¬ (s.size : Int) < 16 := by omega
      simp only [h16, if_false]
      have hn2 := hn (by omega)
      clear hn
      cases ok <;> simp only [Bool.false_eq_true, if_false, if_true] at hn2 ⊢
      all_goals
        go_enter Tryd.func27, Tryd.ntmps27
        go_wp2_with fail
        refine hg.mono ?_
        rintro e w1 ⟨rfl, rfl⟩
        clear hg
        go_wp2_with fail
        refine hf.mono ?_
        rintro e w3 ⟨rfl, rfl⟩
        clear hf
        go_wp2_with fail
        refine hn2.mono ?_
        rintro e w2 ⟨rfl, h1⟩
        have HF : Hid _ := h1
        clear h1 hn2
        go_wp2
        go_ret2
        exact ⟨rfl, HF.out⟩
end Go.Proofs.YtkopbpbmfdogfaaDoor
