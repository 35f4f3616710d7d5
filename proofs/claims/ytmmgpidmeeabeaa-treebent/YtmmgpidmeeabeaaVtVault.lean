/- The vault's calls, the ideal one behind them: what each tells, and what it has numbered then. -/
import Derived.Test.YtmmgpidmeeabeaaVtOpen
namespace Go.Proofs.Ytmmgpidmeeabeaa
set_option maxRecDepth 20000
open Go.RowKit Go.Maps

theorem given_any (B : Nat) (t : TypeId) (v : Value) (w : World) (c : w.cell? ⟨B, 0, none⟩ = some (.iface t v)) : Calls Try.prog 36 #[.pointer (some ⟨B, 0, none⟩)] w fun e w' => e = .returned (.bool true) ∧ w' = w := by
  go_enter Try.func36, Try.ntmps36
  go_wp2_with fail
  go_ret
  exact ⟨rfl, rfl⟩
theorem given_nil (w : World) : Calls Try.prog 36 #[.pointer none] w fun e w' => e = .returned (.bool false) ∧ w' = w := by
  go_enter Try.func36, Try.ntmps36
  go_wp2_with fail
  go_ret
  exact ⟨rfl, rfl⟩
theorem given_zero (B : Nat) (w : World) (c : w.cell? ⟨B, 0, none⟩ = some .nilIface) : Calls Try.prog 36 #[.pointer (some ⟨B, 0, none⟩)] w fun e w' => e = .returned (.bool false) ∧ w' = w := by
  go_enter Try.func36, Try.ntmps36
  go_wp2_with fail
  go_ret
  exact ⟨rfl, rfl⟩

def hashP (S : VS) (s : ByteArray) : VS := { S with texts := addN S.texts s }
def hashS (S : VS) (s : ByteArray) : ByteArray := wideS (numOf (addN S.texts s) s) 32
def macP (S : VS) (l s : ByteArray) : VS := { S with marks := addN S.marks (l, s) }
def macS (S : VS) (l s : ByteArray) : ByteArray := wideS (numOf (addN S.marks (l, s)) (l, s)) 16
def madeB (S : VS) (l s tag : ByteArray) : Bool := decide (numOf S.marks (l, s) ≠ 0 ∧ tag = wideS (numOf S.marks (l, s)) 16)
/-- There is such a salt, and the nonce has its length. -/
def fitB (z : Int) (n : ByteArray) : Bool := decide (0 ≤ z ∧ z ≤ 281474976710655 ∧ n.size = 12)
def sealP (S : VS) (z : Int) (n a s : ByteArray) : VS := if fitB z n then { S with seals := addN S.seals ⟨z, n, a, s⟩ } else S
def sealS (S : VS) (z : Int) (n a s : ByteArray) : ByteArray := if fitB z n then s ++ wideS (numOf (addN S.seals ⟨z, n, a, s⟩) ⟨z, n, a, s⟩) 16 else ⟨#[]⟩
def sealE (z : Int) (n : ByteArray) : Int := if fitB z n then 0 else 1
/-- What is opened: the number of the four, and the tag is that. -/
def openB (S : VS) (z : Int) (n a s : ByteArray) : Bool := decide (numOf S.seals ⟨z, n, a, headS s⟩ ≠ 0 ∧ tagS16 s = wideS (numOf S.seals ⟨z, n, a, headS s⟩) 16)
def openS (S : VS) (z : Int) (n a s : ByteArray) : ByteArray := if fitB z n then (if s.size < 16 then ⟨#[]⟩ else if openB S z n a s then headS s else ⟨#[]⟩) else ⟨#[]⟩
def openE (S : VS) (z : Int) (n a s : ByteArray) : Int := if fitB z n then (if s.size < 16 then 3 else if openB S z n a s then 0 else 10) else 1

theorem vhash_any (B : Nat) (F : Nat → Prop) (S : VS) (s : ByteArray) (hs : fitT s) (hl : S.texts.length ≤ 1000000) (w : World) (hp : Ideal w F B S) :
    Calls Try.prog 30 #[.pointer (some ⟨B, 0, none⟩), .string s] w fun e w' => e = .returned (.string (hashS S s)) ∧ Ideal w' F B (hashP S s) ∧ Touch F w w' := by
  obtain ⟨N, a, b, c, h⟩ := hp
  have c0 : w.cell? ⟨B, 0, none⟩ = some (.iface 45 (.pointer (some ⟨N, 0, none⟩))) := h.row.cell 0
  have hg := given_any B _ _ w c0
  have hn := nhash_any N a S.texts s hs hl w (h.num.cell 0) h.texts
  have hm : ∀ w : World, (method 223 45 (.pointer (some ⟨N, 0, none⟩)) "grapnel/vault.hash").run Try.prog w = .ok (65, .pointer (some ⟨N, 0, none⟩)) w := fun _ => by kernel_rfl
  have HK : Hid (∀ w', Nums keyT 109 w' a (addN S.texts s) → Only a w w' → Ideal w' F B (hashP S s) ∧ Touch F w w') := fun w' h1 h2 => ⟨⟨N, a, b, c, h.addT h2 h1⟩, Touch.of_only h2 h.fa⟩
  unfold hashS
  generalize wideS (numOf (addN S.texts s) s) 32 = u at *
  clear h hs
  go_enter Try.func30, Try.ntmps30
  go_wp2_with fail
  refine hg.mono ?_
  rintro e w1 ⟨rfl, rfl⟩
  clear hg
  go_wp2_with fail
  refine hn.mono ?_
  rintro e w2 ⟨rfl, h1, h2⟩
  have HF : Hid _ := HK.out w2 h1 h2
  clear h1 h2 hn
  go_wp2
  go_ret
  exact ⟨rfl, HF.out⟩
end Go.Proofs.Ytmmgpidmeeabeaa
