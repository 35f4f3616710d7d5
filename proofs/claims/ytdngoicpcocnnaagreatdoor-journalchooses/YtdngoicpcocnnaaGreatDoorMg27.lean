/- Writes: an address and bytes; lists of them. · What journal's functions tell, in plain words; nothing of the program's calls. -/
import Derived.Test.YtdngoicpcocnnaaGreatDoorMg06
import Derived.Test.YtdngoicpcocnnaaGreatDoorMg16
import Derived.Deep.AppendLies
import Derived.Test.YtdngoicpcocnnaaGreatDoorMg14
import Derived.Test.YtdngoicpcocnnaaGreatDoorMg24
import Derived.Test.YtdngoicpcocnnaaGreatDoorMg25
import Derived.Test.YtdngoicpcocnnaaGreatDoorMg02
import Derived.Test.YtdngoicpcocnnaaGreatDoorMg26
namespace Go.Proofs.YtdngoicpcocnnaaGreatDoor
set_option maxRecDepth 20000
open Go.RowKit

structure Wt where
  at_ : Int
  raw : ByteArray
instance : Inhabited Wt := ⟨⟨0, ⟨#[]⟩⟩⟩
def Wt.cells (x : Wt) : List Value := [.int .i64 x.at_, .string x.raw]
structure WtAt (W : World) (g o : Nat) (x : Wt) : Prop where
  c0 : W.cell? ⟨g, o, none⟩ = some (.int .i64 x.at_)
  c1 : W.cell? ⟨g, o + 1, none⟩ = some (.string x.raw)
/-- A list of writes that lies. -/
def Wts (W : World) (v : Value) (l : List Wt) : Prop := (∃ oa cap, v = .slice oa 0 cap ∧ l = []) ∨ ∃ g o cap, v = .slice (some ⟨g, o, none⟩) l.length cap ∧ g < W.heap.size ∧ ∀ i x, l[i]? = some x → WtAt W g (o + i * 2) x
theorem Wts.form {W : World} {v : Value} {l : List Wt} (h : Wts W v l) : ∃ oa cap, v = .slice oa l.length cap := by
  rcases h with ⟨oa, cap, rfl, rfl⟩ | ⟨g, o, cap, rfl, _⟩
  · exact ⟨oa, cap, rfl⟩
  · exact ⟨_, cap, rfl⟩
theorem Wts.get {W : World} {oa : Option Addr} {cap : Nat} {l : List Wt} (h : Wts W (.slice oa l.length cap) l) {i : Nat} (hi : i < l.length) : ∃ g o, oa = some ⟨g, o, none⟩ ∧ g < W.heap.size ∧ ∀ j x, l[j]? = some x → WtAt W g (o + j * 2) x := by
  rcases h with ⟨oa', cap', e, rfl⟩ | ⟨g, o, cap', e, hg, hx⟩
  · simp at hi
  · simp only [Value.slice.injEq] at e
    exact ⟨g, o, e.1, hg, hx⟩
theorem WtAt.keep {W W' : World} {g o : Nat} {x : Wt} (h : WtAt W g o x) (k : W'.heap[g]? = W.heap[g]?) : WtAt W' g o x := ⟨(World.cell?_of_block (a := ⟨g, o, none⟩) k).trans h.c0, (World.cell?_of_block (a := ⟨g, o + 1, none⟩) k).trans h.c1⟩
theorem Wts.at {W : World} {oa : Option Addr} {cap : Nat} {l : List Wt} (h : Wts W (.slice oa l.length cap) l) {i : Nat} (hi : i < l.length) : ∃ g o, oa = some ⟨g, o, none⟩ ∧ g < W.heap.size ∧ WtAt W g (o + i * 2) l[i] := by
  obtain ⟨g, o, e, hg, hx⟩ := h.get hi
  exact ⟨g, o, e, hg, hx i _ (List.getElem?_eq_getElem hi)⟩
theorem Wts.below {w w' : World} {v : Value} {l : List Wt} (h : Wts w v l) (hb : Below w.heap.size w w') : Wts w' v l := by
  rcases h with h | ⟨g, o, cap, e, hg, hx⟩
  · exact .inl h
  · exact .inr ⟨g, o, cap, e, Nat.lt_of_lt_of_le hg hb.size, fun i x hi => (hx i x hi).keep (hb.block g hg)⟩
/-- The block in which a list of writes lies, if it has one. -/
def Wts.Out (v : Value) (F : Nat → Prop) : Prop := ∀ g o len cap, v = .slice (some ⟨g, o, none⟩) len cap → ¬ F g
theorem Wts.touch {w w' : World} {v : Value} {l : List Wt} {F : Nat → Prop} (h : Wts w v l) (ht : Touch F w w') (ho : Wts.Out v F) : Wts w' v l := by
  rcases h with h | ⟨g, o, cap, e, hg, hx⟩
  · exact .inl h
  · exact .inr ⟨g, o, cap, e, Nat.lt_of_lt_of_le hg ht.1.size, fun i x hi => (hx i x hi).keep (ht.2 g hg (ho _ _ _ _ e))⟩
end Go.Proofs.YtdngoicpcocnnaaGreatDoor

namespace Go.Proofs.YtdngoicpcocnnaaGreatDoor
set_option maxRecDepth 20000
open Go.RowKit

/-- A superblock. -/
structure Sp where
  vol : Int
  ep : Int
  nx : Int
  lv : Int
  root : ByteArray
def Sp.arr (s : Sp) : Array Value := #[.int .i64 s.vol, .int .i64 s.ep, .int .i64 s.nx, .int .i64 s.lv, .string s.root]
def Sp.zero : Sp := ⟨0, 0, 0, 0, ⟨#[]⟩⟩
def Sp.txt (s : Sp) : ByteArray := superS s.vol s.ep s.nx s.lv s.root
def Sp.err (s : Sp) : Int := superE s.vol s.ep s.nx s.lv s.root
theorem sp_size {s : Sp} (h : s.err = 0) : s.txt.size = 448 := by
  unfold Sp.err superE at h
  split at h
  · next hr =>
    have hl := recE_zero h
    unfold Sp.txt superS
    rw [if_pos ⟨hr, hl⟩]
    have h2 := laidL_length (superPs s.vol s.ep s.nx s.lv) hl
    have h3 : s.root.data.toList.length = 32 := by rw [← hr]; simp
    show ((laidL (superPs s.vol s.ep s.nx s.lv) ++ s.root.data.toList) ++ List.replicate 394 0).toArray.size = 448
    rw [List.size_toArray, List.length_append, List.length_append, h2, h3, List.length_replicate]
    rfl
  · cases h
def spOf (t : ByteArray) : Sp := ⟨superON t 0 6, superON t 6 6, superON t 12 6, superON t 18 4, superOR t⟩
theorem superOC_arr (t : ByteArray) : superOC t = (spOf t).arr := rfl
/-- A superblock's head; what Super tells. -/
def Sp.hd (s : Sp) : Hd := ⟨s.vol, s.ep.tmod 2, 1, 0, 0, 0, s.ep, s.ep⟩
def supE (s : Sp) : Int := if s.err = 0 then bsealE s.hd s.txt else s.err
def supA (s : Sp) : Int := if supE s = 0 then s.ep.tmod 2 else 0
def supR (K : VK) (S : K.σ) (s : Sp) : ByteArray := if supE s = 0 then K.sS S s.hd s.txt else ⟨#[]⟩
def supP (K : VK) (S : K.σ) (s : Sp) : K.σ := if s.err = 0 then K.sP S s.hd s.txt else S
theorem supR_size {K : VK} (HK : VKOk K) {S : K.σ} {s : Sp} (hr : K.room S 1) (h : supE s = 0) : (supR K S s).size = 512 := by
  unfold supR
  rw [if_pos h]
  by_cases he : s.err = 0
  · unfold supE at h
    rw [if_pos he] at h
    exact HK.sSize S _ _ hr h
  · unfold supE at h
    rw [if_neg he] at h
    exact absurd h he
theorem supP_room {K : VK} (HK : VKOk K) {S : K.σ} {s : Sp} {n : Nat} (hr : K.room S (n + 1)) : K.room (supP K S s) n := by
  unfold supP
  split
  · exact HK.sRoom hr
  · exact HK.less hr (Nat.le_succ n)
/-- A reading. -/
structure Rg where
  ok : Bool
  h : Hd
  body : ByteArray
def Rg.arr (r : Rg) : Array Value := readA r.ok r.h r.body
def Rg.zero : Rg := ⟨false, Hd.zero, ⟨#[]⟩⟩
def toldR (K : VK) (S : K.σ) (r : ByteArray) (a : Int) : Rg := if K.oE S r = 0 ∧ (K.oH S r).v1 = a then ⟨true, K.oH S r, K.oS S r⟩ else Rg.zero
theorem toldR_arr (K : VK) (S : K.σ) (r : ByteArray) (a : Int) : toldK K S r a = (toldR K S r a).arr := by
  unfold toldK toldR
  split <;> rfl
def loadR (K : VK) (S : PS) (T : K.σ) (a : Int) : Rg := if (bget S a).1.2.2 = 0 ∧ (bget S a).1.2.1 = 0 then toldR K T (bget S a).1.1 a else Rg.zero
def lookR (K : VK) (T : K.σ) (raws : List ByteArray) (masks : List Int) (a : Int) : Rg := if atM raws masks a = 0 then toldR K T (atS raws masks a) a else Rg.zero
theorem lookR_arr (K : VK) (T : K.σ) (raws : List ByteArray) (masks : List Int) (a : Int) : lookK K T raws masks a = (lookR K T raws masks a).arr := by
  unfold lookK lookR
  split
  · exact toldR_arr K T _ a
  · rfl
/-- The superblock that a slot's reading is. -/
def sinB (r : Rg) (slot live : Int) : Bool := decide (r.ok = true ∧ r.h.v2 = 1 ∧ superOE r.body = 0 ∧ (spOf r.body).ep.tmod 2 = slot ∧ (spOf r.body).lv = live)
def sinS (r : Rg) (slot live : Int) : Sp := if sinB r slot live then spOf r.body else Sp.zero
/-- The one that is chosen behind j slots. -/
def chN (l : List Rg) (live : Int) : Nat → Option Sp
  | 0 => none
  | j + 1 => match l[j]? with
    | some r => if sinB r j live = true ∧ (∀ b, chN l live j = some b → b.ep < (spOf r.body).ep) then some (spOf r.body) else chN l live j
    | none => chN l live j
def chO (l : List Rg) (live : Int) : Option Sp := chN l live (min 2 l.length)
def osp (o : Option Sp) : Sp := o.getD Sp.zero
/-- A block's head is one of its address. -/
def hdB (x : Wt) : Bool := decide (x.raw.size = 512 ∧ headE (x.raw.extract 0 48) = 0 ∧ (hdOf (x.raw.extract 0 48)).v1 = x.at_)
def togB (least live : Int) : List Wt → Bool
  | [] => true
  | x :: l => decide (least ≤ x.at_ ∧ x.at_ < live) && hdB x && togB (x.at_ + 1) live l
def recsL (log : Int) : Nat → List Wt → List Wt
  | _, [] => []
  | i, x :: l => ⟨log + (i : Int), x.raw⟩ :: recsL log (i + 1) l
def joinB : List Wt → ByteArray
  | [] => ⟨#[]⟩
  | x :: l => x.raw ++ joinB l
/-- The promise's head, its body, its block. -/
def Sp.hdC (s : Sp) : Hd := ⟨s.vol, 2, 2, 0, 0, 0, s.ep, s.ep⟩
def proT (K : VK) (S : K.σ) (ws : List Wt) (s : Sp) : ByteArray := padS (putS (ws.length : Int) 2 ++ K.hS S (joinB ws) ++ s.txt.extract 0 54) 448
def proE (K : VK) (S : K.σ) (ws : List Wt) (s : Sp) : Int := if s.err = 0 then bsealE s.hdC (proT K S ws s) else s.err
def proA (K : VK) (S : K.σ) (ws : List Wt) (s : Sp) : Int := if proE K S ws s = 0 then 2 else 0
def proR (K : VK) (S : K.σ) (ws : List Wt) (s : Sp) : ByteArray := if proE K S ws s = 0 then K.sS (K.hP S (joinB ws)) s.hdC (proT K S ws s) else ⟨#[]⟩
def proP (K : VK) (S : K.σ) (ws : List Wt) (s : Sp) : K.σ := if s.err = 0 then K.sP (K.hP S (joinB ws)) s.hdC (proT K S ws s) else S
/-- What a reading promises. -/
def piT (r : Rg) : ByteArray := padS (r.body.extract 34 448) 448
def piB (r : Rg) (live : Int) : Bool := decide (r.ok = true ∧ r.h.v2 = 2 ∧ getN r.body 0 2 ≤ 24 ∧ superOE (piT r) = 0 ∧ (spOf (piT r)).lv = live)
def piN (r : Rg) (live : Int) : Int := if piB r live then getN r.body 0 2 else 0
def piS (r : Rg) (live : Int) : Sp := if piB r live then spOf (piT r) else Sp.zero
/-- The records. -/
def rcdW (raws : List ByteArray) (masks : List Int) (log : Int) (i : Nat) : Wt := ⟨(hdOf ((atS raws masks (log + (i : Int))).extract 0 48)).v1, atS raws masks (log + (i : Int))⟩
def rcdL (raws : List ByteArray) (masks : List Int) (log : Int) (n : Nat) : List Wt := (List.range n).map (rcdW raws masks log)
def rcdB (raws : List ByteArray) (masks : List Int) (log : Int) (n : Nat) : Bool := (List.range n).all fun i => decide (atM raws masks (log + (i : Int)) = 0)
end Go.Proofs.YtdngoicpcocnnaaGreatDoor
