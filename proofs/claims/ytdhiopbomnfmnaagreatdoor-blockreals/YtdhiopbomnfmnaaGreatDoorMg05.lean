/- The document's vault, the ideal one: how it lies in memory; the same plain words as of vault's. · The document's Noughts, called with a number from 0 to 4096, tells so many bytes 0, and changes nothing that was there. · The document's Put, called with any two numbers of type int, tells the bytes putS and the error putE, and changes nothing that was there. · The document's numbered, and its vault's Hash (the ideal one). -/
import Derived.Test.YtdhiopbomnfmnaaGreatDoorMg03
import Derived.Deep.AppendLies
import Derived.Test.YtdhiopbomnfmnaaGreatDoorMg01
namespace Go.Proofs.YtdhiopbomnfmnaaGreatDoor
set_option maxRecDepth 20000
open Go.RowKit

def texC (l : List (ByteArray)) : List Value := l.flatMap fun x => [.string x]
theorem texC_snoc (l : List (ByteArray)) (x : ByteArray) : texC (l ++ [x]) = texC l ++ [.string x] := by simp [texC]
theorem texC_get : ∀ (l : List (ByteArray)) (k : Nat) (x : ByteArray), l[k]? = some x → ∀ c, c < 1 → (texC l)[k * 1 + c]? = ([.string x] : List Value)[c]?
  | [], k, x, h => by simp at h
  | y :: t, 0, x, h => by
    simp at h
    subst h
    intro c hc
    rw [show texC (y :: t) = [.string y] ++ texC t from by simp [texC], Nat.zero_mul, Nat.zero_add, List.getElem?_append_left (by simpa using hc)]
  | y :: t, k + 1, x, h => by
    intro c hc
    have := texC_get t k x (by simpa using h) c hc
    have hl : ([.string y] : List Value).length = 1 := rfl
    rw [show texC (y :: t) = [.string y] ++ texC t from by simp [texC], List.getElem?_append_right (by rw [hl]; omega), hl, show (k + 1) * 1 + c - 1 = k * 1 + c by omega]
    exact this
def marC (l : List (ByteArray × ByteArray)) : List Value := l.flatMap fun x => [.string x.1, .string x.2]
theorem marC_snoc (l : List (ByteArray × ByteArray)) (x : ByteArray × ByteArray) : marC (l ++ [x]) = marC l ++ [.string x.1, .string x.2] := by simp [marC]
theorem marC_get : ∀ (l : List (ByteArray × ByteArray)) (k : Nat) (x : ByteArray × ByteArray), l[k]? = some x → ∀ c, c < 2 → (marC l)[k * 2 + c]? = ([.string x.1, .string x.2] : List Value)[c]?
  | [], k, x, h => by simp at h
  | y :: t, 0, x, h => by
    simp at h
    subst h
    intro c hc
    rw [show marC (y :: t) = [.string y.1, .string y.2] ++ marC t from by simp [marC], Nat.zero_mul, Nat.zero_add, List.getElem?_append_left (by simpa using hc)]
  | y :: t, k + 1, x, h => by
    intro c hc
    have := marC_get t k x (by simpa using h) c hc
    have hl : ([.string y.1, .string y.2] : List Value).length = 2 := rfl
    rw [show marC (y :: t) = [.string y.1, .string y.2] ++ marC t from by simp [marC], List.getElem?_append_right (by rw [hl]; omega), hl, show (k + 1) * 2 + c - 2 = k * 2 + c by omega]
    exact this
def fouC (l : List (Four)) : List Value := l.flatMap fun x => [.int .i64 x.salt, .string x.nonce, .string x.ad, .string x.text]
theorem fouC_snoc (l : List (Four)) (x : Four) : fouC (l ++ [x]) = fouC l ++ [.int .i64 x.salt, .string x.nonce, .string x.ad, .string x.text] := by simp [fouC]
theorem fouC_get : ∀ (l : List (Four)) (k : Nat) (x : Four), l[k]? = some x → ∀ c, c < 4 → (fouC l)[k * 4 + c]? = ([.int .i64 x.salt, .string x.nonce, .string x.ad, .string x.text] : List Value)[c]?
  | [], k, x, h => by simp at h
  | y :: t, 0, x, h => by
    simp at h
    subst h
    intro c hc
    rw [show fouC (y :: t) = [.int .i64 y.salt, .string y.nonce, .string y.ad, .string y.text] ++ fouC t from by simp [fouC], Nat.zero_mul, Nat.zero_add, List.getElem?_append_left (by simpa using hc)]
  | y :: t, k + 1, x, h => by
    intro c hc
    have := fouC_get t k x (by simpa using h) c hc
    have hl : ([.int .i64 y.salt, .string y.nonce, .string y.ad, .string y.text] : List Value).length = 4 := rfl
    rw [show fouC (y :: t) = [.int .i64 y.salt, .string y.nonce, .string y.ad, .string y.text] ++ fouC t from by simp [fouC], List.getElem?_append_right (by rw [hl]; omega), hl, show (k + 1) * 4 + c - 4 = k * 4 + c by omega]
    exact this

structure RefVAt (w : World) (F : Nat → Prop) (B : Nat) (hv pv fv : Value) (S : VS) : Prop where
  row : Row w B 51 [.bool true, .string ⟨#[]⟩, hv, pv, fv]
  hs : w.ownsRow 0 9 1 hv S.texts.length (texC S.texts)
  ps : w.ownsRow 0 226 2 pv S.marks.length (marC S.marks)
  fs : w.ownsRow 0 98 4 fv S.seals.length (fouC S.seals)
  fB : F B
  hF : ∀ g, hv.ownBlock = some g → F g
  pF : ∀ g, pv.ownBlock = some g → F g
  fF : ∀ g, fv.ownBlock = some g → F g
  hB : hv.ownBlock ≠ some B
  pB : pv.ownBlock ≠ some B
  qB : fv.ownBlock ≠ some B
  hp : ∀ g, hv.ownBlock = some g → pv.ownBlock ≠ some g
  hf : ∀ g, hv.ownBlock = some g → fv.ownBlock ≠ some g
  pf : ∀ g, pv.ownBlock = some g → fv.ownBlock ≠ some g
def RefV (w : World) (F : Nat → Prop) (B : Nat) (S : VS) : Prop := ∃ hv pv fv, RefVAt w F B hv pv fv S
theorem RefVAt.keep {w w' : World} {F : Nat → Prop} {B : Nat} {hv pv fv : Value} {S : VS} (h : RefVAt w F B hv pv fv S) (hk : ∀ k, k < w.heap.size → F k → w'.heap[k]? = w.heap[k]?) : RefVAt w' F B hv pv fv S :=
  { h with
    row := (hk B h.row.lt h.fB).trans h.row
    hs := owns_keep h.hs fun g hg => hk g (owns_lt h.hs g hg) (h.hF g hg)
    ps := owns_keep h.ps fun g hg => hk g (owns_lt h.ps g hg) (h.pF g hg)
    fs := owns_keep h.fs fun g hg => hk g (owns_lt h.fs g hg) (h.fF g hg) }
theorem RefVAt.mono {w : World} {F F' : Nat → Prop} {B : Nat} {hv pv fv : Value} {S : VS} (h : RefVAt w F B hv pv fv S) (hF : ∀ k, k < w.heap.size → F k → F' k) : RefVAt w F' B hv pv fv S :=
  { h with
    fB := hF _ h.row.lt h.fB
    hF := fun g hg => hF g (owns_lt h.hs g hg) (h.hF g hg)
    pF := fun g hg => hF g (owns_lt h.ps g hg) (h.pF g hg)
    fF := fun g hg => hF g (owns_lt h.fs g hg) (h.fF g hg) }
theorem RefV.keep {w w' : World} {F : Nat → Prop} {B : Nat} {S : VS} (h : RefV w F B S) (hk : ∀ k, k < w.heap.size → F k → w'.heap[k]? = w.heap[k]?) : RefV w' F B S := by
  obtain ⟨a, b, c, h⟩ := h
  exact ⟨a, b, c, h.keep hk⟩
theorem RefV.mono {w : World} {F F' : Nat → Prop} {B : Nat} {S : VS} (h : RefV w F B S) (hF : ∀ k, k < w.heap.size → F k → F' k) : RefV w F' B S := by
  obtain ⟨a, b, c, h⟩ := h
  exact ⟨a, b, c, h.mono hF⟩
theorem RefV.below {w w' : World} {F : Nat → Prop} {B : Nat} {S : VS} (h : RefV w F B S) (hb : Below w.heap.size w w') : RefV w' F B S := h.keep fun k hk _ => hb.block k hk
theorem RefV.lt {w : World} {F : Nat → Prop} {B : Nat} {S : VS} (h : RefV w F B S) : B < w.heap.size := by
  obtain ⟨a, b, c, h⟩ := h
  exact h.row.lt
/-- A slice that grew lies where it lay, or in a block that is new. -/
theorem own_new {w : World} {e : TypeId} {z n g N : Nat} {u v v' : Value} {xs : List Value} (h : w.ownsRow 0 e z u n xs) (hu : u.ownBlock = some g) (hN : w.heap.size ≤ N) (hne : v.ownBlock ≠ some g) (hat : v'.ownBlock = v.ownBlock ∨ v'.ownBlock = some N) : v'.ownBlock ≠ some g := by
  rcases hat with e | e
  · rw [e]; exact hne
  · rw [e]; intro e2; cases e2; have := owns_lt h g hu; omega

theorem RefVAt.add_h {w0 w w' : World} {F : Nat → Prop} {B : Nat} {hv pv fv v' : Value} {S : VS} {x : ByteArray} (h : RefVAt w F B hv pv fv S) (ht : Touch F w0 w)
    (hown : w'.ownsRow 0 9 1 v' (S.texts.length + 1) (texC S.texts ++ [.string x])) (hg : w.grownBy w' hv.ownBlock) (hat : v'.ownBlock = hv.ownBlock ∨ v'.ownBlock = some w.heap.size) :
    w'.cell? ⟨B, 2, none⟩ = some hv ∧ w'.frozen? ⟨B, 2, none⟩ = false ∧ RefVAt (w'.setCell ⟨B, 2, none⟩ v') (grow F w0 (w'.setCell ⟨B, 2, none⟩ v')) B v' pv fv { S with texts := S.texts ++ [x] } ∧ Touch F w0 (w'.setCell ⟨B, 2, none⟩ v') := by
  have hB := h.row.lt
  have r1 : Row w' B _ _ := (hg.block B h.row.lt (fun e => h.hB e.symm)).trans h.row
  have np : ∀ g, pv.ownBlock = some g → hv.ownBlock ≠ some g := fun g hg' => (fun e => h.hp g e hg')
  have rp := owns_keep (w' := w') h.ps fun g hg' => hg.block g (owns_lt h.ps g hg') (fun e => np g hg' e.symm)
  have nf : ∀ g, fv.ownBlock = some g → hv.ownBlock ≠ some g := fun g hg' => (fun e => h.hf g e hg')
  have rf := owns_keep (w' := w') h.fs fun g hg' => hg.block g (owns_lt h.fs g hg') (fun e => nf g hg' e.symm)
  have nB : v'.ownBlock ≠ some B := by
    rcases hat with e | e
    · rw [e]; exact h.hB
    · rw [e]; intro e2; cases e2; omega
  have hsz : (w'.setCell ⟨B, 2, none⟩ v').heap.size = w'.heap.size := by simp
  have ht2 : Touch F w0 w' := ⟨ht.1.trans ⟨hg.os, hg.tape, hg.output, hg.size, fun k hk => absurd hk (Nat.not_lt_zero k)⟩, fun k hk hn => (hg.block k (Nat.lt_of_lt_of_le hk ht.size) (fun e => hn (h.hF k e.symm))).trans (ht.2 k hk hn)⟩
  have hnew : w'.ownsRow 0 9 1 v' (S.texts ++ [x]).length (texC (S.texts ++ [x])) := by
    rw [texC_snoc, List.length_append]
    exact hown
  have hFn : ∀ g, v'.ownBlock = some g → grow F w0 (w'.setCell ⟨B, 2, none⟩ v') g := fun g hg' => by
    have hlt := owns_lt hown g hg'
    rcases hat with e | e
    · exact .inl (h.hF g (by rw [← e]; exact hg'))
    · rw [e] at hg'
      cases hg'
      exact .inr ⟨ht.size, by rw [hsz]; exact hlt⟩
  exact ⟨r1.cell 2, r1.frozen 2, ⟨r1.setL 2 v', owns_off hnew nB _ _, owns_off rp h.pB _ _, owns_off rf h.qB _ _, .inl h.fB, hFn, fun g hg' => .inl (h.pF g hg'), fun g hg' => .inl (h.fF g hg'), nB, h.pB, h.qB, fun g hg' e => own_new h.ps e (Nat.le_refl _) (np g e) hat hg', fun g hg' e => own_new h.fs e (Nat.le_refl _) (nf g e) hat hg', h.pf⟩, ht2.setCell _ _ _ (.inl h.fB)⟩

theorem RefVAt.add_p {w0 w w' : World} {F : Nat → Prop} {B : Nat} {hv pv fv v' : Value} {S : VS} {x : ByteArray × ByteArray} (h : RefVAt w F B hv pv fv S) (ht : Touch F w0 w)
    (hown : w'.ownsRow 0 226 2 v' (S.marks.length + 1) (marC S.marks ++ [.string x.1, .string x.2])) (hg : w.grownBy w' pv.ownBlock) (hat : v'.ownBlock = pv.ownBlock ∨ v'.ownBlock = some w.heap.size) :
    w'.cell? ⟨B, 3, none⟩ = some pv ∧ w'.frozen? ⟨B, 3, none⟩ = false ∧ RefVAt (w'.setCell ⟨B, 3, none⟩ v') (grow F w0 (w'.setCell ⟨B, 3, none⟩ v')) B hv v' fv { S with marks := S.marks ++ [x] } ∧ Touch F w0 (w'.setCell ⟨B, 3, none⟩ v') := by
  have hB := h.row.lt
  have r1 : Row w' B _ _ := (hg.block B h.row.lt (fun e => h.pB e.symm)).trans h.row
  have nh : ∀ g, hv.ownBlock = some g → pv.ownBlock ≠ some g := fun g hg' => h.hp g hg'
  have rh := owns_keep (w' := w') h.hs fun g hg' => hg.block g (owns_lt h.hs g hg') (fun e => nh g hg' e.symm)
  have nf : ∀ g, fv.ownBlock = some g → pv.ownBlock ≠ some g := fun g hg' => (fun e => h.pf g e hg')
  have rf := owns_keep (w' := w') h.fs fun g hg' => hg.block g (owns_lt h.fs g hg') (fun e => nf g hg' e.symm)
  have nB : v'.ownBlock ≠ some B := by
    rcases hat with e | e
    · rw [e]; exact h.pB
    · rw [e]; intro e2; cases e2; omega
  have hsz : (w'.setCell ⟨B, 3, none⟩ v').heap.size = w'.heap.size := by simp
  have ht2 : Touch F w0 w' := ⟨ht.1.trans ⟨hg.os, hg.tape, hg.output, hg.size, fun k hk => absurd hk (Nat.not_lt_zero k)⟩, fun k hk hn => (hg.block k (Nat.lt_of_lt_of_le hk ht.size) (fun e => hn (h.pF k e.symm))).trans (ht.2 k hk hn)⟩
  have hnew : w'.ownsRow 0 226 2 v' (S.marks ++ [x]).length (marC (S.marks ++ [x])) := by
    rw [marC_snoc, List.length_append]
    exact hown
  have hFn : ∀ g, v'.ownBlock = some g → grow F w0 (w'.setCell ⟨B, 3, none⟩ v') g := fun g hg' => by
    have hlt := owns_lt hown g hg'
    rcases hat with e | e
    · exact .inl (h.pF g (by rw [← e]; exact hg'))
    · rw [e] at hg'
      cases hg'
      exact .inr ⟨ht.size, by rw [hsz]; exact hlt⟩
  exact ⟨r1.cell 3, r1.frozen 3, ⟨r1.setL 3 v', owns_off rh h.hB _ _, owns_off hnew nB _ _, owns_off rf h.qB _ _, .inl h.fB, fun g hg' => .inl (h.hF g hg'), hFn, fun g hg' => .inl (h.fF g hg'), h.hB, nB, h.qB, fun g hg' => own_new h.hs hg' (Nat.le_refl _) (nh g hg') hat, h.hf, fun g hg' e => own_new h.fs e (Nat.le_refl _) (nf g e) hat hg'⟩, ht2.setCell _ _ _ (.inl h.fB)⟩

theorem RefVAt.add_f {w0 w w' : World} {F : Nat → Prop} {B : Nat} {hv pv fv v' : Value} {S : VS} {x : Four} (h : RefVAt w F B hv pv fv S) (ht : Touch F w0 w)
    (hown : w'.ownsRow 0 98 4 v' (S.seals.length + 1) (fouC S.seals ++ [.int .i64 x.salt, .string x.nonce, .string x.ad, .string x.text])) (hg : w.grownBy w' fv.ownBlock) (hat : v'.ownBlock = fv.ownBlock ∨ v'.ownBlock = some w.heap.size) :
    w'.cell? ⟨B, 4, none⟩ = some fv ∧ w'.frozen? ⟨B, 4, none⟩ = false ∧ RefVAt (w'.setCell ⟨B, 4, none⟩ v') (grow F w0 (w'.setCell ⟨B, 4, none⟩ v')) B hv pv v' { S with seals := S.seals ++ [x] } ∧ Touch F w0 (w'.setCell ⟨B, 4, none⟩ v') := by
  have hB := h.row.lt
  have r1 : Row w' B _ _ := (hg.block B h.row.lt (fun e => h.qB e.symm)).trans h.row
  have nh : ∀ g, hv.ownBlock = some g → fv.ownBlock ≠ some g := fun g hg' => h.hf g hg'
  have rh := owns_keep (w' := w') h.hs fun g hg' => hg.block g (owns_lt h.hs g hg') (fun e => nh g hg' e.symm)
  have np : ∀ g, pv.ownBlock = some g → fv.ownBlock ≠ some g := fun g hg' => h.pf g hg'
  have rp := owns_keep (w' := w') h.ps fun g hg' => hg.block g (owns_lt h.ps g hg') (fun e => np g hg' e.symm)
  have nB : v'.ownBlock ≠ some B := by
    rcases hat with e | e
    · rw [e]; exact h.qB
    · rw [e]; intro e2; cases e2; omega
  have hsz : (w'.setCell ⟨B, 4, none⟩ v').heap.size = w'.heap.size := by simp
  have ht2 : Touch F w0 w' := ⟨ht.1.trans ⟨hg.os, hg.tape, hg.output, hg.size, fun k hk => absurd hk (Nat.not_lt_zero k)⟩, fun k hk hn => (hg.block k (Nat.lt_of_lt_of_le hk ht.size) (fun e => hn (h.fF k e.symm))).trans (ht.2 k hk hn)⟩
  have hnew : w'.ownsRow 0 98 4 v' (S.seals ++ [x]).length (fouC (S.seals ++ [x])) := by
    rw [fouC_snoc, List.length_append]
    exact hown
  have hFn : ∀ g, v'.ownBlock = some g → grow F w0 (w'.setCell ⟨B, 4, none⟩ v') g := fun g hg' => by
    have hlt := owns_lt hown g hg'
    rcases hat with e | e
    · exact .inl (h.fF g (by rw [← e]; exact hg'))
    · rw [e] at hg'
      cases hg'
      exact .inr ⟨ht.size, by rw [hsz]; exact hlt⟩
  exact ⟨r1.cell 4, r1.frozen 4, ⟨r1.setL 4 v', owns_off rh h.hB _ _, owns_off rp h.pB _ _, owns_off hnew nB _ _, .inl h.fB, fun g hg' => .inl (h.hF g hg'), fun g hg' => .inl (h.pF g hg'), hFn, h.hB, h.pB, nB, h.hp, fun g hg' => own_new h.hs hg' (Nat.le_refl _) (nh g hg') hat, fun g hg' => own_new h.ps hg' (Nat.le_refl _) (np g hg') hat⟩, ht2.setCell _ _ _ (.inl h.fB)⟩
end Go.Proofs.YtdhiopbomnfmnaaGreatDoor

namespace Go.Proofs.YtdhiopbomnfmnaaGreatDoor
set_option maxRecDepth 20000
open Go.RowKit

/-- The document's Noughts. -/
theorem noughts_any (n : Nat) (h : n ≤ 4096) (w : World) :
    Calls Tryz.prog 38 #[.int .i64 n] w fun e w' => e = .returned (.string (noughtsS n)) ∧ Below w.heap.size w w' := by
  obtain ⟨i0, hi, hz0, hz1, hz2⟩ := info_parts info5
  go_enter Tryz.func38, Tryz.ntmps38
  go_wp2_with (at_make; refine wpList_make_full _ rfl _ _ 55 rfl w.heap.size 5 i0 (.int .u8 0) 1 Tryz.underlying55 hi hz0 hz1 .i64 .i64 _ _ n rfl rfl rfl rfl ?c1 ?c2 (Nat.le_refl _) ?_)
  case c1 => first | omega | (rw [hz2]; omega)
  case c2 => unfold maxLen; omega
  intro w1 hown1 hgrow1
  have hb1 : Below w.heap.size w w1 := (Below.refl _ _).grown hgrow1 (Nat.le_refl _) (fun k hk => by simp at hk)
  have hown2 : w1.ownsRow w.heap.size 5 1 (.slice (some ⟨w.heap.size, 0, none⟩) n n) n (List.replicate n (Value.int .u8 0)) := by
    simpa [toList_madeCells_one, Value.cells] using hown1
  clear hown1 hgrow1
  have hcv := run_convert_bytes_arg (P := Tryz.prog) w1 55 5 Tryz.underlying55 Tryz.underlying5 w.heap.size 0 n n (List.replicate n 0) (by simp) (fun i hi => by
    rw [Nat.zero_add, hown2.cellAt i (by omega)]
    simp [hi, List.getD]) 9 Tryz.underlying9
  rw [show strOfNums (List.replicate n 0) = noughtsS n from rfl] at hcv
  clear hown2
  go_wp2
  go_ret
  exact ⟨rfl, hb1⟩
/-- The same, its argument told by an equation. -/
theorem noughts_z (z : Int) (n : Nat) (hz : z = n) (h : n ≤ 4096) (w : World) :
    Calls Tryz.prog 38 #[.int .i64 z] w fun e w' => e = .returned (.string (noughtsS n)) ∧ Below w.heap.size w w' := by
  subst hz
  exact noughts_any n h w
end Go.Proofs.YtdhiopbomnfmnaaGreatDoor

namespace Go.Proofs.YtdhiopbomnfmnaaGreatDoor
set_option maxRecDepth 20000
open Go.RowKit

theorem rput_noWidth (n k : Int) (h : k < 1 ∨ 6 < k) (w : World) :
    Calls Tryz.prog 44 #[.int .i64 n, .int .i64 k] w fun e w' => e = .returned (.tuple #[.string ByteArray.empty, .int .i64 1]) ∧ w' = w := by
  rcases h with h | h
  · go_enter Tryz.func44, Tryz.ntmps44
    go_wp2
    go_ret2
    exact ⟨rfl, rfl⟩
  · have h1 : ¬ k < 1 := by omega
    go_enter Tryz.func44, Tryz.ntmps44
    go_wp2
    go_ret2
    exact ⟨rfl, rfl⟩

theorem rput_below (n : Int) (k : Nat) (h1 : 1 ≤ k) (h2 : k ≤ 6) (h : n < 0) (w : World) :
    Calls Tryz.prog 44 #[.int .i64 n, .int .i64 k] w fun e w' => e = .returned (.tuple #[.string ByteArray.empty, .int .i64 2]) ∧ w' = w := by
  have a1 : ¬ (k : Int) < 1 := by omega
  have a2 : ¬ (6 : Int) < k := by omega
  go_enter Tryz.func44, Tryz.ntmps44
  go_wp2
  go_ret2
  exact ⟨rfl, rfl⟩

set_option maxHeartbeats 400000 in
theorem rput_in (n : Int) (k : Nat) (h1 : 1 ≤ k) (h2 : k ≤ 6) (h0 : 0 ≤ n) (hm : n ≤ 9223372036854775807) (w : World) :
    Calls Tryz.prog 44 #[.int .i64 n, .int .i64 k] w fun e w' => e = .returned (.tuple #[.string (putS n k), .int .i64 (putE n k)]) ∧ Below w.heap.size w w' := by
  have a1 : ¬ (k : Int) < 1 := by omega
  have a2 : ¬ (6 : Int) < k := by omega
  have a3 : ¬ n < 0 := by omega
  obtain ⟨i0, hi, hz0, hz1, hz2⟩ := info_parts info5
  go_enter Tryz.func44, Tryz.ntmps44
  go_wp2
  go_loopw [0, 6, 7] (fun x v i wr => ∃ j : Nat, j ≤ k ∧ i = .int .i64 j ∧ x = .int .i64 (n / 256 ^ j) ∧ wr.ownsRow w.heap.size 5 1 v j ((leI j n).map (Value.int .u8)) ∧ Below w.heap.size w wr) (fun _ _ i _ => k - (intOf i).toNat)
  case atStart => exact ⟨0, Nat.zero_le _, rfl, by simp, World.ownsRow_nil _ _ _ _, Below.refl _ _⟩
  case round =>
    obtain ⟨j, hj, rfl, rfl, hown, hb⟩ := hrel
    obtain ⟨q, hq⟩ : ∃ q, q = n / 256 ^ j := ⟨_, rfl⟩
    have hq0 : 0 ≤ q := by rw [hq]; exact Int.ediv_nonneg h0 (Int.le_of_lt (Int.pow_pos (by decide)))
    have hqm : q ≤ 9223372036854775807 := by rw [hq]; exact Int.le_trans (Int.ediv_le_self _ h0) hm
    rw [← hq]
    have HQ : Hid (q = n / 256 ^ j) := hq
    clear hq
    by_cases hlt : j < k
    · go_wp2_with (at_builtin; refine wpList_append_own _ rfl _ _ 55 rfl w.heap.size 5 i0 (.int .u8 0) 1 1 Tryz.underlying55 hi hz0 hz1 hz2 rfl (by decide) _ _ _ rfl (hown.alloc _) ⟨wr.heap.size, 0, none⟩ 1 1 [.int .u8 (q % 256)] rfl rfl ?c1 ?c2 ?c3 ?c4 ?c5 ?_)
      case c1 => intro i u hi; match i, hi with | 0, hi => simp at hi; subst hi; simp [Addr.add]
      case c2 => intro u hu; simp at hu; subst hu; rfl
      case c3 => unfold maxLen; omega
      case c4 => omega
      case c5 => have := hb.size; simp; omega
      intro v' w2 hown' hgrow _
      have hb2 : Below w.heap.size w w2 := (hb.alloc hb.size _).grown hgrow (by have := hb.size; simp; omega) (fun g hg => by
        rcases hown.2 with ⟨rfl, _⟩ | ⟨g', cap, cur, rfl, hg', _⟩
        · simp [Value.ownBlock] at hg
        · simp [Value.ownBlock] at hg; omega)
      clear hown hgrow hb
      go_wp2
      go_roundw
      case rel =>
        refine ⟨j + 1, by omega, by go_num, ?_, ?_, hb2⟩
        · rw [HQ.out, leI_step]
        · rw [leI_succ, List.map_append, ← HQ.out]; exact hown'
      case measure => simp [intOf]; omega
    · have hjk : j = k := by omega
      subst hjk
      by_cases hz : 0 < q
      · have hge : 256 ^ j ≤ n := by
          rw [HQ.out] at hz
          rcases Int.lt_or_le n (256 ^ j) with h | h
          · rw [Int.ediv_eq_zero_of_lt h0 h] at hz; omega
          · exact h
        have HS : Hid (putS n j = ByteArray.empty ∧ putE n j = 2) := ⟨putS_noRoom (.inr hge), putE_noRoom h1 h2 (.inr hge)⟩
        clear hge
        go_wp2
        go_ret2
        exact ⟨by rw [HS.out.1, HS.out.2]; rfl, hb⟩
      · have hlt' : n < 256 ^ j := by
          rw [HQ.out] at hz
          rcases Int.lt_or_le n (256 ^ j) with h | h
          · exact h
          · exact absurd ((Int.le_ediv_iff_mul_le (c := 256 ^ j) (a := 1) (b := n) (Int.pow_pos (by decide))).2 (by omega)) (by omega)
        have HS : Hid (putS n j = strOfNums (leI j n) ∧ putE n j = 0) := ⟨putS_ok h1 h2 h0 hlt', putE_ok h1 h2 h0 hlt'⟩
        clear hlt'
        have hex : ∃ g cap, u6 = .slice (some ⟨g, 0, none⟩) j cap := by
          rcases hown.2 with ⟨_, h⟩ | ⟨g, cap, cur, h, _⟩
          · omega
          · exact ⟨g, cap, h⟩
        obtain ⟨g, cap, hv⟩ := hex
        rw [hv] at hown ⊢
        have hcv := run_convert_bytes_arg (P := Tryz.prog) wr 55 5 Tryz.underlying55 Tryz.underlying5 g 0 j cap (leI j n) (leI_length j n) (fun i hi => by
          rw [Nat.zero_add, hown.cellAt i (by omega)]
          simp [leI_length, hi, List.getD]) 9 Tryz.underlying9
        clear hv
        go_wp2
        go_ret2
        exact ⟨by rw [HS.out.1, HS.out.2]; rfl, hb⟩

/-- The document's Put, whatever it is handed. -/
theorem rput_any (n k : Int) (hm : n ≤ 9223372036854775807) (w : World) :
    Calls Tryz.prog 44 #[.int .i64 n, .int .i64 k] w fun e w' => e = .returned (.tuple #[.string (putS n k), .int .i64 (putE n k)]) ∧ Below w.heap.size w w' := by
  by_cases hk : k < 1 ∨ 6 < k
  · refine (rput_noWidth n k hk w).mono fun e w' ⟨he, hw⟩ => ?_
    rw [putS_noWidth hk, putE_noWidth hk]
    exact ⟨he, hw ▸ Below.refl _ _⟩
  · obtain ⟨m, rfl⟩ := Int.eq_ofNat_of_zero_le (show 0 ≤ k by omega)
    have h1 : 1 ≤ m := by omega
    have h2 : m ≤ 6 := by omega
    by_cases hn : n < 0
    · refine (rput_below n m h1 h2 hn w).mono fun e w' ⟨he, hw⟩ => ?_
      rw [putS_noRoom (.inl hn), putE_noRoom h1 h2 (.inl hn)]
      exact ⟨he, hw ▸ Below.refl _ _⟩
    · exact rput_in n m h1 h2 (by omega) hm w
end Go.Proofs.YtdhiopbomnfmnaaGreatDoor

namespace Go.Proofs.YtdhiopbomnfmnaaGreatDoor
set_option maxRecDepth 20000
open Go.RowKit

theorem rnumbered_any (z : Int) (n k : Nat) (hz : z = n) (hn : n < 281474976710656) (hk : 6 ≤ k) (hk2 : k ≤ 4096) (u : Int) (hu : u = k) (w : World) :
    Calls Tryz.prog 42 #[.int .i64 z, .int .i64 u] w fun e w' => e = .returned (.string (wideS n k)) ∧ Below w.heap.size w w' := by
  subst hz hu
  have hp := fun W => rput_any n 6 (by omega) W
  have hsz := put6_size hn
  have ho := fun W => noughts_z ((k : Int) - 6) (k - 6) (by omega) (by omega) W
  have hsn := noughtsS_size (k - 6)
  have HW : Hid (wideS n k = putS n 6 ++ noughtsS (k - 6)) := rfl
  generalize putS n 6 = a at *
  generalize putE n 6 = e6 at *
  generalize noughtsS (k - 6) = b at *
  have ha : ∀ w', (Op.stringOp .add a b).run Tryz.prog w' = .ok (.string (a ++ b)) w' := fun w' => run_string_add_sum (P := Tryz.prog) (w := w') _ _ (by omega)
  have hw6 : wrap64 ((k : Int) - 6) = (k : Int) - 6 := by unfold wrap64; omega
  go_enter Tryz.func42, Tryz.ntmps42
  go_wp2_with fail
  refine (hp _).mono ?_
  rintro e w1 ⟨rfl, hb⟩
  clear hp
  go_wp2_with fail
  refine (ho _).mono ?_
  rintro e w2 ⟨rfl, hb2⟩
  have HB : Hid (Below w.heap.size w w2) := hb.trans (hb2.mono hb.size)
  clear hb hb2 ho
  go_wp2
  go_ret
  exact ⟨by rw [HW.out]; rfl, HB.out⟩

theorem info_str1 : (Tryz.prog.info? 9).map (fun i => (i.zero, i.size, i.bytes)) = some (some (.string ⟨#[]⟩), 1, 16) := by kernel_rfl
theorem texC_at {w : World} {v : Value} {l : List ByteArray} (h : w.ownsRow 0 9 1 v l.length (texC l)) {i : Nat} {x : ByteArray} (hx : l[i]? = some x) : ∃ g cap, v = .slice (some ⟨g, 0, none⟩) l.length cap ∧ w.cell? ⟨g, i, none⟩ = some (.string x) := by
  have hi := (List.getElem?_eq_some_iff.1 hx).1
  obtain ⟨g, cap, rfl, _, hc⟩ := owns_form h (by omega)
  exact ⟨g, cap, rfl, hc i _ (by simpa using texC_get l i x hx 0 (by omega))⟩

end Go.Proofs.YtdhiopbomnfmnaaGreatDoor
