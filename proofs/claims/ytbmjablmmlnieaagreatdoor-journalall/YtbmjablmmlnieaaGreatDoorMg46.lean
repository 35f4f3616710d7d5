/- The law JournalAll: commits, cuts and recoveries of one device and one vault. -/
import Derived.Test.YtbmjablmmlnieaaGreatDoorMg44
import Derived.Test.YtbmjablmmlnieaaGreatDoorMg45
import Derived.Test.YtbmjablmmlnieaaGreatDoorMg10
import Derived.Test.YtbmjablmmlnieaaGreatDoorMg14
namespace Go.Proofs.YtbmjablmmlnieaaGreatDoor
set_option maxRecDepth 20000
open Go.RowKit

theorem lay_784 (F : Nat → Prop) (B V : Nat) (P : PS) (T : VS) (w : World) (h : Duo (idealK V) w F B P T) (hl : P.kept.length = 784) (W : World) (hW : Below w.heap.size w W) : Calls Tryz.prog 27 #[.pointer (some ⟨B, 0, none⟩)] W fun e W' => e = .returned (.tuple #[.agg (layA 48 (layQ 48) (layS 48) (layT 48)), .int .i64 0]) ∧ Below W.heap.size W W' := by
  have q := layoutOf_any (.pointer (some ⟨B, 0, none⟩)) (P.kept.length : Nat) W fun W2 h2 => ((h.below (idealOk V) hW).below (idealOk V) h2).sectors
  rw [hl] at q
  have e784 : (((784 : Nat) : Int)) = 784 := rfl
  rw [e784, a784.1, a784.2.2] at q
  exact q
theorem com_ok (F : Nat → Prop) (B V : Nat) (P : PS) (T : VS) (ep : Int) (hep : ep = 0 ∨ ep = 1 ∨ ep = 2) (A : Int) (hA : supA (lawSp 48 ep) = A) (O : List Wt) (hO : OkL O) (S1 S2 : VS) (R1 R2 : ByteArray) (eS1 : proP (idealK V) T O (lawSp 48 ep) = S1) (eR1 : proR (idealK V) T O (lawSp 48 ep) = R1) (eS2 : supP (idealK V) S1 (lawSp 48 ep) = S2) (eR2 : supR (idealK V) S1 (lawSp 48 ep) = R2) (oa : Option Addr) (ca : Nat) (w : World) (h : Duo (idealK V) w F B P T) (hr : T.texts.length ≤ 1000 ∧ T.seals.length ≤ 1000) (hl : P.kept.length = 784) (hup : P.up = true) (hwt : P.wait.length ≤ 1000) (hg : ErrT w) (hF : ¬ F 0) (hv : WtO F w (.slice oa O.length ca) O) :
    Calls Tryz.prog 19 #[.pointer (some ⟨B, 0, none⟩), .pointer (some ⟨V, 0, none⟩), .slice oa O.length ca, .agg (lawSp 48 ep).arr] w fun e w' => e = .returned (.int .i64 (ansE (folE [recsL 3 0 O, [⟨2, R1⟩], O, [⟨A, R2⟩]] P))) ∧ Duo (idealK V) w' (grow F w w') B (folP [recsL 3 0 O, [⟨2, R1⟩], O, [⟨A, R2⟩]] P) S2 ∧ Touch F w w' := by
  obtain ⟨e1, h1, c1⟩ := law_err2 ep hep
  have hr1 : (idealK V).room T 2 := room_of V (by omega)
  obtain ⟨p0, _, _, pr1, pr2, _⟩ := step_pro V T O (lawSp 48 ep) hO.len e1 c1 hr
  obtain ⟨x0, _, _, _, _⟩ := step_sup V S1 (lawSp 48 ep) e1 h1
  have hr2 : (idealK V).room S1 1 := room_of V (by rw [← eS1]; omega)
  have hsz : ∀ x ∈ O, x.raw.size ≤ 512 := fun x hx => Nat.le_of_eq (hO.far hx).2.2
  have hpA : proA (idealK V) T O (lawSp 48 ep) = 2 := by unfold proA; rw [if_pos p0]
  have q := commit_in (idealK V) (idealOk V) F B P T 7 ep 5 (fillS 3 32) 48 (layQ 48) (layS 48) (layT 48) oa ca O w 2 A R1 R2 S1 S2 h (by omega) hg hF hv hO.len (by decide) hup hO.tog (fun W hW => lay_784 F B V P T w h hl W hW) (fun W hW => by
      have q := unseal_duo (idealK V) (idealOk V) F B P T (lawSp 48 ep) W (h.below (idealOk V) hW) ((idealOk V).less hr1 (by decide))
      rw [e1] at q
      exact q) (fun W hd hW => by
      have q := promise_duo (idealK V) (idealOk V) F B P T (lawSp 48 ep) oa ca O W hd hr1 hW hO.len hsz
      rw [hpA, p0, eS1, eR1] at q
      exact q) (fun W hd => by
      have q := super_duo (idealK V) (idealOk V) F B P S1 (lawSp 48 ep) W hd hr2
      rw [hA, x0, eS2, eR2] at q
      exact q)
  exact q
theorem com_bad (F : Nat → Prop) (B V : Nat) (P : PS) (T : VS) (ep : Int) (O : List Wt) (hO : ¬ OkL O) (oa : Option Addr) (ca : Nat) (w : World) (h : Duo (idealK V) w F B P T) (hl : P.kept.length = 784) (hv : Wts w (.slice oa O.length ca) O) :
    Calls Tryz.prog 19 #[.pointer (some ⟨B, 0, none⟩), .pointer (some ⟨V, 0, none⟩), .slice oa O.length ca, .agg (lawSp 48 ep).arr] w fun e w' => ∃ x : Int, (x = 4 ∨ x = 1) ∧ e = .returned (.int .i64 x) ∧ Below w.heap.size w w' := by
  by_cases h24 : 24 < O.length
  · exact (commit_long (.pointer (some ⟨B, 0, none⟩)) (.pointer (some ⟨V, 0, none⟩)) oa ca O.length h24 7 ep 5 48 (fillS 3 32) w).mono fun e w' ⟨he, hb⟩ => ⟨4, .inl rfl, he, hb⟩
  · have ht : togB 27 48 O = false := by
      cases ht : togB 27 48 O with
      | false => rfl
      | true => exact absurd ⟨ht, by omega⟩ hO
    exact (commit_apart (.pointer (some ⟨B, 0, none⟩)) (.pointer (some ⟨V, 0, none⟩)) oa ca O (by omega) 48 (layQ 48) (layS 48) (layT 48) (by decide) 7 ep 5 (fillS 3 32) w hv ht (fun W hW => lay_784 F B V P T w h hl W hW)).mono fun e w' ⟨he, hb⟩ => ⟨1, .inr rfl, he, hb⟩
theorem arm_duo (F : Nat → Prop) (B V : Nat) (P : PS) (T : VS) (n : Int) (hn : n < 9223372036854775808) (w : World) (h : Duo (idealK V) w F B P T) :
    Calls Tryz.prog 20 #[.pointer (some ⟨B, 0, none⟩), .int .i64 n] w fun e w' => e = .returned (.int .i64 (armE P n)) ∧ Duo (idealK V) w' F B (armP P n) T ∧ Touch F w w' := by
  obtain ⟨F1, F2, h⟩ := h
  exact (arm_any B F1 P n hn w h.plate).mono fun e w' ⟨he, hp, ht⟩ => ⟨he, ⟨F1, F2, hp, (idealOk V).keep h.vault fun k hk hF2 => ht.2 k hk fun h1 => h.apart k h1 hF2, h.apart, h.in1, h.in2, fun k hk => Nat.lt_of_lt_of_le (h.lt k hk) ht.size⟩, ht.mono h.in1⟩
theorem start_duo (F : Nat → Prop) (B V : Nat) (P : PS) (T : VS) (kv : Value) (l : List Bool) (w : World) (h : Duo (idealK V) w F B P T) (hw : P.wait.length ≤ 1000000) (hk : Bools w F kv l) :
    Calls Tryz.prog 21 #[.pointer (some ⟨B, 0, none⟩), kv] w fun e w' => e = .returned (.tuple #[]) ∧ Duo (idealK V) w' F B (startP l P) T ∧ Touch F w w' := by
  obtain ⟨F1, F2, h⟩ := h
  exact (start_any B F1 P kv l w h.plate hw (hk.mono fun k _ hF => h.in1 k hF)).mono fun e w' ⟨he, hp, ht⟩ => ⟨he, ⟨F1, F2, hp, (idealOk V).keep h.vault fun k hk hF2 => ht.2 k hk fun h1 => h.apart k h1 hF2, h.apart, h.in1, h.in2, fun k hk => Nat.lt_of_lt_of_le (h.lt k hk) ht.size⟩, ht.mono h.in1⟩

/-- Where a device and a vault of a law that began at w0 lie. -/
structure LawD (K : Nat → Obj → Prop) (V B : Nat) (w0 w : World) (F : Nat → Prop) (P : PS) (T : VS) : Prop where
  duo : Duo (idealK V) w F B P T
  above : ∀ k, F k → w0.heap.size ≤ k
  err : ErrT w
  out : ¬ F 0
  bel : Below w0.heap.size w0 w
  keep : ∀ g c, K g c → w.heap[g]? = some c ∧ ¬ F g
theorem LawD.below {K : Nat → Obj → Prop} {V B : Nat} {w0 w w' : World} {F : Nat → Prop} {P : PS} {T : VS} (h : LawD K V B w0 w F P T) (hb : Below w.heap.size w w') : LawD K V B w0 w' F P T := ⟨h.duo.below (idealOk V) hb, h.above, h.err.bel hb, h.out, h.bel.trans (hb.mono h.bel.size), fun g c hk => ⟨(hb.block g (lt_of_block (h.keep g c hk).1)).trans (h.keep g c hk).1, (h.keep g c hk).2⟩⟩
theorem LawD.next {K : Nat → Obj → Prop} {V B : Nat} {w0 w w' : World} {F F' : Nat → Prop} {P P' : PS} {T T' : VS} (h : LawD K V B w0 w F P T) (hd : Duo (idealK V) w' F' B P' T') (hF : ∀ k, F' k → grow F w w' k) (ht : Touch F w w') : LawD K V B w0 w' F' P' T' := ⟨hd, fun k hk => by
  rcases hF k hk with hk | hk
  · exact h.above k hk
  · exact Nat.le_trans h.bel.size hk.1, h.err.touch ht h.out, fun hk => by
  rcases hF _ hk with hk | hk
  · exact h.out hk
  · have q := lt_of_cell_ h.err; have q2 := hk.1; omega, h.bel.trans (ht.below h.bel.size h.above), fun g c hk => by
  obtain ⟨q1, q2⟩ := h.keep g c hk
  have q3 := lt_of_block q1
  refine ⟨(ht.2 g q3 q2).trans q1, fun q => ?_⟩
  rcases hF g q with q | q
  · exact q2 q
  · have := q.1; omega⟩
def MidG (X : Cx) (K : Nat → Obj → Prop) (V B : Nat) (w0 w : World) (dn : Prop) (k : Nat) (Q : PS → Prop) : Prop := ∃ F P T, LawD K V B w0 w F P T ∧ P.kept.length = 784 ∧ (OldD X P ∨ NewD X P) ∧ (dn → NewD X P) ∧ VSt X T k ∧ Q P
def Q0 (P : PS) : Prop := P.up = true ∧ P.wait = [] ∧ P.fuse = -1
def Q1 (P : PS) : Prop := P.up = true ∧ P.wait = []
def Q2 (P : PS) : Prop := P.wait.length ≤ 1000
theorem MidG.below {X : Cx} {K : Nat → Obj → Prop} {V B : Nat} {w0 w w' : World} {dn : Prop} {k : Nat} {Q : PS → Prop} (h : MidG X K V B w0 w dn k Q) (hb : Below w.heap.size w w') : MidG X K V B w0 w' dn k Q := by
  obtain ⟨F, P, T, h1, h2⟩ := h
  exact ⟨F, P, T, h1.below hb, h2⟩
theorem MidG.bel {X : Cx} {K : Nat → Obj → Prop} {V B : Nat} {w0 w : World} {dn : Prop} {k : Nat} {Q : PS → Prop} (h : MidG X K V B w0 w dn k Q) : Below w0.heap.size w0 w := by
  obtain ⟨F, P, T, h1, h2⟩ := h
  exact h1.bel
theorem MidG.weak {X : Cx} {K : Nat → Obj → Prop} {V B : Nat} {w0 w : World} {dn : Prop} {k : Nat} {Q Q' : PS → Prop} (h : MidG X K V B w0 w dn k Q) (hq : ∀ P, Q P → Q' P) : MidG X K V B w0 w dn k Q' := by
  obtain ⟨F, P, T, h1, h2, h3, h4, h5, h6⟩ := h
  exact ⟨F, P, T, h1, h2, h3, h4, h5, hq P h6⟩
theorem MidG.less {X : Cx} {K : Nat → Obj → Prop} {V B : Nat} {w0 w : World} {dn : Prop} {k m : Nat} {Q : PS → Prop} (h : MidG X K V B w0 w dn k Q) (hm : m ≤ k) : MidG X K V B w0 w dn m Q := by
  obtain ⟨F, P, T, h1, h2, h3, h4, h5, h6⟩ := h
  exact ⟨F, P, T, h1, h2, h3, h4, h5.less hm, h6⟩
theorem q0_q1 (P : PS) (h : Q0 P) : Q1 P := ⟨h.1, h.2.1⟩
theorem arm_len (P : PS) (n : Int) : (armP P n).kept = P.kept ∧ (armP P n).up = P.up ∧ (armP P n).wait = P.wait := by
  unfold armP
  split
  · exact ⟨rfl, rfl, rfl⟩
  · split
    · exact ⟨rfl, rfl, rfl⟩
    · exact ⟨rfl, rfl, rfl⟩
theorem same_grow {F : Nat → Prop} {w w' : World} : ∀ k, F k → grow F w w' k := fun _ h => .inl h
theorem mid_arm (X : Cx) (K : Nat → Obj → Prop) (V B : Nat) (w0 w : World) (dn : Prop) (k : Nat) (n : Int) (hn : n < 9223372036854775808) (h : MidG X K V B w0 w dn k Q0) :
    Calls Tryz.prog 20 #[.pointer (some ⟨B, 0, none⟩), .int .i64 n] w fun e w' => ∃ y : Int, e = .returned (.int .i64 y) ∧ MidG X K V B w0 w' dn k Q1 := by
  obtain ⟨F, P, T, h1, h2, h3, h4, h5, h6⟩ := h
  obtain ⟨a1, a2, a3⟩ := arm_len P n
  exact (arm_duo F B V P T n hn w h1.duo).mono fun e w' ⟨he, hd, ht⟩ => ⟨_, he, F, _, T, h1.next hd same_grow ht, by rw [a1]; exact h2, h3.imp (fun g => g.move fun a R m => mix_arm m n) (fun g => g.move fun a R m => mix_arm m n), fun d => (h4 d).move fun a R m => mix_arm m n, h5, by rw [a2]; exact h6.1, by rw [a3]; exact h6.2.1⟩
theorem mid_start (X : Cx) (K : Nat → Obj → Prop) (V B : Nat) (w0 w : World) (dn : Prop) (k : Nat) (kv : Value) (l : List Bool) (hk : Bools w0 (fun k => w0.heap.size ≤ k) kv l) (h : MidG X K V B w0 w dn k Q2) :
    Calls Tryz.prog 21 #[.pointer (some ⟨B, 0, none⟩), kv] w fun e w' => e = .returned (.tuple #[]) ∧ MidG X K V B w0 w' dn k Q0 := by
  obtain ⟨F, P, T, h1, h2, h3, h4, h5, h6⟩ := h
  have h6 : P.wait.length ≤ 1000 := h6
  have hk2 : Bools w F kv l := (hk.touch (Touch.of_below h1.bel)).mono fun k _ hF => h1.above k hF
  have hl : (startP l P).kept.length = P.kept.length := keptAt_length _ _ _ _
  exact (start_duo F B V P T kv l w h1.duo (by omega) hk2).mono fun e w' ⟨he, hd, ht⟩ => ⟨he, F, _, T, h1.next hd same_grow ht, by rw [hl]; exact h2, h3.imp (fun g => g.move fun a R m => mix_start m l) (fun g => g.move fun a R m => mix_start m l), fun d => (h4 d).move fun a R m => mix_start m l, h5, rfl, rfl, rfl⟩
theorem mid_rec {X : Cx} (HX : CxOk X) (K : Nat → Obj → Prop) (V B : Nat) (w0 w : World) (dn : Prop) (k : Nat) (h : MidG X K V B w0 w dn (k + 2) Q1) :
    Calls Tryz.prog 22 #[.pointer (some ⟨B, 0, none⟩), .pointer (some ⟨V, 0, none⟩)] w fun e w' => ∃ (s : Sp) (n E : Int), e = .returned (.tuple #[.agg s.arr, .int .i64 n, .int .i64 E]) ∧ MidG X K V B w0 w' dn k Q2 := by
  obtain ⟨F, P, T, h1, h2, h3, h4, h5, h6⟩ := h
  refine (rec_step HX F B V P T k w h1.duo h1.err h1.out h6.1 h2 h6.2 h3 h5).mono fun e w' ⟨P', T', R, he, hd, ht, hR⟩ => ?_
  obtain ⟨s, n, E, rfl⟩ := hR.form
  exact ⟨s, n, E, he, _, P', T', h1.next hd (fun _ h => h) ht, hR.len, hR.dev, fun d => hR.new (h4 d), hR.vst, by have := hR.wait; show P'.wait.length ≤ 1000; omega⟩
/-- What stands behind the last Recover. -/
def Fin_ (K : Nat → Obj → Prop) (V B : Nat) (w0 w : World) (L : List Wt) : Prop := ∃ F P T, LawD K V B w0 w F P T ∧ P.kept.length = 784 ∧ P.up = true ∧ P.wait.length ≤ 1000 ∧ BlkIn P L
theorem Fin_.below {K : Nat → Obj → Prop} {V B : Nat} {w0 w w' : World} {L : List Wt} (h : Fin_ K V B w0 w L) (hb : Below w.heap.size w w') : Fin_ K V B w0 w' L := by
  obtain ⟨F, P, T, h1, h2⟩ := h
  exact ⟨F, P, T, h1.below hb, h2⟩
theorem mid_last {X : Cx} (HX : CxOk X) (K : Nat → Obj → Prop) (V B : Nat) (w0 w : World) (dn : Prop) (k : Nat) (h : MidG X K V B w0 w dn (k + 2) Q0) :
    Calls Tryz.prog 22 #[.pointer (some ⟨B, 0, none⟩), .pointer (some ⟨V, 0, none⟩)] w fun e w' => ∃ (n ep : Int), e = .returned (.tuple #[.agg (lawSp 48 ep).arr, .int .i64 n, .int .i64 0]) ∧ Below w0.heap.size w0 w' ∧ ((ep = 1 ∧ ¬ dn ∧ Fin_ K V B w0 w' X.old) ∨ (ep = 2 ∧ Fin_ K V B w0 w' X.new)) := by
  obtain ⟨F, P, T, h1, h2, h3, h4, h5, h6⟩ := h
  refine (rec_step HX F B V P T k w h1.duo h1.err h1.out h6.1 h2 h6.2.1 h3 h5).mono fun e w' ⟨P', T', R, he, hd, ht, hR⟩ => ?_
  obtain ⟨u, n, s, rfl, hs⟩ := hR.fine h6.2.2
  have hn := h1.next hd (fun _ h => h) ht
  have hw : P'.wait.length ≤ 1000 := by have := hR.wait; omega
  rcases hs with ⟨rfl, hn1, hb⟩ | ⟨rfl, hb⟩
  · exact ⟨n, 1, he, hn.bel, .inl ⟨rfl, fun d => hn1 (h4 d), _, P', T', hn, hR.len, u, hw, hb⟩⟩
  · exact ⟨n, 2, he, hn.bel, .inr ⟨rfl, _, P', T', hn, hR.len, u, hw, hb⟩⟩
/-- Behind the first commit; armed or not. -/
def One (K : Nat → Obj → Prop) (V B : Nat) (w0 w : World) (O : List Wt) : Prop := ∃ F P, LawD K V B w0 w F P (cS3 V O) ∧ P.kept.length = 784 ∧ P.up = true ∧ P.wait = [] ∧ Mix P 0 [aR0 V] ∧ Mix P 1 [cR1 V O] ∧ Mix P 2 [cRp V O] ∧ BlkIn P O
theorem One.below {K : Nat → Obj → Prop} {V B : Nat} {w0 w w' : World} {O : List Wt} (h : One K V B w0 w O) (hb : Below w.heap.size w w') : One K V B w0 w' O := by
  obtain ⟨F, P, h1, h2⟩ := h
  exact ⟨F, P, h1.below hb, h2⟩
theorem One.bel {K : Nat → Obj → Prop} {V B : Nat} {w0 w : World} {O : List Wt} (h : One K V B w0 w O) : Below w0.heap.size w0 w := by
  obtain ⟨F, P, h1, h2⟩ := h
  exact h1.bel
theorem one_com (K : Nat → Obj → Prop) (V B : Nat) (w0 w : World) (F : Nat → Prop) (O : List Wt) (hO : OkL O) (oa : Option Addr) (ca : Nat) (h : LawD K V B w0 w F (aP1 V) (aS1 V)) (hv : WtO F w (.slice oa O.length ca) O) :
    Calls Tryz.prog 19 #[.pointer (some ⟨B, 0, none⟩), .pointer (some ⟨V, 0, none⟩), .slice oa O.length ca, .agg (lawSp 48 1).arr] w fun e w' => e = .returned (.int .i64 0) ∧ One K V B w0 w' O := by
  have R := c_room V (O := O) (N := []) hO.len (by decide)
  obtain ⟨_, hf, hw, _⟩ := aP1_fine V
  obtain ⟨x0, _, _, _, _⟩ := step_sup V (cS2 V O) (lawSp 48 1) (law_err2 1 (.inr (.inl rfl))).1 (law_err2 1 (.inr (.inl rfl))).2.1
  have hA : supA (lawSp 48 1) = 1 := by unfold supA; rw [if_pos x0]; rfl
  have D := c_dev V hO
  have q := com_ok F B V (aP1 V) (aS1 V) 1 (.inr (.inl rfl)) 1 hA O hO (cS2 V O) (cS3 V O) (cRp V O) (cR1 V O) rfl rfl rfl rfl oa ca w h.duo (by have := R.t1; omega) hf.len hf.up (by rw [hw]; decide) h.err h.out hv
  rw [D.ans] at q
  refine q.mono fun e w' ⟨he, hd, ht⟩ => ⟨he, _, cP2 V O, h.next hd (fun _ h => h) ht, D.fine.len, D.fine.up, D.wait, D.m0, D.m1, D.m2, D.blk⟩
theorem one_arm (K : Nat → Obj → Prop) (V B : Nat) (w0 w : World) (O : List Wt) (n : Int) (hn : n < 9223372036854775808) (h : One K V B w0 w O) :
    Calls Tryz.prog 20 #[.pointer (some ⟨B, 0, none⟩), .int .i64 n] w fun e w' => ∃ y : Int, e = .returned (.int .i64 y) ∧ One K V B w0 w' O := by
  obtain ⟨F, P, h1, h2, h3, h4, h5, h6, h7, h8⟩ := h
  obtain ⟨a1, a2, a3⟩ := arm_len P n
  exact (arm_duo F B V P (cS3 V O) n hn w h1.duo).mono fun e w' ⟨he, hd, ht⟩ => ⟨_, he, F, _, h1.next hd same_grow ht, by rw [a1]; exact h2, by rw [a2]; exact h3, by rw [a3]; exact h4, mix_arm h5 n, mix_arm h6 n, mix_arm h7 n, h8.move fun a R m => mix_arm m n⟩
theorem ans_zero {y : Int} : ansE y = 0 ↔ y = 0 := by
  unfold ansE
  constructor
  · intro h
    by_cases e : y = 0
    · exact e
    · rw [if_neg e] at h
      split at h <;> omega
  · intro h
    rw [if_pos h]
theorem fol_comL (O N : List Wt) (r0 r1 r2 p1 p2 t1 t2 : ByteArray) (HX : CxOk ⟨O, N, r0, r1, r2, p1, p2, t1, t2⟩) (P : PS) (m0 : Mix P 0 [r0]) (m1 : Mix P 1 [r1]) (m2 : Mix P 2 [p1]) (mb : BlkIn P O) :
    (OldD ⟨O, N, r0, r1, r2, p1, p2, t1, t2⟩ (folP [recsL 3 0 N, [⟨2, p2⟩], N, [⟨0, r2⟩]] P) ∨ NewD ⟨O, N, r0, r1, r2, p1, p2, t1, t2⟩ (folP [recsL 3 0 N, [⟨2, p2⟩], N, [⟨0, r2⟩]] P)) ∧ (folE [recsL 3 0 N, [⟨2, p2⟩], N, [⟨0, r2⟩]] P = 0 → NewD ⟨O, N, r0, r1, r2, p1, p2, t1, t2⟩ (folP [recsL 3 0 N, [⟨2, p2⟩], N, [⟨0, r2⟩]] P)) := fol_com HX m0 m1 m2 mb
theorem two_com (K : Nat → Obj → Prop) (V B : Nat) (w0 w1 w : World) (O N : List Wt) (hO : OkL O) (hN : OkL N) (oa : Option Addr) (ca : Nat) (h : One K V B w0 w1 O) (hb : Below w1.heap.size w1 w) (hv : Wts w (.slice oa N.length ca) N) (ho : ∀ g o len cap, (.slice oa N.length ca : Value) = .slice (some ⟨g, o, none⟩) len cap → w1.heap.size ≤ g) :
    Calls Tryz.prog 19 #[.pointer (some ⟨B, 0, none⟩), .pointer (some ⟨V, 0, none⟩), .slice oa N.length ca, .agg (lawSp 48 2).arr] w fun e w' => ∃ y : Int, e = .returned (.int .i64 y) ∧ MidG (cX V O N) K V B w0 w' (y = 0) 800 Q2 := by
  obtain ⟨F, P, h1, h2, h3, h4, m0, m1, m2, mb⟩ := h
  have hlt := h1.duo.lt
  have hv9 : WtO F w (.slice oa N.length ca) N := ⟨hv, fun _ g o len cap e hk => by have q1 := ho g o len cap e; have q2 := hlt g hk; omega⟩
  have h1w := h1.below hb
  have R := c_room V hO.len hN.len
  obtain ⟨x0, _, _, _, _⟩ := step_sup V (cS4 V O N) (lawSp 48 2) (law_err2 2 (.inr (.inr rfl))).1 (law_err2 2 (.inr (.inr rfl))).2.1
  have hA : supA (lawSp 48 2) = 0 := by unfold supA; rw [if_pos x0]; rfl
  have q := com_ok F B V P (cS3 V O) 2 (.inr (.inr rfl)) 0 hA N hN (cS4 V O N) (cS5 V O N) (cRq V O N) (cR2 V O N) rfl rfl rfl rfl oa ca w h1w.duo (by have := R.t3; omega) h2 h3 (by rw [h4]; decide) h1w.err h1w.out hv9
  have HX : CxOk ⟨O, N, aR0 V, cR1 V O, cR2 V O N, cRp V O, cRq V O N, cT1 V O, cT2 V O N⟩ := c_ok V hO hN
  have f := fol_comL O N (aR0 V) (cR1 V O) (cR2 V O N) (cRp V O) (cRq V O N) (cT1 V O) (cT2 V O N) HX P m0 m1 m2 mb
  have hk := fol_kept [recsL 3 0 N, [⟨2, cRq V O N⟩], N, [⟨0, cR2 V O N⟩]] P
  have hw := fol_wait [recsL 3 0 N, [⟨2, cRq V O N⟩], N, [⟨0, cR2 V O N⟩]] P
  have et : total [recsL 3 0 N, [⟨2, cRq V O N⟩], N, [⟨0, cR2 V O N⟩]] = N.length + (1 + (N.length + (1 + 0))) := by show (recsL 3 0 N).length + _ = _; rw [recsL_length]; rfl
  have hNl := hN.len
  rw [h4, et] at hw
  obtain ⟨PF, eP⟩ : ∃ PF, folP [recsL 3 0 N, [⟨2, cRq V O N⟩], N, [⟨0, cR2 V O N⟩]] P = PF := ⟨_, rfl⟩
  obtain ⟨Y, eY⟩ : ∃ Y, folE [recsL 3 0 N, [⟨2, cRq V O N⟩], N, [⟨0, cR2 V O N⟩]] P = Y := ⟨_, rfl⟩
  rw [eP] at q f hk hw
  rw [eY] at q f
  refine q.mono fun e w' ⟨he, hd, ht⟩ => ⟨_, he, _, PF, _, h1w.next hd (fun _ h => h) ht, hk.trans h2, f.1, fun d => f.2 (ans_zero.1 d), c_vst V hO.len hN.len, ?_⟩
  have e0 : ([] : List (Nat × ByteArray)).length = 0 := rfl
  show PF.wait.length ≤ 1000
  omega
theorem fin_all (K : Nat → Obj → Prop) (V B : Nat) (w0 w1 w : World) (L : List Wt) (hL : OkL L) (h : Fin_ K V B w0 w1 L) (hb : Below w1.heap.size w1 w) :
    Calls Tryz.prog 23 #[.pointer (some ⟨B, 0, none⟩)] w fun e w' => ∃ (raws : List ByteArray) (masks : List Int) (oa ob : Option Addr) (ca cb : Nat), e = .returned (.agg #[.slice oa raws.length ca, .slice ob masks.length cb]) ∧ List1 Value.string w' (.slice oa raws.length ca) raws ∧ List1 (Value.int .i64) w' (.slice ob masks.length cb) masks ∧ (∀ x, x ∈ L → atS raws masks x.at_ = x.raw ∧ atM raws masks x.at_ = 0) ∧ Below w0.heap.size w0 w' ∧ ErrT w' ∧ (∀ g c, K g c → w'.heap[g]? = some c) ∧ ∀ k, w1.heap.size ≤ k → k < w.heap.size → w'.heap[k]? = w.heap[k]? := by
  obtain ⟨F, P, T, h1, h2, h3, h4, h5⟩ := h
  have hlt := h1.duo.lt
  have h1 := h1.below hb
  obtain ⟨F1, F2, hd⟩ := h1.duo
  refine (all_any B F1 P w hd.plate (by omega) h1.err (fun hk => h1.out (hd.in1 _ hk)) (fun k hk => hd.lt k (hd.in1 k hk))).mono fun e W' ⟨oa, ca, ob, cb, he, ⟨M, hm⟩, hp, ht⟩ => ?_
  obtain ⟨v1, v2⟩ := jviews hm
  have l1 := rawsTo_length P (P.kept.length / 8)
  have l2 := masksTo_length P (P.kept.length / 8)
  have hat : ∀ x, x ∈ L → atS (rawsTo P (P.kept.length / 8)) (masksTo P (P.kept.length / 8)) x.at_ = x.raw ∧ atM (rawsTo P (P.kept.length / 8)) (masksTo P (P.kept.length / 8)) x.at_ = 0 := fun x hx => by
    have hz := (hL.far hx).2.2
    obtain ⟨q1, q2⟩ := at_blk h3 (h5 x hx) (one_size hz)
    rw [hL.nat hx, blk_one (h5 x hx) hz] at q1
    rw [hL.nat hx] at q2
    exact ⟨q1, q2⟩
  have htF : Touch F w W' := ht.mono hd.in1
  refine ⟨rawsTo P (P.kept.length / 8), masksTo P (P.kept.length / 8), oa, ob, ca, cb, by rw [he, l1, l2], by rw [l1]; exact v1, by rw [l2]; exact v2, hat, h1.bel.trans (htF.below h1.bel.size h1.above), h1.err.touch htF h1.out, fun g c hk => ?_, fun k hk1 hk2 => htF.2 k hk2 fun hk => by have := hlt k hk; omega⟩
  obtain ⟨q1, q2⟩ := h1.keep g c hk
  exact (htF.2 g (lt_of_block q1) q2).trans q1
/-- Format, of a law's device and vault. -/
theorem law_fmt (K : Nat → Obj → Prop) (V B : Nat) (w0 w : World) (F : Nat → Prop) (h : LawD K V B w0 w F (newP 784) newV) :
    Calls Tryz.prog 17 #[.pointer (some ⟨B, 0, none⟩), .pointer (some ⟨V, 0, none⟩), .agg (lawSp 48 0).arr] w fun e w' => e = .returned (.int .i64 0) ∧ LawD K V B w0 w' (grow F w w') (aP1 V) (aS1 V) := (awk_fmt F B V w h.duo h.err h.out).mono fun _ _ ⟨he, hd, ht⟩ => ⟨he, h.next hd (fun _ h => h) ht⟩
end Go.Proofs.YtbmjablmmlnieaaGreatDoor
