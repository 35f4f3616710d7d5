/- Trees of hashes in plain words: rows, roots, paths; nothing of the program's calls. -/
import Derived.Test.YtgokehbdappcdaaDoorMg01
namespace Go.Proofs.YtgokehbdappcdaaDoor
set_option maxRecDepth 20000
open Go.RowKit Go.Lib

def catB : List ByteArray → ByteArray
  | [] => ⟨#[]⟩
  | a :: l => a ++ catB l
def leafT (s : ByteArray) : ByteArray := ⟨#[0]⟩ ++ s
def nodeT (l : List ByteArray) : ByteArray := ⟨#[1]⟩ ++ catB l
def rootT (n : Nat) (t : ByteArray) : ByteArray := ⟨#[2]⟩ ++ putS n 6 ++ t
def upN (n : Nat) : Nat := (n + 3) / 4
def upK (n : Nat) : Nat → Nat
  | 0 => n
  | k + 1 => upN (upK n k)
def hgt (n : Nat) : Nat := if h : 1 < n then hgt (upN n) + 1 else 0
termination_by n
decreasing_by unfold upN; omega
theorem hgt_step {n : Nat} (h : 1 < n) : hgt n = hgt (upN n) + 1 := by rw [hgt, dif_pos h]
theorem hgt_end {n : Nat} (h : ¬ 1 < n) : hgt n = 0 := by rw [hgt, dif_neg h]
theorem upK_succ (n : Nat) : ∀ k, upK n (k + 1) = upK (upN n) k
  | 0 => rfl
  | k + 1 => by
    show upN (upK n (k + 1)) = upN (upK (upN n) k)
    rw [upK_succ n k]
theorem upK_hgt (n : Nat) : upK n (hgt n) ≤ 1 ∧ (1 ≤ n → upK n (hgt n) = 1) ∧ ∀ k, k < hgt n → 1 < upK n k := by
  induction n using Nat.strongRecOn with
  | ind n ih =>
    by_cases h : 1 < n
    · rw [hgt_step h]
      obtain ⟨h1, h2, h3⟩ := ih (upN n) (by unfold upN; omega)
      rw [upK_succ]
      refine ⟨h1, fun _ => h2 (by unfold upN; omega), fun k hk => ?_⟩
      cases k with
      | zero => exact h
      | succ k => rw [upK_succ]; exact h3 k (by omega)
    · rw [hgt_end h]
      exact ⟨by show n ≤ 1; omega, fun h1 => by show n = 1; omega, fun k hk => absurd hk (Nat.not_lt_zero k)⟩
theorem upK_le (n : Nat) : ∀ k, upK n k ≤ n
  | 0 => Nat.le_refl _
  | k + 1 => by
    have := upK_le n k
    show upN (upK n k) ≤ n
    unfold upN
    omega
theorem hgt_le (n : Nat) : hgt n ≤ n := by
  induction n using Nat.strongRecOn with
  | ind n ih =>
    by_cases h : 1 < n
    · rw [hgt_step h]
      have := ih (upN n) (by unfold upN; omega)
      unfold upN at *
      omega
    · rw [hgt_end h]
      omega
def grp (r : List ByteArray) (j : Nat) : List ByteArray := (r.drop (4 * j)).take 4
theorem grp_length (r : List ByteArray) (j : Nat) : (grp r j).length = min 4 (r.length - 4 * j) := by simp [grp]
theorem grp_get (r : List ByteArray) (j m : Nat) (h : m < 4) : (grp r j)[m]? = r[4 * j + m]? := by
  unfold grp
  rw [List.getElem?_take_of_lt h, List.getElem?_drop]
def upRow (h : ByteArray → ByteArray) (r : List ByteArray) : List ByteArray := (List.range (upN r.length)).map fun j => h (nodeT (grp r j))
def rowAt (h : ByteArray → ByteArray) (l : List ByteArray) : Nat → List ByteArray
  | 0 => l.map fun s => h (leafT s)
  | k + 1 => upRow h (rowAt h l k)
theorem upRow_length (h : ByteArray → ByteArray) (r : List ByteArray) : (upRow h r).length = upN r.length := by simp [upRow]
theorem rowAt_length (h : ByteArray → ByteArray) (l : List ByteArray) : ∀ k, (rowAt h l k).length = upK l.length k
  | 0 => by simp [rowAt, upK]
  | k + 1 => by
    show (upRow h (rowAt h l k)).length = upN (upK l.length k)
    rw [upRow_length, rowAt_length h l k]
theorem upRow_get (h : ByteArray → ByteArray) (r : List ByteArray) (j : Nat) (hj : j < upN r.length) : (upRow h r)[j]? = some (h (nodeT (grp r j))) := by
  simp [upRow, hj]
theorem rowAt_get0 (h : ByteArray → ByteArray) (l : List ByteArray) (i : Nat) : (rowAt h l 0)[i]? = l[i]?.map fun s => h (leafT s) := by
  simp [rowAt]
/-- The texts that a tree has hashed. -/
def TreeIn (D : ByteArray → Prop) (h : ByteArray → ByteArray) (l : List ByteArray) : Prop :=
  (∀ s, s ∈ l → D (leafT s)) ∧ ∀ k, k < hgt l.length → ∀ j, j < upK l.length (k + 1) → D (nodeT (grp (rowAt h l k) j))
def topS (h : ByteArray → ByteArray) (l : List ByteArray) : ByteArray := (rowAt h l (hgt l.length)).headD ⟨#[]⟩
/-- A hash that agrees on what was hashed makes the same rows. -/
theorem upRow_same {h h' : ByteArray → ByteArray} {r : List ByteArray} (e : ∀ j, j < upN r.length → h' (nodeT (grp r j)) = h (nodeT (grp r j))) : upRow h' r = upRow h r := by
  unfold upRow
  exact List.map_congr_left fun j hj => e j (List.mem_range.1 hj)
theorem rowAt_same {D : ByteArray → Prop} {h h' : ByteArray → ByteArray} {l : List ByteArray} (hT : TreeIn D h l) (e : ∀ x, D x → h' x = h x) : ∀ k, k ≤ hgt l.length → rowAt h' l k = rowAt h l k
  | 0, _ => List.map_congr_left fun s hs => e _ (hT.1 s hs)
  | k + 1, hk => by
    show upRow h' (rowAt h' l k) = upRow h (rowAt h l k)
    rw [rowAt_same hT e k (by omega)]
    exact upRow_same fun j hj => e _ (hT.2 k (by omega) j (by rw [rowAt_length] at hj; exact hj))
theorem TreeIn.mono {D D' : ByteArray → Prop} {h h' : ByteArray → ByteArray} {l : List ByteArray} (hT : TreeIn D h l) (hD : ∀ x, D x → D' x ∧ h' x = h x) : TreeIn D' h' l := by
  refine ⟨fun s hs => (hD _ (hT.1 s hs)).1, fun k hk j hj => ?_⟩
  rw [rowAt_same hT (fun x hx => (hD x hx).2) k (by omega)]
  exact (hD _ (hT.2 k hk j hj)).1
theorem top_same {D : ByteArray → Prop} {h h' : ByteArray → ByteArray} {l : List ByteArray} (hT : TreeIn D h l) (e : ∀ x, D x → h' x = h x) : topS h' l = topS h l := by
  unfold topS
  rw [rowAt_same hT e _ (Nat.le_refl _)]
theorem top_get {h : ByteArray → ByteArray} {l : List ByteArray} (hl : 1 ≤ l.length) : (rowAt h l (hgt l.length))[0]? = some (topS h l) := by
  have h1 := rowAt_length h l (hgt l.length)
  rw [(upK_hgt l.length).2.1 hl] at h1
  unfold topS
  cases hr : rowAt h l (hgt l.length) with
  | nil => rw [hr] at h1; simp at h1
  | cons a t => rfl

/-- The texts of a tree of so many rows. -/
def TreeInK (D : ByteArray → Prop) (h : ByteArray → ByteArray) (l : List ByteArray) (K : Nat) : Prop :=
  (∀ s, s ∈ l → D (leafT s)) ∧ ∀ k, k < K → ∀ j, j < upK l.length (k + 1) → D (nodeT (grp (rowAt h l k) j))
theorem rowAt_sameK {D : ByteArray → Prop} {h h' : ByteArray → ByteArray} {l : List ByteArray} {K : Nat} (hT : TreeInK D h l K) (e : ∀ x, D x → h' x = h x) : ∀ k, k ≤ K → rowAt h' l k = rowAt h l k
  | 0, _ => List.map_congr_left fun s hs => e _ (hT.1 s hs)
  | k + 1, hk => by
    show upRow h' (rowAt h' l k) = upRow h (rowAt h l k)
    rw [rowAt_sameK hT e k (by omega)]
    exact upRow_same fun j hj => e _ (hT.2 k (by omega) j (by rw [rowAt_length] at hj; exact hj))
theorem TreeInK.mono {D D' : ByteArray → Prop} {h h' : ByteArray → ByteArray} {l : List ByteArray} {K : Nat} (hT : TreeInK D h l K) (hD : ∀ x, D x → D' x ∧ h' x = h x) : TreeInK D' h' l K := by
  refine ⟨fun s hs => (hD _ (hT.1 s hs)).1, fun k hk j hj => ?_⟩
  rw [rowAt_sameK hT (fun x hx => (hD x hx).2) k (by omega)]
  exact (hD _ (hT.2 k hk j hj)).1
theorem TreeInK.sizes {D : ByteArray → Prop} {h : ByteArray → ByteArray} {l : List ByteArray} {K : Nat} (hT : TreeInK D h l K) (hz : ∀ x, D x → (h x).size = 32) : ∀ k, k ≤ K → ∀ x, x ∈ rowAt h l k → x.size = 32
  | 0, _, x, hx => by
    obtain ⟨s, hs, rfl⟩ := List.mem_map.1 hx
    exact hz _ (hT.1 s hs)
  | k + 1, hk, x, hx => by
    obtain ⟨j, hj, rfl⟩ := List.mem_map.1 hx
    have hj := List.mem_range.1 hj
    rw [rowAt_length] at hj
    exact hz _ (hT.2 k (by omega) j hj)
def rowsUp (h : ByteArray → ByteArray) (l : List ByteArray) (K : Nat) : List (List ByteArray) := (List.range (K + 1)).map (rowAt h l)
theorem rowsUp_same {D : ByteArray → Prop} {h h' : ByteArray → ByteArray} {l : List ByteArray} {K : Nat} (hT : TreeInK D h l K) (e : ∀ x, D x → h' x = h x) : rowsUp h' l K = rowsUp h l K :=
  List.map_congr_left fun k hk => rowAt_sameK hT e k (by have := List.mem_range.1 hk; omega)
theorem rowsUp_length (h : ByteArray → ByteArray) (l : List ByteArray) (K : Nat) : (rowsUp h l K).length = K + 1 := by simp [rowsUp]
theorem rowsUp_get (h : ByteArray → ByteArray) (l : List ByteArray) (K k : Nat) (hk : k ≤ K) : (rowsUp h l K)[k]? = some (rowAt h l k) := by
  rw [rowsUp, List.getElem?_map, List.getElem?_range (by omega)]
  rfl
theorem rowsUp_succ (h : ByteArray → ByteArray) (l : List ByteArray) (K : Nat) : rowsUp h l (K + 1) = rowsUp h l K ++ [rowAt h l (K + 1)] := by
  rw [rowsUp, List.range_succ, List.map_append]
  rfl

/-- A place, row by row. -/
def iK (i : Nat) : Nat → Nat
  | 0 => i
  | k + 1 => iK i k / 4
theorem iK_succ (i : Nat) : ∀ k, iK i (k + 1) = iK (i / 4) k
  | 0 => rfl
  | k + 1 => by
    show iK i (k + 1) / 4 = iK (i / 4) k / 4
    rw [iK_succ i k]
theorem iK_lt {n i : Nat} (h : i < n) : ∀ k, iK i k < upK n k
  | 0 => h
  | k + 1 => by
    have := iK_lt h k
    show iK i k / 4 < upN (upK n k)
    unfold upN
    omega
/-- A step of a path: the place among its four, and the others. -/
structure Stp where
  at_ : Int
  sides : List ByteArray
def below (s : Stp) (x : ByteArray) : List ByteArray := s.sides.take s.at_.toNat ++ x :: s.sides.drop s.at_.toNat
def climb (h : ByteArray → ByteArray) : ByteArray → List Stp → ByteArray
  | x, [] => x
  | x, s :: p => climb h (h (nodeT (below s x))) p
/-- How many stand in the four of a place. -/
def fourN (size i : Nat) : Nat := min 4 (size - 4 * (i / 4))
def fitP (s : Stp) (size i : Nat) : Prop := s.at_ = ((i % 4 : Nat) : Int) ∧ s.sides.length = fourN size i - 1 ∧ ∀ x, x ∈ s.sides → x.size = 32
def leadP (n i : Nat) (p : List Stp) : Prop := p.length = hgt n ∧ ∀ k s, p[k]? = some s → fitP s (upK n k) (iK i k)
/-- The step from a place of a row. -/
def stepOf (r : List ByteArray) (i : Nat) : Stp := ⟨((i % 4 : Nat) : Int), (grp r (i / 4)).eraseIdx (i % 4)⟩
def pathOf (h : ByteArray → ByteArray) (l : List ByteArray) (i : Nat) : List Stp := (List.range (hgt l.length)).map fun k => stepOf (rowAt h l k) (iK i k)

theorem climb_append (h : ByteArray → ByteArray) : ∀ (p q : List Stp) (x : ByteArray), climb h x (p ++ q) = climb h (climb h x p) q
  | [], _, _ => rfl
  | _ :: p, q, _ => climb_append h p q _
theorem below_step {r : List ByteArray} {i : Nat} {x : ByteArray} (hx : r[i]? = some x) : below (stepOf r i) x = grp r (i / 4) := by
  have hg : (grp r (i / 4))[i % 4]? = some x := by
    rw [grp_get _ _ _ (Nat.mod_lt _ (by decide)), Nat.div_add_mod]
    exact hx
  obtain ⟨hlt, he⟩ := List.getElem?_eq_some_iff.1 hg
  unfold below stepOf
  simp only [Int.toNat_natCast]
  generalize grp r (i / 4) = g at *
  generalize i % 4 = m at *
  rw [List.eraseIdx_eq_take_drop_succ]
  have l1 : (g.take m).length = m := by simp; omega
  rw [List.take_append_of_le_length (by omega), List.take_of_length_le (by omega), List.drop_append_of_le_length (by omega), List.drop_of_length_le (by omega), List.nil_append, ← he]
  conv => rhs; rw [← List.take_append_drop m g, List.drop_eq_getElem_cons hlt]
theorem rowAt_place (h : ByteArray → ByteArray) (l : List ByteArray) (i : Nat) (hi : i < l.length) (k : Nat) : ∃ x, (rowAt h l k)[iK i k]? = some x := by
  have := iK_lt hi k
  exact ⟨_, List.getElem?_eq_getElem (by rw [rowAt_length]; exact this)⟩
theorem path_climbs (h : ByteArray → ByteArray) (l : List ByteArray) (i : Nat) (hi : i < l.length) : ∀ k, k ≤ hgt l.length → (rowAt h l k)[iK i k]? = some (climb h (h (leafT l[i])) ((pathOf h l i).take k))
  | 0, _ => by
    rw [rowAt_get0]
    show Option.map _ l[i]? = some (h (leafT l[i]))
    rw [List.getElem?_eq_getElem hi]
    rfl
  | k + 1, hk => by
    have ih := path_climbs h l i hi k (by omega)
    have hp : (pathOf h l i)[k]? = some (stepOf (rowAt h l k) (iK i k)) := by
      rw [pathOf, List.getElem?_map, List.getElem?_range (by omega)]
      rfl
    have ht : (pathOf h l i).take (k + 1) = (pathOf h l i).take k ++ [stepOf (rowAt h l k) (iK i k)] := by rw [List.take_add_one, hp]; rfl
    rw [ht, climb_append]
    show (upRow h (rowAt h l k))[iK i k / 4]? = some (h (nodeT (below (stepOf (rowAt h l k) (iK i k)) (climb h (h (leafT l[i])) ((pathOf h l i).take k)))))
    rw [below_step ih, upRow_get]
    rw [rowAt_length]
    exact iK_lt hi (k + 1)
/-- A path of a tree leads to its top. -/
theorem path_top (h : ByteArray → ByteArray) (l : List ByteArray) (i : Nat) (hi : i < l.length) : climb h (h (leafT l[i])) (pathOf h l i) = topS h l := by
  have h1 := path_climbs h l i hi (hgt l.length) (Nat.le_refl _)
  rw [List.take_of_length_le (by simp [pathOf])] at h1
  have h2 := top_get (h := h) (l := l) (by omega)
  have h3 : iK i (hgt l.length) = 0 := by
    have := iK_lt hi (hgt l.length)
    have := (upK_hgt l.length).1
    omega
  rw [h3, h2] at h1
  exact (Option.some.inj h1).symm
theorem path_leads {D : ByteArray → Prop} {h : ByteArray → ByteArray} {l : List ByteArray} (hT : TreeIn D h l) (hz : ∀ x, D x → (h x).size = 32) (i : Nat) (hi : i < l.length) : leadP l.length i (pathOf h l i) := by
  refine ⟨by simp [pathOf], fun k s hs => ?_⟩
  have hk : k < hgt l.length := by
    have := (List.getElem?_eq_some_iff.1 hs).1
    simpa [pathOf] using this
  have : s = stepOf (rowAt h l k) (iK i k) := by
    simp [pathOf, hk] at hs
    exact hs.symm
  subst this
  have hlt := iK_lt hi k
  refine ⟨rfl, ?_, ?_⟩
  · have hm : iK i k % 4 < (grp (rowAt h l k) (iK i k / 4)).length := by
      rw [grp_length, rowAt_length]
      omega
    show ((grp (rowAt h l k) (iK i k / 4)).eraseIdx (iK i k % 4)).length = _
    rw [List.length_eraseIdx_of_lt hm, grp_length, rowAt_length]
    rfl
  · intro x hx
    have hx1 : x ∈ rowAt h l k := List.mem_of_mem_drop (List.mem_of_mem_take (List.mem_of_mem_eraseIdx hx))
    cases k with
    | zero =>
      obtain ⟨s, hs, rfl⟩ := List.mem_map.1 hx1
      exact hz _ (hT.1 s hs)
    | succ k =>
      obtain ⟨j, hj, rfl⟩ := List.mem_map.1 hx1
      have hj := List.mem_range.1 hj
      rw [rowAt_length] at hj
      exact hz _ (hT.2 k (by omega) j hj)

theorem pre_inj {a b c d : ByteArray} (hs : a.size = b.size) (h : a ++ c = b ++ d) : a = b ∧ c = d := by
  have h1 : a.data.toList ++ c.data.toList = b.data.toList ++ d.data.toList := by
    have := congrArg (fun x : ByteArray => x.data.toList) h
    simpa using this
  obtain ⟨h2, h3⟩ := List.append_inj h1 (by simpa using hs)
  exact ⟨by cases a; cases b; congr 1; exact Array.toList_inj.1 h2, by cases c; cases d; congr 1; exact Array.toList_inj.1 h3⟩
theorem catB_inj : ∀ {l m : List ByteArray}, l.length = m.length → (∀ x, x ∈ l → x.size = 32) → (∀ x, x ∈ m → x.size = 32) → catB l = catB m → l = m
  | [], [], _, _, _, _ => rfl
  | a :: l, b :: m, hl, h1, h2, h => by
    obtain ⟨e1, e2⟩ := pre_inj (by rw [h1 a (by simp), h2 b (by simp)]) h
    rw [e1, catB_inj (by simpa using hl) (fun x hx => h1 x (by simp [hx])) (fun x hx => h2 x (by simp [hx])) e2]
theorem leafT_inj {a b : ByteArray} (h : leafT a = leafT b) : a = b := (pre_inj rfl h).2
theorem nodeT_inj {l m : List ByteArray} (h : nodeT l = nodeT m) : catB l = catB m := (pre_inj rfl h).2
theorem rootT_inj {m n : Nat} {s t : ByteArray} (hm : m < 281474976710656) (hn : n < 281474976710656) (h : rootT m s = rootT n t) : m = n ∧ s = t := by
  unfold rootT at h
  have z1 : ((⟨#[2]⟩ : ByteArray) ++ putS m 6).size = ((⟨#[2]⟩ : ByteArray) ++ putS n 6).size := by
    rw [ByteArray.size_append, ByteArray.size_append, put6_size hm, put6_size hn]
  obtain ⟨h1, h2⟩ := pre_inj z1 h
  exact ⟨put6_inj hm hn (pre_inj rfl h1).2, h2⟩
theorem below_length (s : Stp) (x : ByteArray) : (below s x).length = s.sides.length + 1 := by
  have := congrArg List.length (List.take_append_drop s.at_.toNat s.sides)
  simp only [below, List.length_append, List.length_cons] at *
  omega
theorem below_get {s : Stp} {x : ByteArray} {m : Nat} (hm : s.at_ = (m : Nat)) (hl : m ≤ s.sides.length) : (below s x)[m]? = some x := by
  unfold below
  rw [hm, Int.toNat_natCast, List.getElem?_append_right (by simp; omega)]
  have : (s.sides.take m).length = m := by simp; omega
  rw [this, Nat.sub_self]
  rfl
theorem below_sizes {s : Stp} {x : ByteArray} (hx : x.size = 32) (hs : ∀ y, y ∈ s.sides → y.size = 32) : ∀ y, y ∈ below s x → y.size = 32 := by
  intro y hy
  unfold below at hy
  rcases List.mem_append.1 hy with h | h
  · exact hs y (List.mem_of_mem_take h)
  · rcases List.mem_cons.1 h with rfl | h
    · exact hx
    · exact hs y (List.mem_of_mem_drop h)
/-- The texts that a path hashes. -/
def ClimbIn (D : ByteArray → Prop) (h : ByteArray → ByteArray) (s : ByteArray) (p : List Stp) : Prop := D (leafT s) ∧ ∀ k t, p[k]? = some t → D (nodeT (below t (climb h (h (leafT s)) (p.take k))))
theorem row_sizes {D : ByteArray → Prop} {h : ByteArray → ByteArray} {l : List ByteArray} (hT : TreeIn D h l) (hz : ∀ x, D x → (h x).size = 32) : ∀ k, k ≤ hgt l.length → ∀ x, x ∈ rowAt h l k → x.size = 32
  | 0, _, x, hx => by
    obtain ⟨s, hs, rfl⟩ := List.mem_map.1 hx
    exact hz _ (hT.1 s hs)
  | k + 1, hk, x, hx => by
    obtain ⟨j, hj, rfl⟩ := List.mem_map.1 hx
    have hj := List.mem_range.1 hj
    rw [rowAt_length] at hj
    exact hz _ (hT.2 k (by omega) j hj)
theorem climb_size {D : ByteArray → Prop} {h : ByteArray → ByteArray} {s : ByteArray} {p : List Stp} (hC : ClimbIn D h s p) (hz : ∀ x, D x → (h x).size = 32) : ∀ k, k ≤ p.length → (climb h (h (leafT s)) (p.take k)).size = 32
  | 0, _ => hz _ hC.1
  | k + 1, hk => by
    obtain ⟨t, ht⟩ : ∃ t, p[k]? = some t := ⟨_, List.getElem?_eq_getElem (by omega)⟩
    have hq : p.take (k + 1) = p.take k ++ [t] := by rw [List.take_add_one, ht]; rfl
    rw [hq, climb_append]
    exact hz _ (hC.2 k t ht)
/-- The texts of the first steps. -/
def ClimbInK (D : ByteArray → Prop) (h : ByteArray → ByteArray) (s : ByteArray) (p : List Stp) (K : Nat) : Prop := D (leafT s) ∧ ∀ k t, k < K → p[k]? = some t → D (nodeT (below t (climb h (h (leafT s)) (p.take k))))
theorem climb_sameK {D : ByteArray → Prop} {h h' : ByteArray → ByteArray} {s : ByteArray} {p : List Stp} {K : Nat} (hC : ClimbInK D h s p K) (e : ∀ x, D x → h' x = h x) : ∀ k, k ≤ K → climb h' (h' (leafT s)) (p.take k) = climb h (h (leafT s)) (p.take k)
  | 0, _ => e _ hC.1
  | k + 1, hk => by
    by_cases hp : k < p.length
    · obtain ⟨t, ht⟩ : ∃ t, p[k]? = some t := ⟨_, List.getElem?_eq_getElem hp⟩
      have hq : p.take (k + 1) = p.take k ++ [t] := by rw [List.take_add_one, ht]; rfl
      rw [hq, climb_append, climb_append, climb_sameK hC e k (by omega)]
      exact e _ (hC.2 k t (by omega) ht)
    · have e1 : p.take (k + 1) = p.take k := by rw [List.take_of_length_le (by omega), List.take_of_length_le (by omega)]
      rw [e1]
      exact climb_sameK hC e k (by omega)
theorem ClimbInK.mono {D D' : ByteArray → Prop} {h h' : ByteArray → ByteArray} {s : ByteArray} {p : List Stp} {K : Nat} (hC : ClimbInK D h s p K) (hD : ∀ x, D x → D' x ∧ h' x = h x) : ClimbInK D' h' s p K := by
  refine ⟨(hD _ hC.1).1, fun k t hk ht => ?_⟩
  rw [climb_sameK hC (fun x hx => (hD x hx).2) k (by omega)]
  exact (hD _ (hC.2 k t hk ht)).1
theorem ClimbInK.all {D : ByteArray → Prop} {h : ByteArray → ByteArray} {s : ByteArray} {p : List Stp} (hC : ClimbInK D h s p p.length) : ClimbIn D h s p := ⟨hC.1, fun k t ht => hC.2 k t (List.getElem?_eq_some_iff.1 ht).1 ht⟩

/-- No other text leads to a tree's top. -/
theorem bent_top {D : ByteArray → Prop} {h : ByteArray → ByteArray} {l : List ByteArray} {s : ByteArray} {p : List Stp} {i : Nat} (hT : TreeIn D h l) (hC : ClimbIn D h s p) (hz : ∀ x, D x → (h x).size = 32) (hj : ∀ x y, D x → D y → h x = h y → x = y) (hi : i < l.length) (hp : leadP l.length i p) (he : climb h (h (leafT s)) p = topS h l) : l[i]? = some s := by
  obtain ⟨hp1, hp2⟩ := hp
  have key : ∀ d, d ≤ hgt l.length → (rowAt h l (hgt l.length - d))[iK i (hgt l.length - d)]? = some (climb h (h (leafT s)) (p.take (hgt l.length - d))) := by
    intro d
    induction d with
    | zero =>
      intro _
      rw [Nat.sub_zero, List.take_of_length_le (by omega), he]
      have h3 : iK i (hgt l.length) = 0 := by
        have := iK_lt hi (hgt l.length)
        have := (upK_hgt l.length).1
        omega
      rw [h3]
      exact top_get (by omega)
    | succ d ih =>
      intro hd
      have ih := ih (by omega)
      obtain ⟨k, hk⟩ : ∃ k, k = hgt l.length - (d + 1) := ⟨_, rfl⟩
      rw [show hgt l.length - d = k + 1 by omega] at ih
      rw [← hk]
      obtain ⟨t, ht⟩ : ∃ t, p[k]? = some t := ⟨_, List.getElem?_eq_getElem (by omega)⟩
      have hq : p.take (k + 1) = p.take k ++ [t] := by rw [List.take_add_one, ht]; rfl
      obtain ⟨f1, f2, f3⟩ := hp2 k t ht
      have hlt := iK_lt hi k
      have hlt1 := iK_lt hi (k + 1)
      rw [hq, climb_append] at ih
      have ih2 : (upRow h (rowAt h l k))[iK i k / 4]? = some (h (nodeT (below t (climb h (h (leafT s)) (p.take k))))) := ih
      rw [upRow_get _ _ _ (by rw [rowAt_length]; exact hlt1)] at ih2
      have e1 : catB (grp (rowAt h l k) (iK i k / 4)) = catB (below t (climb h (h (leafT s)) (p.take k))) := nodeT_inj (hj _ _ (hT.2 k (by omega) _ hlt1) (hC.2 k t ht) (Option.some.inj ih2))
      have zc := climb_size hC hz k (by omega)
      have e2 : grp (rowAt h l k) (iK i k / 4) = below t (climb h (h (leafT s)) (p.take k)) := catB_inj (by rw [grp_length, rowAt_length, below_length, f2]; unfold fourN; omega) (fun x hx => row_sizes hT hz k (by omega) x (List.mem_of_mem_drop (List.mem_of_mem_take hx))) (below_sizes zc f3) e1
      have e3 := below_get (x := climb h (h (leafT s)) (p.take k)) f1 (by rw [f2]; unfold fourN; omega)
      rw [← e2, grp_get _ _ _ (Nat.mod_lt _ (by decide)), Nat.div_add_mod] at e3
      exact e3
  have h0 := key (hgt l.length) (Nat.le_refl _)
  rw [Nat.sub_self, rowAt_get0] at h0
  have h0' : Option.map (fun s => h (leafT s)) l[i]? = some (h (leafT s)) := h0
  rw [List.getElem?_eq_getElem hi] at h0' ⊢
  have e4 := hj _ _ (hT.1 _ (List.getElem_mem hi)) hC.1 (Option.some.inj h0')
  rw [leafT_inj e4]
/-- Two lists of one length have one top just if they are one. -/
theorem tops_unlike {D : ByteArray → Prop} {h : ByteArray → ByteArray} {l m : List ByteArray} (hL : TreeIn D h l) (hM : TreeIn D h m) (hz : ∀ x, D x → (h x).size = 32) (hj : ∀ x y, D x → D y → h x = h y → x = y) (hlen : l.length = m.length) (he : topS h l = topS h m) : l = m := by
  have key : ∀ d, d ≤ hgt l.length → rowAt h l (hgt l.length - d) = rowAt h m (hgt l.length - d) := by
    intro d
    induction d with
    | zero =>
      intro _
      rw [Nat.sub_zero]
      by_cases h1 : 1 ≤ l.length
      · have g1 := top_get (h := h) (l := l) h1
        have g2 := top_get (h := h) (l := m) (by omega)
        rw [← hlen] at g2
        have z1 := rowAt_length h l (hgt l.length)
        have z2 := rowAt_length h m (hgt l.length)
        rw [(upK_hgt l.length).2.1 h1] at z1
        rw [← hlen, (upK_hgt l.length).2.1 h1] at z2
        obtain ⟨a, ha⟩ := List.length_eq_one_iff.1 z1
        obtain ⟨b, hb⟩ := List.length_eq_one_iff.1 z2
        rw [ha] at g1 ⊢
        rw [hb] at g2 ⊢
        simp at g1 g2
        rw [g1, g2, he]
      · have a1 : l = [] := List.eq_nil_of_length_eq_zero (by omega)
        have a2 : m = [] := List.eq_nil_of_length_eq_zero (by omega)
        rw [a1, a2]
    | succ d ih =>
      intro hd
      have ih := ih (by omega)
      obtain ⟨k, hk⟩ : ∃ k, k = hgt l.length - (d + 1) := ⟨_, rfl⟩
      rw [show hgt l.length - d = k + 1 by omega] at ih
      rw [← hk]
      have ih2 : upRow h (rowAt h l k) = upRow h (rowAt h m k) := ih
      have z1 := rowAt_length h l k
      have z2 := rowAt_length h m k
      rw [← hlen] at z2
      have gs : ∀ j, j < upK l.length (k + 1) → grp (rowAt h l k) j = grp (rowAt h m k) j := by
        intro j hj1
        have e0 := congrArg (fun r => r[j]?) ih2
        rw [upRow_get _ _ _ (by rw [z1]; exact hj1), upRow_get _ _ _ (by rw [z2]; exact hj1)] at e0
        have e1 := nodeT_inj (hj _ _ (hL.2 k (by omega) j hj1) (hM.2 k (by rw [← hlen]; omega) j (by rw [← hlen]; exact hj1)) (Option.some.inj e0))
        exact catB_inj (by rw [grp_length, grp_length, z1, z2]) (fun x hx => row_sizes hL hz k (by omega) x (List.mem_of_mem_drop (List.mem_of_mem_take hx))) (fun x hx => row_sizes hM hz k (by rw [← hlen]; omega) x (List.mem_of_mem_drop (List.mem_of_mem_take hx))) e1
      apply List.ext_getElem?
      intro x
      by_cases hx : x < upK l.length k
      · have hg := gs (x / 4) (by show x / 4 < upN (upK l.length k); unfold upN; omega)
        have e5 := grp_get (rowAt h l k) (x / 4) (x % 4) (Nat.mod_lt _ (by decide))
        have e6 := grp_get (rowAt h m k) (x / 4) (x % 4) (Nat.mod_lt _ (by decide))
        rw [Nat.div_add_mod] at e5 e6
        rw [← e5, ← e6, hg]
      · rw [List.getElem?_eq_none (by omega), List.getElem?_eq_none (by omega)]
  have h0 := key (hgt l.length) (Nat.le_refl _)
  rw [Nat.sub_self] at h0
  apply List.ext_getElem?
  intro x
  by_cases hx : x < l.length
  · have e0 := congrArg (fun r => r[x]?) h0
    rw [rowAt_get0, rowAt_get0, List.getElem?_eq_getElem hx, List.getElem?_eq_getElem (by omega)] at e0
    have e1 := leafT_inj (hj _ _ (hL.1 _ (List.getElem_mem hx)) (hM.1 _ (List.getElem_mem (by omega))) (Option.some.inj e0))
    rw [List.getElem?_eq_getElem hx, List.getElem?_eq_getElem (by omega), e1]
  · rw [List.getElem?_eq_none (by omega), List.getElem?_eq_none (by omega)]
theorem roots_unlike {D : ByteArray → Prop} {h : ByteArray → ByteArray} {l m : List ByteArray} (hL : TreeIn D h l) (hM : TreeIn D h m) (hz : ∀ x, D x → (h x).size = 32) (hj : ∀ x y, D x → D y → h x = h y → x = y) (hl : l.length < 281474976710656) (hm : m.length < 281474976710656) (d1 : D (rootT l.length (topS h l))) (d2 : D (rootT m.length (topS h m))) : h (rootT l.length (topS h l)) = h (rootT m.length (topS h m)) ↔ l = m := by
  constructor
  · intro he
    obtain ⟨e1, e2⟩ := rootT_inj hl hm (hj _ _ d1 d2 he)
    exact tops_unlike hL hM hz hj e1 e2
  · rintro rfl
    rfl
end Go.Proofs.YtgokehbdappcdaaDoor
