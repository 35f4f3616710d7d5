/- The law PlateKeeps, called with any number, any script and any truth values, returns true, and changes nothing that was there. -/
import Derived.Test.YtmnojmcbghdciaaKeepsMath4
import Derived.Laws.OwnMore
namespace Go.Proofs.Ytmnojmcbghdciaa
open Go.RowKit

/-- A device whose blocks lie at or above a bound, and outside a gap. -/
def OnG (base lo hi : Nat) (w : World) (B : Nat) (S : PS) : Prop := ∃ F, Plate w F B S ∧ ∀ k, F k → base ≤ k ∧ k < w.heap.size ∧ (k < lo ∨ hi ≤ k)
def Same (lo hi : Nat) (w w' : World) : Prop := ∀ k, lo ≤ k → k < hi → w'.heap[k]? = w.heap[k]?
theorem OnG.of {base lo hi B : Nat} {w w' : World} {F : Nat → Prop} {S : PS} (hw : base ≤ w.heap.size) (hh : hi ≤ w.heap.size) (hF : ∀ k, F k → base ≤ k ∧ k < w.heap.size ∧ (k < lo ∨ hi ≤ k)) (hp : Plate w' (grow F w w') B S) (ht : Touch F w w') : OnG base lo hi w' B S ∧ Below base w w' ∧ Same lo hi w w' :=
  ⟨⟨_, hp, fun k hk => by
    rcases hk with h | h
    · have := hF k h; have := ht.size; omega
    · omega⟩, ht.below hw fun k h => (hF k h).1, fun k h1 h2 => ht.2 k (by omega) fun hf => by have := (hF k hf).2.2; omega⟩
theorem OnG.base {base lo hi B : Nat} {w : World} {S : PS} (h : OnG base lo hi w B S) : base ≤ w.heap.size := by
  obtain ⟨F, ⟨K, N, wv, hp⟩, hF⟩ := h
  have := hF B hp.fB
  omega
theorem OnG.below {base lo hi B : Nat} {w w' : World} {S : PS} (h : OnG base lo hi w B S) (hb : Below w.heap.size w w') : OnG base lo hi w' B S := by
  obtain ⟨F, hp, hF⟩ := h
  exact ⟨F, hp.below hb, fun k hk => ⟨(hF k hk).1, Nat.lt_of_lt_of_le (hF k hk).2.1 hb.size, (hF k hk).2.2⟩⟩
theorem OnG.off {base lo hi B g i : Nat} {w : World} {S : PS} {v : Value} (h : OnG base lo hi w B S) (h1 : lo ≤ g) (h2 : g < hi) : OnG base lo hi (w.setCell ⟨g, i, none⟩ v) B S := by
  obtain ⟨F, hp, hF⟩ := h
  refine ⟨F, hp.keep fun k _ hk => Below.heap_setCell w ⟨g, i, none⟩ _ k fun e => ?_, fun k hk => ?_⟩
  · have := (hF k hk).2.2
    have e2 : k = g := e
    omega
  · have := hF k hk
    have : (w.setCell ⟨g, i, none⟩ v).heap.size = w.heap.size := by simp
    omega
theorem write_og (base lo hi B : Nat) (S : PS) (at_ : Int) (s : ByteArray) (w : World) (hh : hi ≤ w.heap.size) (hp : OnG base lo hi w B S) (hw : S.wait.length ≤ 1000000) :
    Calls Try.prog 15 #[.pointer (some ⟨B, 0, none⟩), .int .i64 at_, .string s] w fun e w' => e = .returned (.int .i64 (writeE S at_ s)) ∧ OnG base lo hi w' B (writeP S at_ s) ∧ Below base w w' ∧ Same lo hi w w' := by
  have hb := hp.base
  obtain ⟨F, hp, hF⟩ := hp
  exact (write_any B F S at_ s w hp hw).mono fun e w' ⟨he, h1, h2⟩ => ⟨he, OnG.of hb hh hF h1 h2⟩
theorem read_og (base lo hi B : Nat) (S : PS) (at_ : Int) (w : World) (hh : hi ≤ w.heap.size) (hp : OnG base lo hi w B S) (hw : S.wait.length ≤ 1000000) :
    Calls Try.prog 22 #[.pointer (some ⟨B, 0, none⟩), .int .i64 at_] w fun e w' => e = .returned (.tuple #[.string (readS S at_), .int .i64 (readE S at_)]) ∧ OnG base lo hi w' B (readP S at_) ∧ Below base w w' ∧ Same lo hi w w' := by
  have hb := hp.base
  obtain ⟨F, hp, hF⟩ := hp
  exact (read_any B F S at_ w hp hw).mono fun e w' ⟨he, h1, h2⟩ => ⟨he, OnG.of hb hh hF (h1.mono fun _ _ h => .inl h) h2⟩
theorem start_og (base lo hi B : Nat) (S : PS) (kv : Value) (l : List Bool) (w : World) (hh : hi ≤ w.heap.size) (hp : OnG base lo hi w B S) (hw : S.wait.length ≤ 1000000) (hk : Bools w (fun k => base ≤ k) kv l) :
    Calls Try.prog 21 #[.pointer (some ⟨B, 0, none⟩), kv] w fun e w' => e = .returned (.tuple #[]) ∧ OnG base lo hi w' B (startP l S) ∧ Below base w w' ∧ Same lo hi w w' := by
  have hb := hp.base
  obtain ⟨F, hp, hF⟩ := hp
  exact (start_any B F S kv l w hp hw (hk.mono fun k _ h => (hF k h).1)).mono fun e w' ⟨he, h1, h2⟩ => ⟨he, OnG.of hb hh hF (h1.mono fun _ _ h => .inl h) h2⟩

theorem owns_zero {w : World} {b : Nat} {e : TypeId} {z n : Nat} {v : Value} {xs : List Value} (h : w.ownsRow b e z v n xs) : w.ownsRow 0 e z v n xs := by
  refine ⟨h.1, ?_⟩
  rcases h.2 with hn | ⟨g, cap, cur, rfl, h0, hg, hr⟩
  · exact .inl hn
  · exact .inr ⟨g, cap, cur, rfl, Nat.zero_le _, hg, hr⟩
theorem info_bool : (Try.prog.info? 4).map (fun i => (i.zero, i.size, i.bytes)) = some (some (.bool false), 1, 1) := by kernel_rfl
theorem wrote_zero (S : PS) (l : List OpT) (n : Nat) : List.replicate n (Value.bool false) = rowF n fun k => .bool (wroteB S l 0 k) := by
  rw [rowF]
  simp only [wroteB]
  rw [List.map_const', List.length_range]
theorem wrote_step {S : PS} {l : List OpT} {m : Nat} (h : m % 2 = 0) (he : writeE (secondS S l m) (l.getD m default).at_ (fillS (((l.getD m default).v + 1) % 256) 64) = 0) (k : Nat) : wroteB S l (m + 1) k = if k = (l.getD m default).at_.toNat then true else wroteB S l m k := by
  simp only [wroteB]
  by_cases e : k = (l.getD m default).at_.toNat
  · rw [if_pos ⟨h, he, e⟩, if_pos e]
  · rw [if_neg (fun x => e x.2.2), if_neg e]
theorem wrote_skip {S : PS} {l : List OpT} {m : Nat} (h : ¬ (m % 2 = 0 ∧ writeE (secondS S l m) (l.getD m default).at_ (fillS (((l.getD m default).v + 1) % 256) 64) = 0)) (k : Nat) : wroteB S l (m + 1) k = wroteB S l m k := by
  simp only [wroteB]
  rw [if_neg (fun x => h ⟨x.1, x.2.1⟩)]
theorem second_even {S : PS} {l : List OpT} {m : Nat} (h : m % 2 = 0) : secondS S l (m + 1) = writeP (secondS S l m) (l.getD m default).at_ (fillS (((l.getD m default).v + 1) % 256) 64) := by simp only [secondS, h, if_true]
theorem second_odd {S : PS} {l : List OpT} {m : Nat} (h : ¬ m % 2 = 0) : secondS S l (m + 1) = secondS S l m := by simp only [secondS, h, if_false]

theorem bdrawN {B : Nat} {a w : World} (h : Below B a w) (n : Nat) : Below B a (w.drewN n) := h.trans ⟨rfl, rfl, rfl, Nat.le_refl _, fun _ _ => rfl⟩
def wasC (S : PS) (i : Nat) : List Value := (List.range i).map fun k => .string (heldS S (k : Nat))
theorem wasC_succ (S : PS) (i : Nat) : wasC S (i + 1) = wasC S i ++ [.string (heldS S (i : Nat))] := by simp [wasC, List.range_succ]
theorem wasC_get (S : PS) (n i : Nat) (h : i < n) : (wasC S n)[i]? = some (.string (heldS S (i : Nat))) := by
  rw [wasC, List.getElem?_map, List.getElem?_range h]; rfl

set_option maxRecDepth 10000 in
set_option maxHeartbeats 4000000 in
theorem walk_plateKeeps (a0 : Int) (v1 : Value) (l : List OpT) (v2 : Value) (k : List Bool) (_ : (Lit.int .i64 a0).wf = true) (w : World) (hl : Ops w v1 l) (hk : Bools w (fun k => w.heap.size ≤ k) v2 k) :
    Calls Try.prog 4 #[.int .i64 a0, v1, v2] w fun e w' => e = .returned (.bool true) ∧ Below w.heap.size w w' := by
  obtain ⟨oa, ca, rfl⟩ := hl.form
  obtain ⟨ob, cb, rfl⟩ := hk.form
  by_cases h0 : a0 < 0 ∨ 32768 < a0
  · clear hl hk
    go_enter Try.func4, Try.ntmps4
    go_wp2_with fail
    refine (new_bad a0 h0 w).mono ?_
    rintro e w1 ⟨rfl, rfl⟩
    go_wp2_with fail
    refine (awake_any _).mono ?_
    rintro e w2 ⟨rfl, hb2⟩
    go_wp2
    go_ret
    exact ⟨rfl, hb2⟩
  obtain ⟨n, rfl⟩ : ∃ n : Nat, a0 = n := ⟨a0.toNat, by omega⟩
  have hn : n ≤ 32768 := by omega
  clear h0
  by_cases h1 : (40 : Int) < n
  · clear hl hk
    go_enter Try.func4, Try.ntmps4
    go_wp2_with fail
    refine (new_on n hn w).mono ?_
    rintro e w1 ⟨B, rfl, hp, hb⟩
    go_wp2_with fail
    refine (awake_any _).mono ?_
    rintro e w2 ⟨rfl, hb2⟩
    have HT : Hid (Below w.heap.size w w2) := hb.trans (hb2.mono hb.size)
    clear hp hb hb2
    go_wp2
    go_ret
    exact ⟨rfl, HT.out⟩
  have HL : Hid (Ops w (.slice oa l.length ca) l) := hl
  have HK : Hid (Bools w (fun k => w.heap.size ≤ k) (.slice ob k.length cb) k) := hk
  clear hl hk
  obtain ⟨J, hJ, hcase⟩ : ∃ J, (J ≤ l.length ∧ J ≤ 60) ∧ ((¬ (J : Int) < (l.length : Nat)) ∨ ((J : Int) < (l.length : Nat) ∧ ¬ (J : Int) < 60)) := ⟨min l.length 60, by omega, by omega⟩
  have HOP : Hid (∀ j, j < J → ∃ g o, oa = some ⟨g, o, none⟩ ∧ g < w.heap.size ∧ OpAt w g (o + j * 5) (l.getD j default)) := fun j hj => by
    obtain ⟨g, o, e, hg, hx⟩ := HL.out.get (by omega)
    exact ⟨g, o, e, hg, hx j _ (by rw [List.getD_eq_getElem?_getD, List.getElem?_eq_getElem (by omega)]; rfl)⟩
  have HW1 : Hid (∀ j, Whole n (firstS n l j) ∧ (firstS n l j).wait.length ≤ j) := first_whole n l
  rcases hcase with hcs | ⟨hcs, hcs2⟩
  all_goals
    go_enter Try.func4, Try.ntmps4
    go_wp2_with fail
    refine (new_on n hn w).mono ?_
    rintro e wa ⟨B, rfl, hp, hT⟩
    have HB : Hid (OnB w.heap.size wa B (firstS n l 0) ∧ Below w.heap.size w wa) := ⟨hp, hT⟩
    clear hp hT
    go_wp2_with fail
    go_loopw [9] (fun v wr => ∃ j : Nat, j ≤ J ∧ v = .int .i64 j ∧ OnB w.heap.size wr B (firstS n l j) ∧ Below w.heap.size w wr) (fun v _ => J - (intOf v).toNat)
    case atStart => exact ⟨0, Nat.zero_le _, rfl, HB.out.1, HB.out.2⟩
    case round =>
      clear HB
      obtain ⟨j, hj, rfl, hp, hT⟩ := hrel
      by_cases hlt : j < J
      · have j1 : (j : Int) < (l.length : Nat) := by omega
        have j2 : (j : Int) < 60 := by omega
        obtain ⟨g, o, rfl, hg, hop⟩ := HOP.out j hlt
        have HX : Hid (∀ w', Below w.heap.size w w' → w'.cell? ⟨g, o + j * 5 + 1, none⟩ = some (.int .i64 (l.getD j default).at_) ∧ w'.cell? ⟨g, o + j * 5 + 3, none⟩ = some (.int .u8 ((l.getD j default).v : Nat))) := fun w' h => ⟨(hop.later hg h).2.1, (hop.later hg h).2.2.2.1⟩
        have HN : Hid (writeP (firstS n l j) (l.getD j default).at_ (fillS (l.getD j default).v 64) = firstS n l (j + 1)) := rfl
        clear hop hg
        generalize (l.getD j default).at_ = at_ at *
        generalize (l.getD j default).v = vv at *
        obtain ⟨c1, c3⟩ := HX.out wr hT
        have hbt : ∀ w, Calls Try.prog 14 #[.int .u8 (vv : Nat), .int .i64 64] w fun e w' => e = .returned (.string (fillS vv 64)) ∧ Below w.heap.size w w' := bytes_any vv 64 (by decide)
        have hle := (HW1.out j).2
        go_wp2_with fail
        go_region_held3 (fun w' => w'.cell? ⟨g, o + j * 5 + 1, none⟩ = some (.int .i64 at_) ∧ w'.cell? ⟨g, o + j * 5 + 3, none⟩ = some (.int .u8 (vv : Nat))) (first | exact HX.out _ hTB | exact HX.out _ hTA | exact ⟨c1, c3⟩) (first | (go_at_call 14; refine (hbt _).mono ?_; rintro e wA ⟨rfl, hA⟩; have hpA : OnB w.heap.size wA B (firstS n l j) := OnB.below (w := wr.drew) (hp.below (Below.refl _ _).drew) hA; have hTA : Below w.heap.size w wA := hT.drew.trans (hA.mono hT.size)) | (go_at_call 15; refine (write_on _ B _ at_ (fillS vv 64) _ hpA (by omega)).mono ?_; rintro e wB ⟨rfl, hpB, hB⟩; rw [HN.out] at hpB; have hTB : Below w.heap.size w wB := hTA.trans hB))
        have HF : Hid (OnB w.heap.size wB B (firstS n l (j + 1)) ∧ Below w.heap.size w wB) := ⟨hpB, hTB⟩
        clear hp hT hpA hTA hA hpB hTB hB c1 c3 hle
        generalize writeE (firstS n l j) at_ (fillS vv 64) = z1
        go_wp2
        go_roundw
        case rel => exact ⟨j + 1, by omega, by go_num, HF.out.1, HF.out.2⟩
        case measure => simp [intOf]; omega
      · obtain rfl : j = J := by omega
        have hle := (HW1.out j).2
        have hwh := (HW1.out j).1
        go_wp2_with fail
        refine (flush_on _ B _ wr hp (by omega)).mono ?_
        rintro e wf ⟨rfl, hpf, hf⟩
        obtain ⟨Sf, hSf⟩ : ∃ Sf, Sf = flushP (firstS n l j) := ⟨_, rfl⟩
        have hwSf : Whole n Sf ∧ Sf.wait = [] := by
          rw [hSf, flushP, if_pos hwh.up]
          exact ⟨hwh.settle _, rfl⟩
        rw [← hSf] at hpf
        generalize flushE (firstS n l j) = z2
        have HF0 : Hid (OnB w.heap.size wf B Sf ∧ Below w.heap.size w wf ∧ Whole n Sf ∧ Sf.wait = []) := ⟨hpf, hT.trans hf, hwSf.1, hwSf.2⟩
        clear hp hT hle hwh hpf hf hSf hwSf HW1
        generalize wr = wr0 at *
        go_wp2_with fail
        go_loopw [10, 11] (fun u v wq => ∃ i : Nat, i ≤ n ∧ v = .int .i64 i ∧ wq.ownsRow wf.heap.size 9 1 u i (wasC Sf i) ∧ Below wf.heap.size wf wq) (fun _ v _ => n - (intOf v).toNat)
        case atStart => exact ⟨0, Nat.zero_le _, rfl, World.ownsRow_nil _ _ _ _, Below.refl _ _⟩
        case round =>
          obtain ⟨i, hi, rfl, hown, hb⟩ := hrel
          by_cases hlt : i < n
          · have i1 : (i : Int) < n := by omega
            obtain ⟨q0, hq, hz0, hz1, hz2⟩ := info_parts info_string
            have hheld := held_on w.heap.size B Sf i wr (HF0.out.1.below hb)
            have HS : Hid (wasC Sf (i + 1) = wasC Sf i ++ [.string (heldS Sf (i : Nat))]) := wasC_succ Sf i
            generalize heldS Sf i = hs at *
            generalize heldE Sf i = he at *
            have HR : Hid (wr.ownsRow wf.heap.size 9 1 u10 i (wasC Sf i) ∧ Below wf.heap.size wf wr) := ⟨hown, hb⟩
            clear hown hb
            go_wp2_with fail
            refine hheld.mono ?_
            rintro e wg ⟨rfl, rfl⟩
            clear hheld
            go_wp2_with (first | (at_builtin; refine wpList_append_own _ rfl _ _ 42 rfl wf.heap.size 9 q0 (.string ⟨#[]⟩) 1 16 Try.underlying42 hq hz0 hz1 hz2 rfl (by decide) u10 i _ rfl (HR.out.1.alloc _) ⟨wg.heap.size, 0, none⟩ 1 1 [.string hs] rfl rfl (World.news_of_block (heap_alloc_new wg _)) ?c2 ?c3 ?c4 ?c5 ?_))
            case c2 => intro u hu; rw [List.mem_singleton] at hu; rw [hu]; rfl
            case c3 => unfold maxLen; omega
            case c4 => omega
            case c5 => exact Nat.le_trans HR.out.2.size (by simp)
            intro v' w5 hown5 hgrow5 _
            have hb5 : Below wf.heap.size wf w5 := (HR.out.2.alloc HR.out.2.size _).grown hgrow5 (Nat.le_trans HR.out.2.size (by simp)) (fun k hk => (HR.out.1.lt k hk).1)
            have HF : Hid (w5.ownsRow wf.heap.size 9 1 v' (i + 1) (wasC Sf (i + 1)) ∧ Below wf.heap.size wf w5) := ⟨by rw [HS.out]; exact hown5, hb5⟩
            clear hown5 hgrow5 hb5 HR HS
            go_wp2
            go_roundw
            case rel => exact ⟨i + 1, by omega, by go_num, HF.out.1, HF.out.2⟩
            case measure => simp [intOf]; omega
          · obtain rfl : i = n := by omega
            have hmk := run_make_row' (P := Try.prog) 31 4 (.bool false) 1 Try.underlying31 info_bool rfl .i64 .i64 i (by omega) (by omega)
            have hrw : Row (wr.alloc (.cells (madeCells #[.bool false] i) 4)) wr.heap.size 4 (rowF i fun k => .bool (wroteB Sf l 0 k)) := (made_row (heap_alloc_new wr _)).congr (wrote_zero Sf l i)
            have hb4 : Below wf.heap.size wf (wr.alloc (.cells (madeCells #[.bool false] i) 4)) := hb.alloc hb.size _
            have hown4 := hown.alloc (.cells (madeCells #[.bool false] i) 4)
            have hsz4 : (wr.alloc (.cells (madeCells #[.bool false] i) 4)).heap.size = wr.heap.size + 1 := by simp
            obtain ⟨ms, hms⟩ : ∃ ms, madeCells #[.bool false] i = ms := ⟨_, rfl⟩
            rw [hms] at hrw hb4 hown4 hsz4
            simp only [hms] at hmk
            obtain ⟨w4, hw4⟩ : ∃ w4, wr.alloc (.cells ms 4) = w4 := ⟨_, rfl⟩
            rw [hw4] at hrw hb4 hown4 hsz4
            have hlo : wf.heap.size ≤ wr.heap.size := hb.size
            obtain ⟨gW, hgW⟩ : ∃ gW, gW = wr.heap.size := ⟨_, rfl⟩
            rw [← hgW] at hrw hsz4 hlo
            have hG4 : OnG w.heap.size wf.heap.size (gW + 1) w4 B Sf := by
              obtain ⟨F, hpF, hF⟩ := HF0.out.1
              exact ⟨F, hpF.keep fun k hk _ => hb4.block k hk, fun k hk => ⟨(hF k hk).1, Nat.lt_of_lt_of_le (hF k hk).2 hb4.size, .inl (hF k hk).2⟩⟩
            have hT4 : Below w.heap.size w w4 := HF0.out.2.1.trans (hb4.mono HF0.out.2.1.size)
            have hblk : ∀ g, u10.ownBlock = some g → wf.heap.size ≤ g ∧ g < gW := fun g hg => by
              have := hown.lt g hg
              omega
            have HI : Hid (OnG w.heap.size wf.heap.size (gW + 1) w4 B (secondS Sf l 0) ∧ Row w4 gW 4 (rowF i fun k => .bool (wroteB Sf l 0 k)) ∧ w4.ownsRow 0 9 1 u10 i (wasC Sf i) ∧ Below w.heap.size w w4 ∧ gW + 1 ≤ w4.heap.size) := ⟨hG4, hrw, owns_zero hown4, hT4, by omega⟩
            have HBK : Hid (∀ g, u10.ownBlock = some g → wf.heap.size ≤ g ∧ g < gW) := hblk
            have HSW : Hid (∀ m, Whole i (secondS Sf l m) ∧ (secondS Sf l m).wait.length ≤ m ∧ (secondS Sf l m).kept = Sf.kept) := fun m => ⟨(second_whole l HF0.out.2.2.1 HF0.out.2.2.2 m).1, (second_whole l HF0.out.2.2.1 HF0.out.2.2.2 m).2.1, (second_whole l HF0.out.2.2.1 HF0.out.2.2.2 m).2.2.1⟩
            have HRD : Hid (∀ (r : Int) (q : Nat), q < i → readE { startP k (secondS Sf l j) with reads := r } q = 0 ∧ (wroteB Sf l j q = false → readS { startP k (secondS Sf l j) with reads := r } q = heldS Sf q)) := fun r q hq => keeps_read l k HF0.out.2.2.1 HF0.out.2.2.2 j q r hq
            have hn0 : (0 : Int) ≤ i := by omega
            have hgWr : wr.heap.size = gW := hgW.symm
            clear hrw hb4 hown4 hsz4 hG4 hT4 hblk hown hb hgW hms
            go_wp2_with fail
            try rw [hgWr]
            clear hmk hw4 hgWr
            generalize wr = wr1 at *
            have hbg : w.heap.size ≤ gW := Nat.le_trans HF0.out.2.1.size hlo
            generalize wf.heap.size = lo at *
            go_loopw [15] (fun v wq => ∃ m : Nat, m ≤ j ∧ v = .int .i64 m ∧ OnG w.heap.size lo (gW + 1) wq B (secondS Sf l m) ∧ Row wq gW 4 (rowF i fun k => .bool (wroteB Sf l m k)) ∧ wq.ownsRow 0 9 1 u10 i (wasC Sf i) ∧ Below w.heap.size w wq ∧ gW + 1 ≤ wq.heap.size) (fun v _ => j - (intOf v).toNat)
            case atStart => exact ⟨0, Nat.zero_le _, rfl, HI.out.1, HI.out.2.1, HI.out.2.2.1, HI.out.2.2.2.1, HI.out.2.2.2.2⟩
            case round =>
              clear HI
              obtain ⟨m, hm, rfl, hG, hR, hO, hT, hH⟩ := hrel
              by_cases hlt : m < j
              · have j1 : (m : Int) < (l.length : Nat) := by omega
                have j2 : (m : Int) < 60 := by omega
                have hle := (HSW.out m).2.1
                by_cases hev : m % 2 = 0
                · have e1 : (m : Int) % 2 = 0 := by omega
                  have e2 : (m : Int).tmod 2 = 0 := by rw [Int.tmod_eq_emod_of_nonneg (by omega)]; exact e1
                  obtain ⟨g, o, rfl, hg, hop⟩ := HOP.out m (by omega)
                  have HX : Hid (∀ w', Below w.heap.size w w' → w'.cell? ⟨g, o + m * 5 + 1, none⟩ = some (.int .i64 (l.getD m default).at_) ∧ w'.cell? ⟨g, o + m * 5 + 3, none⟩ = some (.int .u8 ((l.getD m default).v : Nat))) := fun w' h => ⟨(hop.later hg h).2.1, (hop.later hg h).2.2.2.1⟩
                  have HN : Hid (secondS Sf l (m + 1) = writeP (secondS Sf l m) (l.getD m default).at_ (fillS (((l.getD m default).v + 1) % 256) 64)) := second_even hev
                  have HS1 : Hid (writeE (secondS Sf l m) (l.getD m default).at_ (fillS (((l.getD m default).v + 1) % 256) 64) = 0 → ∀ k, wroteB Sf l (m + 1) k = if k = (l.getD m default).at_.toNat then true else wroteB Sf l m k) := fun he => wrote_step hev he
                  have HS2 : Hid (¬ writeE (secondS Sf l m) (l.getD m default).at_ (fillS (((l.getD m default).v + 1) % 256) 64) = 0 → ∀ k, wroteB Sf l (m + 1) k = wroteB Sf l m k) := fun he => wrote_skip fun x => he x.2
                  clear hop hg
                  generalize (l.getD m default).at_ = at_ at *
                  generalize (l.getD m default).v = vv at *
                  obtain ⟨c1, c3⟩ := HX.out wr hT
                  have hbt : ∀ w, Calls Try.prog 14 #[.int .u8 (((vv + 1) % 256 : Nat) : Int), .int .i64 64] w fun e w' => e = .returned (.string (fillS ((vv + 1) % 256) 64)) ∧ Below w.heap.size w w' := bytes_any ((vv + 1) % 256) 64 (by decide)
                  obtain ⟨vx, hvx⟩ : ∃ vx, vx = (vv + 1) % 256 := ⟨_, rfl⟩
                  have hwr8 : IntKind.u8.wrap ((vv : Int) + 1) = (vx : Int) := by rw [hvx]; simp [IntKind.wrap, IntKind.signed, IntKind.bits]
                  rw [← hvx] at hbt HN HS1 HS2
                  clear hvx
                  have HG : Hid (OnG w.heap.size lo (gW + 1) wr B (secondS Sf l m) ∧ Row wr gW 4 (rowF i fun k => .bool (wroteB Sf l m k)) ∧ wr.ownsRow 0 9 1 u10 i (wasC Sf i) ∧ Below w.heap.size w wr ∧ gW + 1 ≤ wr.heap.size) := ⟨hG, hR, hO, hT, hH⟩
                  clear hG hR hO hT hH
                  have hgap : lo ≤ gW ∧ gW < gW + 1 := ⟨hlo, Nat.lt_succ_self _⟩
                  go_wp2_with fail
                  go_region_held3 (fun w' => w'.cell? ⟨g, o + m * 5 + 1, none⟩ = some (.int .i64 at_) ∧ w'.cell? ⟨g, o + m * 5 + 3, none⟩ = some (.int .u8 (vv : Nat))) (first | exact HX.out _ hTB | exact HX.out _ hTA | exact ⟨c1, c3⟩) (first | (go_at_call 14; refine (hbt _).mono ?_; rintro e wA ⟨rfl, hA⟩; have hpA : OnG w.heap.size lo (gW + 1) wA B (secondS Sf l m) := OnG.below (w := wr.drew) (HG.out.1.below (Below.refl _ _).drew) hA; have hTA : Below w.heap.size w wA := HG.out.2.2.2.1.drew.trans (hA.mono HG.out.2.2.2.1.size)) | (go_at_call 15; refine (write_og _ _ _ B _ at_ (fillS vx 64) _ (Nat.le_trans HG.out.2.2.2.2 hA.size) hpA (by omega)).mono ?_; rintro e wB ⟨rfl, hpB, hB, hsB⟩; have hTB : Below w.heap.size w wB := hTA.trans hB))
                  have c1' := (HX.out wB hTB).1
                  have rB : Row wB gW 4 (rowF i fun k => .bool (wroteB Sf l m k)) := (hsB gW hgap.1 hgap.2).trans ((hA.block gW (Nat.lt_of_lt_of_le hgap.2 HG.out.2.2.2.2)).trans HG.out.2.1)
                  have oB : wB.ownsRow 0 9 1 u10 i (wasC Sf i) := owns_keep HG.out.2.2.1 fun g' hg' => (hsB g' (HBK.out g' hg').1 (Nat.lt_succ_of_lt (HBK.out g' hg').2)).trans (hA.block g' (Nat.lt_of_lt_of_le (Nat.lt_succ_of_lt (HBK.out g' hg').2) HG.out.2.2.2.2))
                  have hHB : gW + 1 ≤ wB.heap.size := Nat.le_trans HG.out.2.2.2.2 (Nat.le_trans hA.size hB.size)
                  rw [← HN.out] at hpB
                  clear hA hpA hTA hB hsB c1 c3 HG hbt
                  by_cases hE : writeE (secondS Sf l m) at_ (fillS vx 64) = 0
                  · have hrange := writeE_has hE
                    rw [(HSW.out m).1.len] at hrange
                    obtain ⟨a, rfl⟩ : ∃ a : Nat, at_ = a := ⟨at_.toNat, by omega⟩
                    have ha : a < i := by omega
                    have ha1 : (a : Int) < i := by omega
                    have cW := rB.cellF a ha
                    have fW : wB.frozen? ⟨gW, a, none⟩ = false := rB.frozen a
                    have HF : Hid (OnG w.heap.size lo (gW + 1) (wB.setCell ⟨gW, a, none⟩ (.bool true)) B (secondS Sf l (m + 1)) ∧ Row (wB.setCell ⟨gW, a, none⟩ (.bool true)) gW 4 (rowF i fun k => .bool (wroteB Sf l (m + 1) k)) ∧ (wB.setCell ⟨gW, a, none⟩ (.bool true)).ownsRow 0 9 1 u10 i (wasC Sf i) ∧ Below w.heap.size w (wB.setCell ⟨gW, a, none⟩ (.bool true)) ∧ gW + 1 ≤ (wB.setCell ⟨gW, a, none⟩ (.bool true)).heap.size) := by
                      refine ⟨hpB.off hgap.1 hgap.2, (rB.setF a (.bool true)).congr (rowF_congr fun q _ => ?_), owns_off oB (fun e => absurd (HBK.out gW e).2 (Nat.lt_irrefl _)) _ _, hTB.setCell (p := ⟨gW, a, none⟩) hbg _, by simpa using hHB⟩
                      rw [HS1.out hE q, Int.toNat_natCast]
                      split <;> rfl
                    rw [hE]
                    clear hpB rB oB hTB hHB hE HS1 HS2 HX
                    generalize wroteB Sf l m a = oldb at cW
                    go_wp2
                    go_roundw
                    case rel => exact ⟨m + 1, by omega, by go_num, HF.out.1, HF.out.2.1, HF.out.2.2.1, HF.out.2.2.2.1, HF.out.2.2.2.2⟩
                    case measure => simp [intOf]; omega
                  · have HF : Hid (OnG w.heap.size lo (gW + 1) wB B (secondS Sf l (m + 1)) ∧ Row wB gW 4 (rowF i fun k => .bool (wroteB Sf l (m + 1) k)) ∧ wB.ownsRow 0 9 1 u10 i (wasC Sf i) ∧ Below w.heap.size w wB ∧ gW + 1 ≤ wB.heap.size) := ⟨hpB, rB.congr (rowF_congr fun q _ => by rw [HS2.out hE q]), oB, hTB, hHB⟩
                    generalize writeE (secondS Sf l m) at_ (fillS vx 64) = z9 at *
                    clear hpB rB oB hTB hHB HS1 HS2 HX
                    go_wp2
                    go_roundw
                    case rel => exact ⟨m + 1, by omega, by go_num, HF.out.1, HF.out.2.1, HF.out.2.2.1, HF.out.2.2.2.1, HF.out.2.2.2.2⟩
                    case measure => simp [intOf]; omega
                · have e1 : (m : Int) % 2 = 1 := by omega
                  have e2 : (m : Int).tmod 2 = 1 := by rw [Int.tmod_eq_emod_of_nonneg (by omega)]; exact e1
                  have HF : Hid (∀ q, OnG w.heap.size lo (gW + 1) (wr.drewN q) B (secondS Sf l (m + 1)) ∧ Row (wr.drewN q) gW 4 (rowF i fun k => .bool (wroteB Sf l (m + 1) k)) ∧ (wr.drewN q).ownsRow 0 9 1 u10 i (wasC Sf i) ∧ Below w.heap.size w (wr.drewN q) ∧ gW + 1 ≤ (wr.drewN q).heap.size) := fun q => ⟨by rw [second_odd hev]; exact hG.below (bdrawN (Below.refl _ _) q), hR.congr (rowF_congr fun q _ => by rw [wrote_skip (fun x => hev x.1) q]), owns_keep hO fun _ _ => rfl, bdrawN hT q, hH⟩
                  clear hG hR hO hT hH
                  go_wp2_with fail
                  go_quiet (fail)
                  go_wp2
                  go_roundw
                  case rel => exact ⟨m + 1, by omega, by go_num, (HF.out _).1, (HF.out _).2.1, (HF.out _).2.2.1, (HF.out _).2.2.2.1, (HF.out _).2.2.2.2⟩
                  case measure => simp [intOf]; omega
              · obtain rfl : m = j := by omega
                have hkw : Bools wr (fun k => w.heap.size ≤ k) (.slice ob k.length cb) k := HK.out.touch ⟨hT.mono (Nat.zero_le _), fun q hq hn => hT.block q (by omega)⟩
                have hst := start_og _ _ _ B _ _ k wr hH hG (by have := (HSW.out m).2.1; omega) hkw
                have HG : Hid (Row wr gW 4 (rowF i fun k => .bool (wroteB Sf l m k)) ∧ wr.ownsRow 0 9 1 u10 i (wasC Sf i) ∧ Below w.heap.size w wr ∧ gW + 1 ≤ wr.heap.size) := ⟨hR, hO, hT, hH⟩
                have hgap : lo ≤ gW ∧ gW < gW + 1 := ⟨hlo, Nat.lt_succ_self _⟩
                clear hG hR hO hT hH hkw HK HL HOP
                go_wp2_with fail
                refine hst.mono ?_
                rintro e ws ⟨rfl, hps, hbs, hss⟩
                obtain ⟨Z, hZ⟩ : ∃ Z, Z = startP k (secondS Sf l m) := ⟨_, rfl⟩
                have hzw : Z.wait = [] := by rw [hZ]; rfl
                rw [← hZ] at hps HRD
                have hps' : OnG w.heap.size lo (gW + 1) ws B { Z with reads := Z.reads } := hps
                have HI : Hid ((∃ r : Int, OnG w.heap.size lo (gW + 1) ws B { Z with reads := r }) ∧ Row ws gW 4 (rowF i fun k => .bool (wroteB Sf l m k)) ∧ ws.ownsRow 0 9 1 u10 i (wasC Sf i) ∧ Below w.heap.size w ws ∧ gW + 1 ≤ ws.heap.size) := ⟨⟨_, hps'⟩, (hss gW hgap.1 hgap.2).trans HG.out.1, owns_keep HG.out.2.1 fun g' hg' => hss g' (HBK.out g' hg').1 (Nat.lt_succ_of_lt (HBK.out g' hg').2), HG.out.2.2.1.trans hbs, Nat.le_trans HG.out.2.2.2 hbs.size⟩
                clear hst hps hps' hbs hss HG hZ
                generalize wr = wr2 at *
                go_wp2_with fail
                go_loopw [16] (fun v wq => ∃ q : Nat, q ≤ i ∧ v = .int .i64 q ∧ (∃ r : Int, OnG w.heap.size lo (gW + 1) wq B { Z with reads := r }) ∧ Row wq gW 4 (rowF i fun k => .bool (wroteB Sf l m k)) ∧ wq.ownsRow 0 9 1 u10 i (wasC Sf i) ∧ Below w.heap.size w wq ∧ gW + 1 ≤ wq.heap.size) (fun v _ => i - (intOf v).toNat)
                case atStart => exact ⟨0, Nat.zero_le _, rfl, HI.out.1, HI.out.2.1, HI.out.2.2.1, HI.out.2.2.2.1, HI.out.2.2.2.2⟩
                case round =>
                  clear HI
                  obtain ⟨q, hq, rfl, ⟨r, hG⟩, hR, hO, hT, hH⟩ := hrel
                  by_cases hlt : q < i
                  · have q1 : (q : Int) < i := by omega
                    have hrd := read_og _ _ _ B _ (q : Int) wr hH hG (by show Z.wait.length ≤ _; rw [hzw]; simp)
                    obtain ⟨hE, hS⟩ := HRD.out r q hlt
                    rw [hE] at hrd
                    have hP : ∃ r' : Int, readP { Z with reads := r } q = { Z with reads := r' } := by
                      unfold readP
                      split
                      · split
                        · exact ⟨_, rfl⟩
                        · exact ⟨_, rfl⟩
                      · exact ⟨_, rfl⟩
                    obtain ⟨r', hP⟩ := hP
                    rw [hP] at hrd
                    have HG : Hid (Row wr gW 4 (rowF i fun k => .bool (wroteB Sf l m k)) ∧ wr.ownsRow 0 9 1 u10 i (wasC Sf i) ∧ Below w.heap.size w wr ∧ gW + 1 ≤ wr.heap.size) := ⟨hR, hO, hT, hH⟩
                    have HS : Hid (wroteB Sf l m q = false → readS { Z with reads := r } q = heldS Sf q) := hS
                    obtain ⟨g1, cap1, hu10, hgc, hcw⟩ := owns_form hO (by omega)
                    have HWC : Hid (∀ w' : World, (w'.ownsRow 0 9 1 u10 i (wasC Sf i)) → w'.cell? ⟨g1, q, none⟩ = some (.string (heldS Sf q))) := fun w' h => by
                      obtain ⟨g2, cap2, e2, _, hc2⟩ := owns_form h (by omega)
                      rw [hu10] at e2
                      cases e2
                      exact hc2 q _ (wasC_get Sf i q hlt)
                    clear hG hR hO hT hH hP hS hE hcw
                    generalize readS { Z with reads := r } q = rs at *
                    generalize heldS Sf q = hs at *
                    subst hu10
                    go_wp2_with fail
                    refine hrd.mono ?_
                    rintro e wt ⟨rfl, hpt, hbt, hst⟩
                    have rT : Row wt gW 4 (rowF i fun k => .bool (wroteB Sf l m k)) := (hst gW hgap.1 hgap.2).trans HG.out.1
                    have oT : wt.ownsRow 0 9 1 (.slice (some ⟨g1, 0, none⟩) i cap1) i (wasC Sf i) := owns_keep HG.out.2.1 fun g' hg' => hst g' (HBK.out g' hg').1 (Nat.lt_succ_of_lt (HBK.out g' hg').2)
                    have cW := rT.cellF q hlt
                    have cS := HWC.out wt oT
                    have HF : Hid ((∃ r : Int, OnG w.heap.size lo (gW + 1) wt B { Z with reads := r }) ∧ Row wt gW 4 (rowF i fun k => .bool (wroteB Sf l m k)) ∧ wt.ownsRow 0 9 1 (.slice (some ⟨g1, 0, none⟩) i cap1) i (wasC Sf i) ∧ Below w.heap.size w wt ∧ gW + 1 ≤ wt.heap.size) := ⟨⟨_, hpt⟩, rT, oT, HG.out.2.2.1.trans hbt, Nat.le_trans HG.out.2.2.2 hbt.size⟩
                    clear hrd hpt hbt hst rT oT HG HWC
                    cases hwb : wroteB Sf l m q
                    · rw [hwb] at cW
                      have heq := HS.out hwb
                      subst heq
                      clear hwb HS
                      go_wp2
                      go_roundw
                      case rel => exact ⟨q + 1, by omega, by go_num, HF.out.1, HF.out.2.1, HF.out.2.2.1, HF.out.2.2.2.1, HF.out.2.2.2.2⟩
                      case measure => simp [intOf]; omega
                    · rw [hwb] at cW
                      clear hwb HS
                      go_wp2
                      go_roundw
                      case rel => exact ⟨q + 1, by omega, by go_num, HF.out.1, HF.out.2.1, HF.out.2.2.1, HF.out.2.2.2.1, HF.out.2.2.2.2⟩
                      case measure => simp [intOf]; omega
                  · obtain rfl : q = i := by omega
                    go_wp2_with fail
                    refine (awake_any _).mono ?_
                    rintro e wz ⟨rfl, hk⟩
                    have HT : Hid (Below w.heap.size w wz) := hT.trans (hk.mono hT.size)
                    clear hk hT hR hO hG hH
                    go_wp2
                    go_ret
                    exact ⟨rfl, HT.out⟩
end Go.Proofs.Ytmnojmcbghdciaa
