/- The writer's zeros fills its text up with bytes 0 to so many bytes in all (up to 4096), and changes nothing else that was there. -/
import Derived.Test.YtlcadhojfnanfaaDoorWriter
import Derived.Deep.LoopGhost
namespace Go.Proofs.YtlcadhojfnanfaaDoor
set_option maxRecDepth 20000
open Go.RowKit Go.Lib

set_option maxRecDepth 10000 in
set_option maxHeartbeats 800000 in
theorem wzeros_any (b : Nat) (l : List UInt8) (e : Int) (all : Nat) (w : World) (h : Wr w 59 5 b l e) (hl : l.length ≤ all) (ha : all ≤ 4096) :
    Calls Tryd.prog 30 #[.pointer (some ⟨b, 0, none⟩), .int .i64 all] w fun en w' => en = .returned (.tuple #[]) ∧ Wr w' 59 5 b (l ++ List.replicate (all - l.length) 0) e ∧ Below b w w' := by
  obtain ⟨i0, hi, hz0, hz1, hz2⟩ := info_parts info5
  go_enter Tryd.func30, Tryd.ntmps30
  go_wp2
  go_loopg [4] (all - l.length) (fun g _ wr => ∃ j : Nat, g = all - l.length - j ∧ l.length + j ≤ all ∧ Wr wr 59 5 b (l ++ List.replicate j 0) e ∧ Below b w wr)
  case atStart => exact ⟨0, by omega, by omega, by simpa using h, Below.refl _ _⟩
  case round =>
    obtain ⟨j, hg, hj, hwr, hb⟩ := hrel
    have HG : Hid (gk = all - l.length - j) := hg
    clear hg h
    obtain ⟨v, hblk, hown⟩ := id hwr
    have hlt := lt_of_block hblk
    have hc0 := two_cell0 hblk
    have hex : ∃ a c, v = .slice a (l.length + j) c := by
      rcases hown.2 with ⟨h, h0⟩ | ⟨g, cap, cur, h, _⟩
      · rw [h]; simp at h0; exact ⟨none, 0, by simp [h0]⟩
      · rw [h]; exact ⟨some ⟨g, 0, none⟩, cap, by simp⟩
    obtain ⟨a, c, hv⟩ := hex
    rw [hv] at hblk hown hc0
    by_cases hlast : l.length + j < all
    · have i1 : ((l.length + j : Nat) : Int) < all := by omega
      rw [show (l ++ List.replicate j (0 : UInt8)).length = l.length + j by simp] at hown
      go_wp2_with (at_builtin; refine wpList_append_own _ rfl _ _ 46 rfl (b + 1) 5 i0 (.int .u8 0) 1 1 Tryd.underlying46 hi hz0 hz1 hz2 rfl (by decide) _ _ _ rfl (hown.alloc _) ⟨wr.heap.size, 0, none⟩ 1 1 [.int .u8 0] rfl rfl ?c1 ?c2 ?c3 ?c4 ?c5 ?_)
      case c1 => intro i u hi; match i, hi with | 0, hi => simp at hi; subst hi; simp [Addr.add]
      case c2 => intro u hu; simp at hu; subst hu; rfl
      case c3 => unfold maxLen; omega
      case c4 => omega
      case c5 => simp; omega
      intro v' w2 hown' hgrow _
      have hb2 : Below (b + 1) wr w2 := ((Below.refl _ _).alloc (by omega) _).grown hgrow (by simp; omega) (fun g hg => by
        rcases hown.2 with ⟨h, _⟩ | ⟨g', cap, cur, h, hg', _⟩
        · rw [h] at hg; simp [Value.ownBlock] at hg
        · rw [h] at hg; simp [Value.ownBlock] at hg; omega)
      have hblk2 : w2.heap[b]? = some (.cells #[.slice a (l.length + j) c, .int .i64 e] 59 (0, 0)) := by rw [hb2.block b (by omega)]; exact hblk
      clear hown hblk hgrow hc0
      have hex : ∃ a n c, v' = .slice a n c := by
        rcases hown'.2 with ⟨h, _⟩ | ⟨g, cap, cur, h, _⟩
        · exact ⟨_, _, _, h⟩
        · exact ⟨_, _, _, h⟩
      obtain ⟨a', n', c', hv'⟩ := hex
      rw [hv'] at hown' ⊢
      clear hv'
      have hf0 := two_free 0 hblk2
      have hc0 := two_cell0 hblk2
      have HB : Hid (w2.heap[b]? = some (.cells #[.slice a (l.length + j) c, .int .i64 e] 59 (0, 0))) := hblk2
      clear hblk2
      go_wp2
      go_roundg (all - l.length - (j + 1))
      case measure => rw [HG.out]; omega
      case rel =>
        refine ⟨j + 1, rfl, by omega, ⟨.slice a' n' c', two_set0 HB.out, ?_⟩, hb.trans ((hb2.mono (show b ≤ b + 1 by omega)).setCell (Nat.le_refl _) _)⟩
        have e1 : (l ++ List.replicate (j + 1) (0 : UInt8)).length = l.length + j + 1 := by simp; omega
        have e2 : byteCells (l ++ List.replicate (j + 1) 0) = byteCells (l ++ List.replicate j 0) ++ [.int .u8 0] := by
          rw [List.replicate_succ', ← List.append_assoc, ← byteCells_append]; rfl
        rw [e1, e2]
        exact ownsRow_setCell_below hown' (by show b < b + 1; omega) _
    · have hj2 : all - l.length = j := by omega
      have HJ : Hid (all - l.length = j) := hj2
      have i1 : ¬ ((l.length + j : Nat) : Int) < all := by omega
      clear hj2
      go_wp2
      go_end0
      exact ⟨rfl, by rw [HJ.out]; exact hwr, hb⟩
end Go.Proofs.YtlcadhojfnanfaaDoor
