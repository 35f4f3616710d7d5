/- box's state.mixed: a state behind its ten rounds. · box's state.block: the bytes of a block. -/
import Derived.Test.YtdhiopbomnfmnaaGreatDoorMg27
namespace Go.Proofs.YtdhiopbomnfmnaaGreatDoor.Bx
set_option maxRecDepth 20000
open Go.RowKit

/-- Words as values. -/
def wdV (l : List Nat) : List Value := l.map fun x => Value.int .u32 (x : Nat)
theorem wdV_get (l : List Nat) (i : Nat) (h : i < l.length) : (wdV l)[i]? = some (.int .u32 (l.getD i 0 : Nat)) := by
  rw [wdV, List.getElem?_map, List.getElem?_eq_getElem h, getD_at _ _ h]
  rfl
theorem quarter_let (a b c d : Nat) (hb : b < 4294967296) (hd : d < 4294967296) : ∃ a' b' c' d' : Nat, (a' = qA a b c d ∧ b' = qB a b c d ∧ c' = qC a b c d ∧ d' = qD a b c d) ∧ (a' < 4294967296 ∧ b' < 4294967296 ∧ c' < 4294967296 ∧ d' < 4294967296) ∧
    ∀ w, Calls Tryz.prog 162 #[.int .u32 a, .int .u32 b, .int .u32 c, .int .u32 d] w fun e w' => e = .returned (.tuple #[.int .u32 a', .int .u32 b', .int .u32 c', .int .u32 d']) ∧ w' = w :=
  ⟨_, _, _, _, ⟨rfl, rfl, rfl, rfl⟩, ⟨qA_lt _ _ _ _, qB_lt _ _ _ _, qC_lt _ _ _ _, qD_lt _ _ _ _⟩, fun w => quarter_any a b c d hb hd w⟩

set_option maxRecDepth 10000 in
set_option maxHeartbeats 4000000 in
theorem mixed_any (s : S16) (hs : s.ok) (g t : Nat) (w : World) (hr : Row w g t (wdV s.toL)) :
    Calls Tryz.prog 152 #[.pointer (some ⟨g, 0, none⟩)] w fun e w' => e = .returned (.agg (wdV (s.rounds 10).toL).toArray) ∧ Below w.heap.size w w' := by
  have hg := hr.lt
  have ea0 : w.cell? ⟨g, 0, none⟩ = some (.int .u32 (s.a0 : Nat)) := hr.cell 0
  have ea1 : w.cell? ⟨g, 1, none⟩ = some (.int .u32 (s.a1 : Nat)) := hr.cell 1
  have ea2 : w.cell? ⟨g, 2, none⟩ = some (.int .u32 (s.a2 : Nat)) := hr.cell 2
  have ea3 : w.cell? ⟨g, 3, none⟩ = some (.int .u32 (s.a3 : Nat)) := hr.cell 3
  have eb0 : w.cell? ⟨g, 4, none⟩ = some (.int .u32 (s.b0 : Nat)) := hr.cell 4
  have eb1 : w.cell? ⟨g, 5, none⟩ = some (.int .u32 (s.b1 : Nat)) := hr.cell 5
  have eb2 : w.cell? ⟨g, 6, none⟩ = some (.int .u32 (s.b2 : Nat)) := hr.cell 6
  have eb3 : w.cell? ⟨g, 7, none⟩ = some (.int .u32 (s.b3 : Nat)) := hr.cell 7
  have ec0 : w.cell? ⟨g, 8, none⟩ = some (.int .u32 (s.c0 : Nat)) := hr.cell 8
  have ec1 : w.cell? ⟨g, 9, none⟩ = some (.int .u32 (s.c1 : Nat)) := hr.cell 9
  have ec2 : w.cell? ⟨g, 10, none⟩ = some (.int .u32 (s.c2 : Nat)) := hr.cell 10
  have ec3 : w.cell? ⟨g, 11, none⟩ = some (.int .u32 (s.c3 : Nat)) := hr.cell 11
  have ed0 : w.cell? ⟨g, 12, none⟩ = some (.int .u32 (s.d0 : Nat)) := hr.cell 12
  have ed1 : w.cell? ⟨g, 13, none⟩ = some (.int .u32 (s.d1 : Nat)) := hr.cell 13
  have ed2 : w.cell? ⟨g, 14, none⟩ = some (.int .u32 (s.d2 : Nat)) := hr.cell 14
  have ed3 : w.cell? ⟨g, 15, none⟩ = some (.int .u32 (s.d3 : Nat)) := hr.cell 15
  clear hr
  have fa0 : ∀ o, (w.alloc o).cell? ⟨g, 0, none⟩ = some (.int .u32 (s.a0 : Nat)) := fun o => ((Below.refl _ _).alloc (Nat.le_refl _) _ |>.cell (p := ⟨g, 0, none⟩) hg).trans ea0
  have fa1 : ∀ o, (w.alloc o).cell? ⟨g, 1, none⟩ = some (.int .u32 (s.a1 : Nat)) := fun o => ((Below.refl _ _).alloc (Nat.le_refl _) _ |>.cell (p := ⟨g, 1, none⟩) hg).trans ea1
  have fa2 : ∀ o, (w.alloc o).cell? ⟨g, 2, none⟩ = some (.int .u32 (s.a2 : Nat)) := fun o => ((Below.refl _ _).alloc (Nat.le_refl _) _ |>.cell (p := ⟨g, 2, none⟩) hg).trans ea2
  have fa3 : ∀ o, (w.alloc o).cell? ⟨g, 3, none⟩ = some (.int .u32 (s.a3 : Nat)) := fun o => ((Below.refl _ _).alloc (Nat.le_refl _) _ |>.cell (p := ⟨g, 3, none⟩) hg).trans ea3
  have fb0 : ∀ o, (w.alloc o).cell? ⟨g, 4, none⟩ = some (.int .u32 (s.b0 : Nat)) := fun o => ((Below.refl _ _).alloc (Nat.le_refl _) _ |>.cell (p := ⟨g, 4, none⟩) hg).trans eb0
  have fb1 : ∀ o, (w.alloc o).cell? ⟨g, 5, none⟩ = some (.int .u32 (s.b1 : Nat)) := fun o => ((Below.refl _ _).alloc (Nat.le_refl _) _ |>.cell (p := ⟨g, 5, none⟩) hg).trans eb1
  have fb2 : ∀ o, (w.alloc o).cell? ⟨g, 6, none⟩ = some (.int .u32 (s.b2 : Nat)) := fun o => ((Below.refl _ _).alloc (Nat.le_refl _) _ |>.cell (p := ⟨g, 6, none⟩) hg).trans eb2
  have fb3 : ∀ o, (w.alloc o).cell? ⟨g, 7, none⟩ = some (.int .u32 (s.b3 : Nat)) := fun o => ((Below.refl _ _).alloc (Nat.le_refl _) _ |>.cell (p := ⟨g, 7, none⟩) hg).trans eb3
  have fc0 : ∀ o, (w.alloc o).cell? ⟨g, 8, none⟩ = some (.int .u32 (s.c0 : Nat)) := fun o => ((Below.refl _ _).alloc (Nat.le_refl _) _ |>.cell (p := ⟨g, 8, none⟩) hg).trans ec0
  have fc1 : ∀ o, (w.alloc o).cell? ⟨g, 9, none⟩ = some (.int .u32 (s.c1 : Nat)) := fun o => ((Below.refl _ _).alloc (Nat.le_refl _) _ |>.cell (p := ⟨g, 9, none⟩) hg).trans ec1
  have fc2 : ∀ o, (w.alloc o).cell? ⟨g, 10, none⟩ = some (.int .u32 (s.c2 : Nat)) := fun o => ((Below.refl _ _).alloc (Nat.le_refl _) _ |>.cell (p := ⟨g, 10, none⟩) hg).trans ec2
  have fc3 : ∀ o, (w.alloc o).cell? ⟨g, 11, none⟩ = some (.int .u32 (s.c3 : Nat)) := fun o => ((Below.refl _ _).alloc (Nat.le_refl _) _ |>.cell (p := ⟨g, 11, none⟩) hg).trans ec3
  have fd0 : ∀ o, (w.alloc o).cell? ⟨g, 12, none⟩ = some (.int .u32 (s.d0 : Nat)) := fun o => ((Below.refl _ _).alloc (Nat.le_refl _) _ |>.cell (p := ⟨g, 12, none⟩) hg).trans ed0
  have fd1 : ∀ o, (w.alloc o).cell? ⟨g, 13, none⟩ = some (.int .u32 (s.d1 : Nat)) := fun o => ((Below.refl _ _).alloc (Nat.le_refl _) _ |>.cell (p := ⟨g, 13, none⟩) hg).trans ed1
  have fd2 : ∀ o, (w.alloc o).cell? ⟨g, 14, none⟩ = some (.int .u32 (s.d2 : Nat)) := fun o => ((Below.refl _ _).alloc (Nat.le_refl _) _ |>.cell (p := ⟨g, 14, none⟩) hg).trans ed2
  have fd3 : ∀ o, (w.alloc o).cell? ⟨g, 15, none⟩ = some (.int .u32 (s.d3 : Nat)) := fun o => ((Below.refl _ _).alloc (Nat.le_refl _) _ |>.cell (p := ⟨g, 15, none⟩) hg).trans ed3
  clear ea0 ea1 ea2 ea3 eb0 eb1 eb2 eb3 ec0 ec1 ec2 ec3 ed0 ed1 ed2 ed3
  have HB : Hid (∀ o n1 n2 n3 n4, Below w.heap.size w (((((w.alloc o).drewN n1).drewN n2).drewN n3).drewN n4)) := fun o n1 n2 n3 n4 => (Below.refl _ _).alloc (Nat.le_refl _) o |>.trans ⟨rfl, rfl, rfl, Nat.le_refl _, fun _ _ => rfl⟩
  go_enter Tryz.func152, Tryz.ntmps152
  go_wp2_with fail
  go_quiet (fail)
  go_wp2_with fail
  go_quiet (fail)
  go_wp2_with fail
  go_quiet (fail)
  go_wp2_with fail
  go_quiet (fail)
  go_wp2_with fail
  clear fa0 fa1 fa2 fa3 fb0 fb1 fb2 fb3 fc0 fc1 fc2 fc3 fd0 fd1 fd2 fd3
  go_loopw [3, 4, 5, 6, 7, 8, 9, 10, 11, 12, 13, 14, 15, 16, 17, 18, 83] (fun va0 va1 va2 va3 vb0 vb1 vb2 vb3 vc0 vc1 vc2 vc3 vd0 vd1 vd2 vd3 i wr => ∃ a0 a1 a2 a3 b0 b1 b2 b3 c0 c1 c2 c3 d0 d1 d2 d3 j : Nat, j ≤ 10 ∧ S16.mk a0 a1 a2 a3 b0 b1 b2 b3 c0 c1 c2 c3 d0 d1 d2 d3 = s.rounds j ∧ (S16.mk a0 a1 a2 a3 b0 b1 b2 b3 c0 c1 c2 c3 d0 d1 d2 d3).ok ∧ Row wr w.heap.size 184 (wdV (List.replicate 16 0)) ∧ Below w.heap.size w wr ∧ i = .int .i64 j ∧ va0 = .int .u32 (a0 : Nat) ∧ va1 = .int .u32 (a1 : Nat) ∧ va2 = .int .u32 (a2 : Nat) ∧ va3 = .int .u32 (a3 : Nat) ∧ vb0 = .int .u32 (b0 : Nat) ∧ vb1 = .int .u32 (b1 : Nat) ∧ vb2 = .int .u32 (b2 : Nat) ∧ vb3 = .int .u32 (b3 : Nat) ∧ vc0 = .int .u32 (c0 : Nat) ∧ vc1 = .int .u32 (c1 : Nat) ∧ vc2 = .int .u32 (c2 : Nat) ∧ vc3 = .int .u32 (c3 : Nat) ∧ vd0 = .int .u32 (d0 : Nat) ∧ vd1 = .int .u32 (d1 : Nat) ∧ vd2 = .int .u32 (d2 : Nat) ∧ vd3 = .int .u32 (d3 : Nat)) (fun _ _ _ _ _ _ _ _ _ _ _ _ _ _ _ _ i _ => 10 - (intOf i).toNat)
  case atStart => exact ⟨s.a0, s.a1, s.a2, s.a3, s.b0, s.b1, s.b2, s.b3, s.c0, s.c1, s.c2, s.c3, s.d0, s.d1, s.d2, s.d3, 0, Nat.zero_le _, rfl, hs, heap_alloc_new w _, HB.out _ _ _ _ _, rfl, rfl, rfl, rfl, rfl, rfl, rfl, rfl, rfl, rfl, rfl, rfl, rfl, rfl, rfl, rfl, rfl⟩
  case round =>
    obtain ⟨a0, a1, a2, a3, b0, b1, b2, b3, c0, c1, c2, c3, d0, d1, d2, d3, j, hj, hT, hok, k0, hbw, rfl, rfl, rfl, rfl, rfl, rfl, rfl, rfl, rfl, rfl, rfl, rfl, rfl, rfl, rfl, rfl, rfl⟩ := hrel
    by_cases hlt : j < 10
    · obtain ⟨la0, la1, la2, la3, lb0, lb1, lb2, lb3, lc0, lc1, lc2, lc3, ld0, ld1, ld2, ld3⟩ := S16.ok_all hok
      obtain ⟨ua0, ub0, uc0, ud0, ⟨hua0, hub0, huc0, hud0⟩, ⟨lua0, lub0, luc0, lud0⟩, kq0⟩ := quarter_let a0 b0 c0 d0 lb0 ld0
      obtain ⟨ua1, ub1, uc1, ud1, ⟨hua1, hub1, huc1, hud1⟩, ⟨lua1, lub1, luc1, lud1⟩, kq1⟩ := quarter_let a1 b1 c1 d1 lb1 ld1
      obtain ⟨ua2, ub2, uc2, ud2, ⟨hua2, hub2, huc2, hud2⟩, ⟨lua2, lub2, luc2, lud2⟩, kq2⟩ := quarter_let a2 b2 c2 d2 lb2 ld2
      obtain ⟨ua3, ub3, uc3, ud3, ⟨hua3, hub3, huc3, hud3⟩, ⟨lua3, lub3, luc3, lud3⟩, kq3⟩ := quarter_let a3 b3 c3 d3 lb3 ld3
      obtain ⟨za0, zb1, zc2, zd3, ⟨hza0, hzb1, hzc2, hzd3⟩, ⟨_lza0, _lzb1, _lzc2, _lzd3⟩, kq4⟩ := quarter_let ua0 ub1 uc2 ud3 lub1 lud3
      obtain ⟨za1, zb2, zc3, zd0, ⟨hza1, hzb2, hzc3, hzd0⟩, ⟨_lza1, _lzb2, _lzc3, _lzd0⟩, kq5⟩ := quarter_let ua1 ub2 uc3 ud0 lub2 lud0
      obtain ⟨za2, zb3, zc0, zd1, ⟨hza2, hzb3, hzc0, hzd1⟩, ⟨_lza2, _lzb3, _lzc0, _lzd1⟩, kq6⟩ := quarter_let ua2 ub3 uc0 ud1 lub3 lud1
      obtain ⟨za3, zb0, zc1, zd2, ⟨hza3, hzb0, hzc1, hzd2⟩, ⟨_lza3, _lzb0, _lzc1, _lzd2⟩, kq7⟩ := quarter_let ua3 ub0 uc1 ud2 lub0 lud2
      have HN : Hid (S16.mk za0 za1 za2 za3 zb0 zb1 zb2 zb3 zc0 zc1 zc2 zc3 zd0 zd1 zd2 zd3 = s.rounds (j + 1)) := by
        show _ = (s.rounds j).cols.slants
        rw [← hT, hza0, hzb1, hzc2, hzd3, hza1, hzb2, hzc3, hzd0, hza2, hzb3, hzc0, hzd1, hza3, hzb0, hzc1, hzd2]
        rw [hua0, hub0, huc0, hud0, hua1, hub1, huc1, hud1, hua2, hub2, huc2, hud2, hua3, hub3, huc3, hud3]
        rfl
      have HO : Hid ((S16.mk za0 za1 za2 za3 zb0 zb1 zb2 zb3 zc0 zc1 zc2 zc3 zd0 zd1 zd2 zd3).ok) := by
        show (S16.mk za0 za1 za2 za3 zb0 zb1 zb2 zb3 zc0 zc1 zc2 zc3 zd0 zd1 zd2 zd3).ok
        rw [HN.out]
        exact S16.slants_ok _
      have HK : Hid (Row wr w.heap.size 184 (wdV (List.replicate 16 0)) ∧ Below w.heap.size w wr) := ⟨k0, hbw⟩
      clear k0 hbw hok hT hua0 hua1 hua2 hua3 hub0 hub1 hub2 hub3 huc0 huc1 huc2 huc3 hud0 hud1 hud2 hud3 hza0 hza1 hza2 hza3 hzb0 hzb1 hzb2 hzb3 hzc0 hzc1 hzc2 hzc3 hzd0 hzd1 hzd2 hzd3 la0 la1 la2 la3 lb0 lb1 lb2 lb3 lc0 lc1 lc2 lc3 ld0 ld1 ld2 ld3 lua0 lua1 lua2 lua3 lub0 lub1 lub2 lub3 luc0 luc1 luc2 luc3 lud0 lud1 lud2 lud3 _lza0 _lza1 _lza2 _lza3 _lzb0 _lzb1 _lzb2 _lzb3 _lzc0 _lzc1 _lzc2 _lzc3 _lzd0 _lzd1 _lzd2 _lzd3
      go_wp2_with fail
      refine (kq0 _).mono ?_
      rintro e w' ⟨rfl, rfl⟩
      clear kq0
      go_wp2_with fail
      refine (kq1 _).mono ?_
      rintro e w' ⟨rfl, rfl⟩
      clear kq1
      go_wp2_with fail
      refine (kq2 _).mono ?_
      rintro e w' ⟨rfl, rfl⟩
      clear kq2
      go_wp2_with fail
      refine (kq3 _).mono ?_
      rintro e w' ⟨rfl, rfl⟩
      clear kq3
      go_wp2_with fail
      refine (kq4 _).mono ?_
      rintro e w' ⟨rfl, rfl⟩
      clear kq4
      go_wp2_with fail
      refine (kq5 _).mono ?_
      rintro e w' ⟨rfl, rfl⟩
      clear kq5
      go_wp2_with fail
      refine (kq6 _).mono ?_
      rintro e w' ⟨rfl, rfl⟩
      clear kq6
      go_wp2_with fail
      refine (kq7 _).mono ?_
      rintro e w' ⟨rfl, rfl⟩
      clear kq7
      go_wp2
      go_roundw
      case rel => exact ⟨za0, za1, za2, za3, zb0, zb1, zb2, zb3, zc0, zc1, zc2, zc3, zd0, zd1, zd2, zd3, j + 1, by omega, HN.out, HO.out, HK.out.1, HK.out.2, by go_num, rfl, rfl, rfl, rfl, rfl, rfl, rfl, rfl, rfl, rfl, rfl, rfl, rfl, rfl, rfl, rfl⟩
      case measure => simp [intOf]; omega
    · obtain rfl : j = 10 := by omega
      have HT : Hid (wdV (s.rounds 10).toL = wdV (S16.mk a0 a1 a2 a3 b0 b1 b2 b3 c0 c1 c2 c3 d0 d1 d2 d3).toL) := by rw [Hid, ← hT]
      clear hT hok hs HB
      obtain ⟨ds, hds⟩ : ∃ ds : Array Value, ds = (wdV (S16.mk a0 a1 a2 a3 b0 b1 b2 b3 c0 c1 c2 c3 d0 d1 d2 d3).toL).toArray := ⟨_, rfl⟩
      have hds' : #[Value.int .u32 a0, Value.int .u32 a1, Value.int .u32 a2, Value.int .u32 a3, Value.int .u32 b0, Value.int .u32 b1, Value.int .u32 b2, Value.int .u32 b3, Value.int .u32 c0, Value.int .u32 c1, Value.int .u32 c2, Value.int .u32 c3, Value.int .u32 d0, Value.int .u32 d1, Value.int .u32 d2, Value.int .u32 d3] = ds := by rw [hds]; rfl
      have hsz : ds.size = 16 := by rw [hds]; rfl
      have hone : ds.all (·.oneCell') = true := by rw [hds]; simp [wdV, Value.oneCell']
      have k0' : wr.heap[w.heap.size]? = some (.cells (wdV (List.replicate 16 0)).toArray 184 (0, 0)) := k0
      have hs0 : (wdV (List.replicate 16 0)).toArray.size = ds.size := by rw [hsz]; rfl
      have hinfo : (Tryz.prog.info? 184).map (·.size) = some ds.size := by rw [hsz]; kernel_rfl
      have hba := below_rowH hbw (Nat.le_refl _) ds
      have hl0 := run_loadVar_row (P := Tryz.prog) (wr.setRow w.heap.size ds) w.heap.size 184 184 ds (0, 0) _ (setRow_heap _ _ _ _ _ _ k0') Tryz.underlying184 rfl hinfo
      have HDS : Hid (ds = (wdV (S16.mk a0 a1 a2 a3 b0 b1 b2 b3 c0 c1 c2 c3 d0 d1 d2 d3).toL).toArray) := hds
      clear hds k0 hbw
      go_wp2_with (refine wpList_store_row rfl 184 _ _ rfl w.heap.size ds rfl rfl 184 _ k0' hinfo hs0 hone ?_)
      exact bodyPost_ret (v := .agg ds) (by simp [results, Tryz.results152, asAddr, Act.put, hl0]) rfl ⟨by rw [HDS.out, HT.out], hba⟩
end Go.Proofs.YtdhiopbomnfmnaaGreatDoor.Bx

namespace Go.Proofs.YtdhiopbomnfmnaaGreatDoor.Bx
set_option maxRecDepth 20000
open Go.RowKit

theorem le4_get (W i : Nat) : (le4 W).getD i 0 = if i = 0 then W % 256 else if i = 1 then W / 256 % 256 else if i = 2 then W / 65536 % 256 else if i = 3 then W / 16777216 % 256 else 0 := by
  match i with
  | 0 => rfl
  | 1 => rfl
  | 2 => rfl
  | 3 => rfl
  | i + 4 => rw [if_neg (by omega), if_neg (by omega), if_neg (by omega), if_neg (by omega)]; rfl
theorem blk_step (s : S16) (j k : Nat) :
    (if k = 4 * j + 3 then blkW s j / 16777216 % 256 else if k = 4 * j + 2 then blkW s j / 65536 % 256 else if k = 4 * j + 1 then blkW s j / 256 % 256 else if k = 4 * j then blkW s j % 256 else (blkN s j).getD k 0) = (blkN s (j + 1)).getD k 0 := by
  have hl := blkN_length s j
  rw [blkN]
  by_cases h : k < 4 * j
  · rw [getD_left _ _ _ _ (by omega), if_neg (by omega), if_neg (by omega), if_neg (by omega), if_neg (by omega)]
  · rw [getD_right _ _ _ _ (by omega), hl, getD_beyond (blkN s j) _ (by omega), le4_get]
    by_cases h0 : k = 4 * j
    · rw [if_neg (by omega), if_neg (by omega), if_neg (by omega), if_pos h0, if_pos (by omega)]
    · by_cases h1 : k = 4 * j + 1
      · rw [if_neg (by omega), if_neg (by omega), if_pos h1, if_neg (by omega), if_pos (by omega)]
      · by_cases h2 : k = 4 * j + 2
        · rw [if_neg (by omega), if_pos h2, if_neg (by omega), if_neg (by omega), if_pos (by omega)]
        · by_cases h3 : k = 4 * j + 3
          · rw [if_pos h3, if_neg (by omega), if_neg (by omega), if_neg (by omega), if_pos (by omega)]
          · rw [if_neg h3, if_neg h2, if_neg h1, if_neg h0, if_neg (by omega), if_neg (by omega), if_neg (by omega), if_neg (by omega)]
/-- A row of 64 bytes, of which the first ones are told. -/
def blkF (l : List Nat) (k : Nat) : Value := .int .u8 (l.getD k 0 : Nat)
theorem le4_bytes (n : Nat) : Bytes (le4 n) := by
  intro x hx
  simp only [le4, List.mem_cons, List.not_mem_nil, or_false] at hx
  omega
theorem blkN_bytes (s : S16) : ∀ n, Bytes (blkN s n)
  | 0 => fun x hx => by simp [blkN] at hx
  | n + 1 => (blkN_bytes s n).append (le4_bytes _)
theorem blkL_bytes (s : S16) : Bytes (blkL s) := blkN_bytes s 16
theorem blkF_all (s : S16) : rowF 64 (blkF (blkN s 16)) = byV (blkL s) := by
  rw [byV_rowF, blkL_length]
  rfl
theorem toL_get (s : S16) (i : Nat) (h : i < 16) : (wdV s.toL)[i]? = some (.int .u32 (s.toL.getD i 0 : Nat)) := wdV_get _ _ (by rw [S16.toL_length]; exact h)
theorem index_state (cs : Array Value) (j : Nat) (v : Value) (hj : j < 16) (hv : cs[j]? = some v) (w : World) : (Instr.index 184 (.agg cs) (.int .i64 j)).run Tryz.prog w = .ok v w := by
  simp [Instr.index, run_underlying Tryz.underlying184, asIntOf, hj, hv, go_sem]
theorem blkW_add (s : S16) (i : Nat) : IntKind.u32.wrap (((s.rounds 10).toL.getD i 0 : Nat) + (s.toL.getD i 0 : Nat)) = (blkW s i : Nat) := by
  rw [add_u32]; rfl
theorem blkW_lt (s : S16) (i : Nat) : blkW s i < 4294967296 := Nat.mod_lt _ (by decide)
/-- A state with another number of a block. -/
def S16.at (s : S16) (n : Nat) : S16 := ⟨s.a0, s.a1, s.a2, s.a3, s.b0, s.b1, s.b2, s.b3, s.c0, s.c1, s.c2, s.c3, n, s.d1, s.d2, s.d3⟩
theorem S16.at_ok {s : S16} (h : s.ok) {n : Nat} (hn : n < 4294967296) : (s.at n).ok := by
  obtain ⟨h1, h2, h3, h4, h5, h6, h7, h8, h9, h10, h11, h12, _, h14, h15, h16⟩ := S16.ok_all h
  simp [S16.ok, S16.toL, S16.at, *]
theorem Row.at12 {w : World} {g t : Nat} {s : S16} (h : Row w g t (wdV s.toL)) (n : Nat) : Row (w.setCell ⟨g, 12, none⟩ (.int .u32 n)) g t (wdV (s.at n).toL) :=
  Row.set (A := wdV [s.a0, s.a1, s.a2, s.a3, s.b0, s.b1, s.b2, s.b3, s.c0, s.c1, s.c2, s.c3]) (q := .int .u32 s.d0) (C := wdV [s.d1, s.d2, s.d3]) h _ rfl

set_option maxRecDepth 10000 in
set_option maxHeartbeats 2000000 in
theorem block_any (s : S16) (hs : s.ok) (n : Nat) (hn : n < 4294967296) (g : Nat) (w : World) (hr : Row w g 184 (wdV s.toL)) :
    Calls Tryz.prog 143 #[.pointer (some ⟨g, 0, none⟩), .int .u32 n] w fun e w' => e = .returned (.agg (byV (blkL (s.at n))).toArray) ∧ Below w.heap.size w w' := by
  have hg := hr.lt
  obtain ⟨cs, hcs⟩ : ∃ cs, cs = (wdV s.toL).toArray := ⟨_, rfl⟩
  have hsz : cs.size = 16 := by rw [hcs]; rfl
  have hone : cs.all (·.oneCell') = true := by rw [hcs]; simp [wdV, Value.oneCell']
  have hinfo : (Tryz.prog.info? 184).map (·.size) = some cs.size := by rw [hsz]; kernel_rfl
  have hg0 : ∀ o, (w.alloc o).heap[g]? = some (.cells cs 184 (0, 0)) := fun o => by rw [hcs]; exact (Below.heap_alloc w o g hg).trans hr
  have HCS : Hid (cs = (wdV s.toL).toArray) := hcs
  clear hcs hr
  obtain ⟨w0, hw0⟩ : ∃ w0, ((w.alloc (.cells #[.int .u8 0, .int .u8 0, .int .u8 0, .int .u8 0, .int .u8 0, .int .u8 0, .int .u8 0, .int .u8 0, .int .u8 0, .int .u8 0, .int .u8 0, .int .u8 0, .int .u8 0, .int .u8 0, .int .u8 0, .int .u8 0, .int .u8 0, .int .u8 0, .int .u8 0, .int .u8 0, .int .u8 0, .int .u8 0, .int .u8 0, .int .u8 0, .int .u8 0, .int .u8 0, .int .u8 0, .int .u8 0, .int .u8 0, .int .u8 0, .int .u8 0, .int .u8 0, .int .u8 0, .int .u8 0, .int .u8 0, .int .u8 0, .int .u8 0, .int .u8 0, .int .u8 0, .int .u8 0, .int .u8 0, .int .u8 0, .int .u8 0, .int .u8 0, .int .u8 0, .int .u8 0, .int .u8 0, .int .u8 0, .int .u8 0, .int .u8 0, .int .u8 0, .int .u8 0, .int .u8 0, .int .u8 0, .int .u8 0, .int .u8 0, .int .u8 0, .int .u8 0, .int .u8 0, .int .u8 0, .int .u8 0, .int .u8 0, .int .u8 0, .int .u8 0] 66)).alloc (.cells #[.int .u32 0, .int .u32 0, .int .u32 0, .int .u32 0, .int .u32 0, .int .u32 0, .int .u32 0, .int .u32 0, .int .u32 0, .int .u32 0, .int .u32 0, .int .u32 0, .int .u32 0, .int .u32 0, .int .u32 0, .int .u32 0] 184)).setRow (w.heap.size + 1) cs = w0 := ⟨_, rfl⟩
  have hk1 := heap_alloc2_new w (.cells #[.int .u8 0, .int .u8 0, .int .u8 0, .int .u8 0, .int .u8 0, .int .u8 0, .int .u8 0, .int .u8 0, .int .u8 0, .int .u8 0, .int .u8 0, .int .u8 0, .int .u8 0, .int .u8 0, .int .u8 0, .int .u8 0, .int .u8 0, .int .u8 0, .int .u8 0, .int .u8 0, .int .u8 0, .int .u8 0, .int .u8 0, .int .u8 0, .int .u8 0, .int .u8 0, .int .u8 0, .int .u8 0, .int .u8 0, .int .u8 0, .int .u8 0, .int .u8 0, .int .u8 0, .int .u8 0, .int .u8 0, .int .u8 0, .int .u8 0, .int .u8 0, .int .u8 0, .int .u8 0, .int .u8 0, .int .u8 0, .int .u8 0, .int .u8 0, .int .u8 0, .int .u8 0, .int .u8 0, .int .u8 0, .int .u8 0, .int .u8 0, .int .u8 0, .int .u8 0, .int .u8 0, .int .u8 0, .int .u8 0, .int .u8 0, .int .u8 0, .int .u8 0, .int .u8 0, .int .u8 0, .int .u8 0, .int .u8 0, .int .u8 0, .int .u8 0] 66) (.cells #[.int .u32 0, .int .u32 0, .int .u32 0, .int .u32 0, .int .u32 0, .int .u32 0, .int .u32 0, .int .u32 0, .int .u32 0, .int .u32 0, .int .u32 0, .int .u32 0, .int .u32 0, .int .u32 0, .int .u32 0, .int .u32 0] 184)
  have a1 : Row w0 (w.heap.size + 1) 184 (wdV s.toL) := by rw [← hw0]; have := setRow_heap _ (w.heap.size + 1) _ cs _ _ hk1; rw [HCS.out] at this ⊢; exact this
  have a0 : Row w0 w.heap.size 66 (byV (List.replicate 64 0)) := by rw [← hw0]; exact (setRow_other _ _ _ _ (by omega)).trans (heap_alloc2_old w _ _)
  have ab : Below w.heap.size w w0 := by rw [← hw0]; exact below_rowH (((Below.refl _ _).alloc (Nat.le_refl _) _).alloc (by simp) _) (by omega) cs
  have c12 : w0.cell? ⟨w.heap.size + 1, 12, none⟩ = some (.int .u32 s.d0) := a1.cell 12
  have f12 : w0.frozen? ⟨w.heap.size + 1, 12, none⟩ = false := a1.frozen 12
  have b1 := a1.at12 n
  have b0 : Row (w0.setCell ⟨w.heap.size + 1, 12, none⟩ (.int .u32 n)) w.heap.size 66 (byV (List.replicate 64 0)) := (Below.heap_setCell _ _ _ _ (by simp)).trans a0
  have bb := ab.setCell (p := ⟨w.heap.size + 1, 12, none⟩) (by simp) (.int .u32 n)
  obtain ⟨w1, hw1⟩ : ∃ w1, w0.setCell ⟨w.heap.size + 1, 12, none⟩ (.int .u32 n) = w1 := ⟨_, rfl⟩
  rw [hw1] at b1 b0 bb
  clear a1 a0 ab hk1
  have HM := mixed_any (s.at n) (S16.at_ok hs hn) (w.heap.size + 1) 184 w1 b1
  have hnW := fun i => blkW_add (s.at n) i
  have hlW := fun i => blkW_lt (s.at n) i
  have hstep := fun j k => blk_step (s.at n) j k
  have hall := blkF_all (s.at n)
  have hlen := fun j => blkN_length (s.at n) j
  have hsz2 : (wdV ((s.at n).rounds 10).toL).toArray.size = 16 := rfl
  have hone2 : (wdV ((s.at n).rounds 10).toL).toArray.all (·.oneCell') = true := by simp [wdV, Value.oneCell']
  have hget2 : ∀ i, i < 16 → (wdV ((s.at n).rounds 10).toL).toArray[i]? = some (.int .u32 (((s.at n).rounds 10).toL.getD i 0 : Nat)) := fun i hi => by rw [List.getElem?_toArray]; exact toL_get _ i hi
  have hget1 : ∀ i, i < 16 → (wdV (s.at n).toL)[i]? = some (.int .u32 ((s.at n).toL.getD i 0 : Nat)) := fun i hi => toL_get _ i hi
  obtain ⟨ms, hms⟩ : ∃ ms, ms = (wdV ((s.at n).rounds 10).toL).toArray := ⟨_, rfl⟩
  rw [← hms] at HM hsz2 hone2 hget2
  clear hms
  have hinfo2 : (Tryz.prog.info? 184).map (·.size) = some ms.size := by rw [hsz2]; kernel_rfl
  generalize (s.at n).rounds 10 = T at *
  have HH : Hid (Row w1 (w.heap.size + 1) 184 (wdV (s.at n).toL) ∧ Row w1 w.heap.size 66 (byV (List.replicate 64 0)) ∧ Below w.heap.size w w1) := ⟨b1, b0, bb⟩
  clear b1 b0 bb
  generalize s.at n = S at *
  go_enter Tryz.func143, Tryz.ntmps143
  go_wp2_with (first | refine wpList_load_row rfl 184 _ rfl g rfl 184 _ (0, 0) _ (hg0 _) Tryz.underlying184 rfl hinfo ?_ | refine wpList_store_row rfl 184 _ _ rfl (w.heap.size + 1) cs rfl rfl 184 _ (heap_alloc2_new w _ _) hinfo (by rw [hsz]; rfl) hone ?_)
  refine HM.mono ?_
  rintro e w2 ⟨rfl, hb2⟩
  have k1 := HH.out.1.below hb2 HH.out.1.lt
  have k0 := HH.out.2.1.below hb2 HH.out.2.1.lt
  have hbw := HH.out.2.2.trans (hb2.mono HH.out.2.2.size)
  have hlt2 : w.heap.size + 1 < w2.heap.size := k1.lt
  clear HM hb2 HH hw0 hw1 hg0 c12 f12 hinfo hone hsz
  obtain ⟨w3, hw3⟩ : ∃ w3, ((w2.alloc (.cells #[.int .u32 0, .int .u32 0, .int .u32 0, .int .u32 0, .int .u32 0, .int .u32 0, .int .u32 0, .int .u32 0, .int .u32 0, .int .u32 0, .int .u32 0, .int .u32 0, .int .u32 0, .int .u32 0, .int .u32 0, .int .u32 0] 184)).setRow w2.heap.size ms).alloc (.cells #[.int .u8 0, .int .u8 0, .int .u8 0, .int .u8 0, .int .u8 0, .int .u8 0, .int .u8 0, .int .u8 0, .int .u8 0, .int .u8 0, .int .u8 0, .int .u8 0, .int .u8 0, .int .u8 0, .int .u8 0, .int .u8 0, .int .u8 0, .int .u8 0, .int .u8 0, .int .u8 0, .int .u8 0, .int .u8 0, .int .u8 0, .int .u8 0, .int .u8 0, .int .u8 0, .int .u8 0, .int .u8 0, .int .u8 0, .int .u8 0, .int .u8 0, .int .u8 0, .int .u8 0, .int .u8 0, .int .u8 0, .int .u8 0, .int .u8 0, .int .u8 0, .int .u8 0, .int .u8 0, .int .u8 0, .int .u8 0, .int .u8 0, .int .u8 0, .int .u8 0, .int .u8 0, .int .u8 0, .int .u8 0, .int .u8 0, .int .u8 0, .int .u8 0, .int .u8 0, .int .u8 0, .int .u8 0, .int .u8 0, .int .u8 0, .int .u8 0, .int .u8 0, .int .u8 0, .int .u8 0, .int .u8 0, .int .u8 0, .int .u8 0, .int .u8 0] 66) = w3 := ⟨_, rfl⟩
  have hw3' : (w2.alloc (.cells ms 184)).alloc (.cells #[.int .u8 0, .int .u8 0, .int .u8 0, .int .u8 0, .int .u8 0, .int .u8 0, .int .u8 0, .int .u8 0, .int .u8 0, .int .u8 0, .int .u8 0, .int .u8 0, .int .u8 0, .int .u8 0, .int .u8 0, .int .u8 0, .int .u8 0, .int .u8 0, .int .u8 0, .int .u8 0, .int .u8 0, .int .u8 0, .int .u8 0, .int .u8 0, .int .u8 0, .int .u8 0, .int .u8 0, .int .u8 0, .int .u8 0, .int .u8 0, .int .u8 0, .int .u8 0, .int .u8 0, .int .u8 0, .int .u8 0, .int .u8 0, .int .u8 0, .int .u8 0, .int .u8 0, .int .u8 0, .int .u8 0, .int .u8 0, .int .u8 0, .int .u8 0, .int .u8 0, .int .u8 0, .int .u8 0, .int .u8 0, .int .u8 0, .int .u8 0, .int .u8 0, .int .u8 0, .int .u8 0, .int .u8 0, .int .u8 0, .int .u8 0, .int .u8 0, .int .u8 0, .int .u8 0, .int .u8 0, .int .u8 0, .int .u8 0, .int .u8 0, .int .u8 0] 66) = w3 := by rw [← hw3, World.setRow_alloc_new]
  have m3 : w3.heap[w2.heap.size]? = some (.cells ms 184 (0, 0)) := by rw [← hw3']; exact heap_alloc2_old w2 _ _
  have n3 : Row w3 (w2.heap.size + 1) 66 (rowF 64 (blkF (blkN S 0))) := by rw [← hw3']; exact heap_alloc2_new w2 _ _
  have b3 : Below w2.heap.size w2 w3 := by rw [← hw3']; exact ((Below.refl _ _).alloc (Nat.le_refl _) _).alloc (by simp) _
  have k1' := k1.below b3 k1.lt
  have k0' := k0.below b3 k0.lt
  have hbw' := hbw.trans (b3.mono hbw.size)
  have HL : Hid (Row w3 (w2.heap.size + 1) 66 (rowF 64 (blkF (blkN S 0))) ∧ Row w3 (w.heap.size + 1) 184 (wdV S.toL) ∧ Row w3 w.heap.size 66 (byV (List.replicate 64 0)) ∧ Below w.heap.size w w3) := ⟨n3, k1', k0', hbw'⟩
  clear k1 k0 hbw k1' k0' hbw' n3 b3 hw3'
  go_wp2_with (first | refine wpList_store_row rfl 184 _ _ rfl w2.heap.size ms rfl rfl 184 _ (heap_alloc_new w2 _) hinfo2 (by rw [hsz2]; rfl) hone2 ?_ | refine wpList_load_row rfl 184 _ rfl w2.heap.size rfl 184 _ (0, 0) _ m3 Tryz.underlying184 rfl hinfo2 ?_)
  clear hw3 m3 hinfo2 hone2 hsz2
  go_loopw [17] (fun i wr => ∃ j : Nat, j ≤ 16 ∧ i = .int .i64 j ∧ Row wr (w2.heap.size + 1) 66 (rowF 64 (blkF (blkN S j))) ∧ Row wr (w.heap.size + 1) 184 (wdV S.toL) ∧ Row wr w.heap.size 66 (byV (List.replicate 64 0)) ∧ Below w.heap.size w wr) (fun i _ => 16 - (intOf i).toNat)
  case atStart => exact ⟨0, Nat.zero_le _, rfl, HL.out⟩
  case round =>
    clear HL
    obtain ⟨j, hj, rfl, k2, k1, k0, hbw⟩ := hrel
    by_cases hlt : j < 16
    · have hix := fun w => index_state ms j _ hlt (hget2 j hlt) w
      have c1 : wr.cell? ⟨w.heap.size + 1, j, none⟩ = some (.int .u32 (S.toL.getD j 0 : Nat)) := by rw [k1.cell, hget1 j hlt]
      have v1 := hnW j
      have lW := hlW j
      have hst := fun k => hstep j k
      have d0 := k2.cellF (4 * j) (by omega)
      have d1 := k2.cellF (4 * j + 1) (by omega)
      have d2 := k2.cellF (4 * j + 2) (by omega)
      have d3 := k2.cellF (4 * j + 3) (by omega)
      have ff : ∀ i, wr.frozen? ⟨w2.heap.size + 1, i, none⟩ = false := fun i => k2.frozen i
      generalize blkW S j = W at *
      generalize T.toL.getD j 0 = x at *
      generalize S.toL.getD j 0 = y at *
      have k3 := (((k2.setF (4 * j) (.int .u8 ((W : Int) % 256))).setF (4 * j + 1) (.int .u8 ((W : Int) / 256 % 256))).setF (4 * j + 2) (.int .u8 ((W : Int) / 65536 % 256))).setF (4 * j + 3) (.int .u8 ((W : Int) / 16777216))
      have hrow : (rowF 64 fun k => if k = 4 * j + 3 then Value.int .u8 ((W : Int) / 16777216) else if k = 4 * j + 2 then Value.int .u8 ((W : Int) / 65536 % 256) else if k = 4 * j + 1 then Value.int .u8 ((W : Int) / 256 % 256) else if k = 4 * j then Value.int .u8 ((W : Int) % 256) else blkF (blkN S j) k) = rowF 64 (blkF (blkN S (j + 1))) := rowF_congr fun k _ => by
        show _ = Value.int .u8 ((blkN S (j + 1)).getD k 0 : Nat)
        rw [← hst k]
        by_cases h3 : k = 4 * j + 3
        · rw [if_pos h3, if_pos h3, Nat.mod_eq_of_lt (by omega)]; rfl
        · rw [if_neg h3, if_neg h3]
          by_cases h2 : k = 4 * j + 2
          · rw [if_pos h2, if_pos h2]; rfl
          · rw [if_neg h2, if_neg h2]
            by_cases h1 : k = 4 * j + 1
            · rw [if_pos h1, if_pos h1]; rfl
            · rw [if_neg h1, if_neg h1]
              by_cases h0 : k = 4 * j
              · rw [if_pos h0, if_pos h0]; rfl
              · rw [if_neg h0, if_neg h0]; rfl
      rw [hrow] at k3
      have ho : Only (w2.heap.size + 1) wr ((((wr.setCell ⟨w2.heap.size + 1, 4 * j, none⟩ (.int .u8 ((W : Int) % 256))).setCell ⟨w2.heap.size + 1, 4 * j + 1, none⟩ (.int .u8 ((W : Int) / 256 % 256))).setCell ⟨w2.heap.size + 1, 4 * j + 2, none⟩ (.int .u8 ((W : Int) / 65536 % 256))).setCell ⟨w2.heap.size + 1, 4 * j + 3, none⟩ (.int .u8 ((W : Int) / 16777216))) := ((((Only.refl _ _).setCell _ _).setCell _ _).setCell _ _).setCell _ _
      have k1' := k1.only ho (by omega)
      have k0' := k0.only ho (by omega)
      have hbw' := hbw.trans ((ho.below (Nat.le_of_lt k2.lt)).mono (by omega))
      have HR : Hid (Row ((((wr.setCell ⟨w2.heap.size + 1, 4 * j, none⟩ (.int .u8 ((W : Int) % 256))).setCell ⟨w2.heap.size + 1, 4 * j + 1, none⟩ (.int .u8 ((W : Int) / 256 % 256))).setCell ⟨w2.heap.size + 1, 4 * j + 2, none⟩ (.int .u8 ((W : Int) / 65536 % 256))).setCell ⟨w2.heap.size + 1, 4 * j + 3, none⟩ (.int .u8 ((W : Int) / 16777216))) (w2.heap.size + 1) 66 (rowF 64 (blkF (blkN S (j + 1)))) ∧ Row ((((wr.setCell ⟨w2.heap.size + 1, 4 * j, none⟩ (.int .u8 ((W : Int) % 256))).setCell ⟨w2.heap.size + 1, 4 * j + 1, none⟩ (.int .u8 ((W : Int) / 256 % 256))).setCell ⟨w2.heap.size + 1, 4 * j + 2, none⟩ (.int .u8 ((W : Int) / 65536 % 256))).setCell ⟨w2.heap.size + 1, 4 * j + 3, none⟩ (.int .u8 ((W : Int) / 16777216))) (w.heap.size + 1) 184 (wdV S.toL) ∧ Row ((((wr.setCell ⟨w2.heap.size + 1, 4 * j, none⟩ (.int .u8 ((W : Int) % 256))).setCell ⟨w2.heap.size + 1, 4 * j + 1, none⟩ (.int .u8 ((W : Int) / 256 % 256))).setCell ⟨w2.heap.size + 1, 4 * j + 2, none⟩ (.int .u8 ((W : Int) / 65536 % 256))).setCell ⟨w2.heap.size + 1, 4 * j + 3, none⟩ (.int .u8 ((W : Int) / 16777216))) w.heap.size 66 (byV (List.replicate 64 0)) ∧ Below w.heap.size w ((((wr.setCell ⟨w2.heap.size + 1, 4 * j, none⟩ (.int .u8 ((W : Int) % 256))).setCell ⟨w2.heap.size + 1, 4 * j + 1, none⟩ (.int .u8 ((W : Int) / 256 % 256))).setCell ⟨w2.heap.size + 1, 4 * j + 2, none⟩ (.int .u8 ((W : Int) / 65536 % 256))).setCell ⟨w2.heap.size + 1, 4 * j + 3, none⟩ (.int .u8 ((W : Int) / 16777216)))) := ⟨k3, k1', k0', hbw'⟩
      clear hrow k3 ho k1' k0' hbw' k2 k1 k0 hbw hst hget1 hget2 hnW hlW hstep hall hlen
      have q0 : IntKind.i64.wrap (4 * (j : Int)) = 4 * j := by rw [IntKind.wrap_i64]; omega
      have q1 : IntKind.i64.wrap (4 * (j : Int) + 1) = 4 * j + 1 := by rw [IntKind.wrap_i64]; omega
      have q2 : IntKind.i64.wrap (4 * (j : Int) + 2) = 4 * j + 2 := by rw [IntKind.wrap_i64]; omega
      have q3 : IntKind.i64.wrap (4 * (j : Int) + 3) = 4 * j + 3 := by rw [IntKind.wrap_i64]; omega
      have t0 : (4 * (j : Int)).toNat = 4 * j := by omega
      have t1 : (4 * (j : Int) + 1).toNat = 4 * j + 1 := by omega
      have t2 : (4 * (j : Int) + 2).toNat = 4 * j + 2 := by omega
      have t3 : (4 * (j : Int) + 3).toNat = 4 * j + 3 := by omega
      have r0 : (0 : Int) ≤ 4 * (j : Int) := by omega
      have r1 : (0 : Int) ≤ 4 * (j : Int) + 1 := by omega
      have r2 : (0 : Int) ≤ 4 * (j : Int) + 2 := by omega
      have r3 : (0 : Int) ≤ 4 * (j : Int) + 3 := by omega
      have s0 : 4 * (j : Int) < 64 := by omega
      have s1 : 4 * (j : Int) + 1 < 64 := by omega
      have s2 : 4 * (j : Int) + 2 < 64 := by omega
      have s3 : 4 * (j : Int) + 3 < 64 := by omega
      have s4 : (j : Int) < 16 := by omega
      go_wp2_with fail
      go_roundw
      case rel => exact ⟨j + 1, by omega, by go_num, HR.out⟩
      case measure => simp [intOf]; omega
    · obtain rfl : j = 16 := by omega
      rw [hall] at k2
      obtain ⟨ds, hds⟩ : ∃ ds, ds = (byV (blkL S)).toArray := ⟨_, rfl⟩
      have hsz : ds.size = 64 := by rw [hds]; simp [byV, blkL_length]
      have hone : ds.all (·.oneCell') = true := by rw [hds]; simp [byV, Value.oneCell']
      have k1' : wr.heap[w2.heap.size + 1]? = some (.cells ds 66 (0, 0)) := by rw [hds]; exact k2
      have HDS : Hid (ds = (byV (blkL S)).toArray) := hds
      clear hds k2 k1 hget1 hget2 hnW hlW hstep hall hlen
      have k0' : wr.heap[w.heap.size]? = some (.cells (byV (List.replicate 64 0)).toArray 66 (0, 0)) := k0
      have hs0 : (byV (List.replicate 64 0)).toArray.size = ds.size := by rw [hsz]; rfl
      have hinfo : (Tryz.prog.info? 66).map (·.size) = some ds.size := by rw [hsz]; kernel_rfl
      have hba := below_rowH hbw (Nat.le_refl _) ds
      have hl0 := run_loadVar_row (P := Tryz.prog) (wr.setRow w.heap.size ds) w.heap.size 66 66 ds (0, 0) _ (setRow_heap _ _ _ _ _ _ k0') Tryz.underlying66 rfl hinfo
      go_wp2_with (first | refine wpList_load_row rfl 66 _ rfl (w2.heap.size + 1) rfl 66 _ (0, 0) _ k1' Tryz.underlying66 rfl hinfo ?_ | refine wpList_store_row rfl 66 _ _ rfl w.heap.size ds rfl rfl 66 _ k0' hinfo hs0 hone ?_)
      exact bodyPost_ret (v := .agg ds) (by simp [results, Tryz.results143, asAddr, Act.put, hl0]) rfl ⟨by rw [HDS.out], hba⟩
end Go.Proofs.YtdhiopbomnfmnaaGreatDoor.Bx
