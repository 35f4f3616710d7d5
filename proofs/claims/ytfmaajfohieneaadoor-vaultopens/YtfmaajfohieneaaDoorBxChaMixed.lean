/- box's state.mixed: a state behind its ten rounds. -/
import Derived.Test.YtfmaajfohieneaaDoorMg35
namespace Go.Proofs.YtfmaajfohieneaaDoor.Bx
set_option maxRecDepth 20000
open Go.RowKit

/-- Words as values. -/
def wdV (l : List Nat) : List Value := l.map fun x => Value.int .u32 (x : Nat)
theorem wdV_get (l : List Nat) (i : Nat) (h : i < l.length) : (wdV l)[i]? = some (.int .u32 (l.getD i 0 : Nat)) := by
  rw [wdV, List.getElem?_map, List.getElem?_eq_getElem h, getD_at _ _ h]
  rfl
theorem quarter_let (a b c d : Nat) (hb : b < 4294967296) (hd : d < 4294967296) : ∃ a' b' c' d' : Nat, (a' = qA a b c d ∧ b' = qB a b c d ∧ c' = qC a b c d ∧ d' = qD a b c d) ∧ (a' < 4294967296 ∧ b' < 4294967296 ∧ c' < 4294967296 ∧ d' < 4294967296) ∧
    ∀ w, Calls Tryd.prog 88 #[.int .u32 a, .int .u32 b, .int .u32 c, .int .u32 d] w fun e w' => e = .returned (.tuple #[.int .u32 a', .int .u32 b', .int .u32 c', .int .u32 d']) ∧ w' = w :=
  ⟨_, _, _, _, ⟨rfl, rfl, rfl, rfl⟩, ⟨qA_lt _ _ _ _, qB_lt _ _ _ _, qC_lt _ _ _ _, qD_lt _ _ _ _⟩, fun w => quarter_any a b c d hb hd w⟩

set_option maxRecDepth 10000 in
set_option maxHeartbeats 4000000 in
theorem mixed_any (s : S16) (hs : s.ok) (g t : Nat) (w : World) (hr : Row w g t (wdV s.toL)) :
    Calls Tryd.prog 77 #[.pointer (some ⟨g, 0, none⟩)] w fun e w' => e = .returned (.agg (wdV (s.rounds 10).toL).toArray) ∧ Below w.heap.size w w' := by
  have hg := hr.lt
  have ea0 : w.cell? ⟨g, 0, none⟩ = some (.int .u32 (s.a0 : Nat)) := hr.cell 0
  have ea1 : w.cell? ⟨g, 1, none⟩ = some (.int .u32 (s.a1 : Nat)) := hr.cell 1
  have ea2 : w.cell? ⟨g, 2, none⟩ = some (.int .u32 (s.a2 : Nat)) := hr.cell 2
  have ea3 : w.cell? ⟨g, 3, none⟩ = some (.int .u32 (s.a3 : Nat)) := hr.cell 3
  have eb0 : w.cell? ⟨g, 4, none⟩ = some (.int .u32 (s.b0 : Nat)) := hr.cell 4
  have eb1 : w.cell? ⟨g, 5, none⟩ = some (.int .u32 (s.b1 : Nat)) := hr.cell 5
  have eb2 : w.cell? ⟨g, 6, none⟩ = some (.int .u32 (s.b2 : Nat)) := hr.cell 6
  have eb3 : w.cell? ⟨g, 7, none⟩ = some (.int .u32 (s.b3 : Nat)) := hr.cell 7
  have ec0 : w.cell? ⟨g, 8, none⟩ = some (.int .u32 (s.c0 : Nat)) := hr.cell 8
  have ec1 : w.cell? ⟨g, 9, none⟩ = some (.int .u32 (s.c1 : Nat)) := hr.cell 9
  have ec2 : w.cell? ⟨g, 10, none⟩ = some (.int .u32 (s.c2 : Nat)) := hr.cell 10
  have ec3 : w.cell? ⟨g, 11, none⟩ = some (.int .u32 (s.c3 : Nat)) := hr.cell 11
  have ed0 : w.cell? ⟨g, 12, none⟩ = some (.int .u32 (s.d0 : Nat)) := hr.cell 12
  have ed1 : w.cell? ⟨g, 13, none⟩ = some (.int .u32 (s.d1 : Nat)) := hr.cell 13
  have ed2 : w.cell? ⟨g, 14, none⟩ = some (.int .u32 (s.d2 : Nat)) := hr.cell 14
  have ed3 : w.cell? ⟨g, 15, none⟩ = some (.int .u32 (s.d3 : Nat)) := hr.cell 15
  clear hr
  have fa0 : ∀ o, (w.alloc o).cell? ⟨g, 0, none⟩ = some (.int .u32 (s.a0 : Nat)) := fun o => ((Below.refl _ _).alloc (Nat.le_refl _) _ |>.cell (p := ⟨g, 0, none⟩) hg).trans ea0
  have fa1 : ∀ o, (w.alloc o).cell? ⟨g, 1, none⟩ = some (.int .u32 (s.a1 : Nat)) := fun o => ((Below.refl _ _).alloc (Nat.le_refl _) _ |>.cell (p := ⟨g, 1, none⟩) hg).trans ea1
  have fa2 : ∀ o, (w.alloc o).cell? ⟨g, 2, none⟩ = some (.int .u32 (s.a2 : Nat)) := fun o => ((Below.refl _ _).alloc (Nat.le_refl _) _ |>.cell (p := ⟨g, 2, none⟩) hg).trans ea2
  have fa3 : ∀ o, (w.alloc o).cell? ⟨g, 3, none⟩ = some (.int .u32 (s.a3 : Nat)) := fun o => ((Below.refl _ _).alloc (Nat.le_refl _) _ |>.cell (p := ⟨g, 3, none⟩) hg).trans ea3
  have fb0 : ∀ o, (w.alloc o).cell? ⟨g, 4, none⟩ = some (.int .u32 (s.b0 : Nat)) := fun o => ((Below.refl _ _).alloc (Nat.le_refl _) _ |>.cell (p := ⟨g, 4, none⟩) hg).trans eb0
  have fb1 : ∀ o, (w.alloc o).cell? ⟨g, 5, none⟩ = some (.int .u32 (s.b1 : Nat)) := fun o => ((Below.refl _ _).alloc (Nat.le_refl _) _ |>.cell (p := ⟨g, 5, none⟩) hg).trans eb1
  have fb2 : ∀ o, (w.alloc o).cell? ⟨g, 6, none⟩ = some (.int .u32 (s.b2 : Nat)) := fun o => ((Below.refl _ _).alloc (Nat.le_refl _) _ |>.cell (p := ⟨g, 6, none⟩) hg).trans eb2
  have fb3 : ∀ o, (w.alloc o).cell? ⟨g, 7, none⟩ = some (.int .u32 (s.b3 : Nat)) := fun o => ((Below.refl _ _).alloc (Nat.le_refl _) _ |>.cell (p := ⟨g, 7, none⟩) hg).trans eb3
  have fc0 : ∀ o, (w.alloc o).cell? ⟨g, 8, none⟩ = some (.int .u32 (s.c0 : Nat)) := fun o => ((Below.refl _ _).alloc (Nat.le_refl _) _ |>.cell (p := ⟨g, 8, none⟩) hg).trans ec0
  have fc1 : ∀ o, (w.alloc o).cell? ⟨g, 9, none⟩ = some (.int .u32 (s.c1 : Nat)) := fun o => ((Below.refl _ _).alloc (Nat.le_refl _) _ |>.cell (p := ⟨g, 9, none⟩) hg).trans ec1
  have fc2 : ∀ o, (w.alloc o).cell? ⟨g, 10, none⟩ = some (.int .u32 (s.c2 : Nat)) := fun o => ((Below.refl _ _).alloc (Nat.le_refl _) _ |>.cell (p := ⟨g, 10, none⟩) hg).trans ec2
  have fc3 : ∀ o, (w.alloc o).cell? ⟨g, 11, none⟩ = some (.int .u32 (s.c3 : Nat)) := fun o => ((Below.refl _ _).alloc (Nat.le_refl _) _ |>.cell (p := ⟨g, 11, none⟩) hg).trans ec3
  have fd0 : ∀ o, (w.alloc o).cell? ⟨g, 12, none⟩ = some (.int .u32 (s.d0 : Nat)) := fun o => ((Below.refl _ _).alloc (Nat.le_refl _) _ |>.cell (p := ⟨g, 12, none⟩) hg).trans ed0
  have fd1 : ∀ o, (w.alloc o).cell? ⟨g, 13, none⟩ = some (.int .u32 (s.d1 : Nat)) := fun o => ((Below.refl _ _).alloc (Nat.le_refl _) _ |>.cell (p := ⟨g, 13, none⟩) hg).trans ed1
  have fd2 : ∀ o, (w.alloc o).cell? ⟨g, 14, none⟩ = some (.int .u32 (s.d2 : Nat)) := fun o => ((Below.refl _ _).alloc (Nat.le_refl _) _ |>.cell (p := ⟨g, 14, none⟩) hg).trans ed2
  have fd3 : ∀ o, (w.alloc o).cell? ⟨g, 15, none⟩ = some (.int .u32 (s.d3 : Nat)) := fun o => ((Below.refl _ _).alloc (Nat.le_refl _) _ |>.cell (p := ⟨g, 15, none⟩) hg).trans ed3
  clear ea0 ea1 ea2 ea3 eb0 eb1 eb2 eb3 ec0 ec1 ec2 ec3 ed0 ed1 ed2 ed3
  have HB : Hid (∀ o n1 n2 n3 n4, Below w.heap.size w (((((w.alloc o).drewN n1).drewN n2).drewN n3).drewN n4)) := fun o n1 n2 n3 n4 => (Below.refl _ _).alloc (Nat.le_refl _) o |>.trans ⟨rfl, rfl, rfl, Nat.le_refl _, fun _ _ => rfl⟩
  go_enter Tryd.func77, Tryd.ntmps77
  go_wp2_with fail
  go_quiet (fail)
  go_wp2_with fail
  go_quiet (fail)
  go_wp2_with fail
  go_quiet (fail)
  go_wp2_with fail
  go_quiet (fail)
  go_wp2_with fail
  clear fa0 fa1 fa2 fa3 fb0 fb1 fb2 fb3 fc0 fc1 fc2 fc3 fd0 fd1 fd2 fd3
  go_loopw [3, 4, 5, 6, 7, 8, 9, 10, 11, 12, 13, 14, 15, 16, 17, 18, 83] (fun va0 va1 va2 va3 vb0 vb1 vb2 vb3 vc0 vc1 vc2 vc3 vd0 vd1 vd2 vd3 i wr => ∃ a0 a1 a2 a3 b0 b1 b2 b3 c0 c1 c2 c3 d0 d1 d2 d3 j : Nat, j ≤ 10 ∧ S16.mk a0 a1 a2 a3 b0 b1 b2 b3 c0 c1 c2 c3 d0 d1 d2 d3 = s.rounds j ∧ (S16.mk a0 a1 a2 a3 b0 b1 b2 b3 c0 c1 c2 c3 d0 d1 d2 d3).ok ∧ Row wr w.heap.size 104 (wdV (List.replicate 16 0)) ∧ Below w.heap.size w wr ∧ i = .int .i64 j ∧ va0 = .int .u32 (a0 : Nat) ∧ va1 = .int .u32 (a1 : Nat) ∧ va2 = .int .u32 (a2 : Nat) ∧ va3 = .int .u32 (a3 : Nat) ∧ vb0 = .int .u32 (b0 : Nat) ∧ vb1 = .int .u32 (b1 : Nat) ∧ vb2 = .int .u32 (b2 : Nat) ∧ vb3 = .int .u32 (b3 : Nat) ∧ vc0 = .int .u32 (c0 : Nat) ∧ vc1 = .int .u32 (c1 : Nat) ∧ vc2 = .int .u32 (c2 : Nat) ∧ vc3 = .int .u32 (c3 : Nat) ∧ vd0 = .int .u32 (d0 : Nat) ∧ vd1 = .int .u32 (d1 : Nat) ∧ vd2 = .int .u32 (d2 : Nat) ∧ vd3 = .int .u32 (d3 : Nat)) (fun _ _ _ _ _ _ _ _ _ _ _ _ _ _ _ _ i _ => 10 - (intOf i).toNat)
  case atStart => exact ⟨s.a0, s.a1, s.a2, s.a3, s.b0, s.b1, s.b2, s.b3, s.c0, s.c1, s.c2, s.c3, s.d0, s.d1, s.d2, s.d3, 0, Nat.zero_le _, rfl, hs, heap_alloc_new w _, HB.out _ _ _ _ _, rfl, rfl, rfl, rfl, rfl, rfl, rfl, rfl, rfl, rfl, rfl, rfl, rfl, rfl, rfl, rfl, rfl⟩
  case round =>
    obtain ⟨a0, a1, a2, a3, b0, b1, b2, b3, c0, c1, c2, c3, d0, d1, d2, d3, j, hj, hT, hok, k0, hbw, rfl, rfl, rfl, rfl, rfl, rfl, rfl, rfl, rfl, rfl, rfl, rfl, rfl, rfl, rfl, rfl, rfl⟩ := hrel
    by_cases hlt : j < 10
    · obtain ⟨la0, la1, la2, la3, lb0, lb1, lb2, lb3, lc0, lc1, lc2, lc3, ld0, ld1, ld2, ld3⟩ := S16.ok_all hok
      obtain ⟨ua0, ub0, uc0, ud0, ⟨hua0, hub0, huc0, hud0⟩, ⟨lua0, lub0, luc0, lud0⟩, kq0⟩ := quarter_let a0 b0 c0 d0 lb0 ld0
      obtain ⟨ua1, ub1, uc1, ud1, ⟨hua1, hub1, huc1, hud1⟩, ⟨lua1, lub1, luc1, lud1⟩, kq1⟩ := quarter_let a1 b1 c1 d1 lb1 ld1
      obtain ⟨ua2, ub2, uc2, ud2, ⟨hua2, hub2, huc2, hud2⟩, ⟨lua2, lub2, luc2, lud2⟩, kq2⟩ := quarter_let a2 b2 c2 d2 lb2 ld2
      obtain ⟨ua3, ub3, uc3, ud3, ⟨hua3, hub3, huc3, hud3⟩, ⟨lua3, lub3, luc3, lud3⟩, kq3⟩ := quarter_let a3 b3 c3 d3 lb3 ld3
      obtain ⟨za0, zb1, zc2, zd3, ⟨hza0, hzb1, hzc2, hzd3⟩, ⟨_lza0, _lzb1, _lzc2, _lzd3⟩, kq4⟩ := quarter_let ua0 ub1 uc2 ud3 lub1 lud3
      obtain ⟨za1, zb2, zc3, zd0, ⟨hza1, hzb2, hzc3, hzd0⟩, ⟨_lza1, _lzb2, _lzc3, _lzd0⟩, kq5⟩ := quarter_let ua1 ub2 uc3 ud0 lub2 lud0
      obtain ⟨za2, zb3, zc0, zd1, ⟨hza2, hzb3, hzc0, hzd1⟩, ⟨_lza2, _lzb3, _lzc0, _lzd1⟩, kq6⟩ := quarter_let ua2 ub3 uc0 ud1 lub3 lud1
      obtain ⟨za3, zb0, zc1, zd2, ⟨hza3, hzb0, hzc1, hzd2⟩, ⟨_lza3, _lzb0, _lzc1, _lzd2⟩, kq7⟩ := quarter_let ua3 ub0 uc1 ud2 lub0 lud2
      have HN : Hid (S16.mk za0 za1 za2 za3 zb0 zb1 zb2 zb3 zc0 zc1 zc2 zc3 zd0 zd1 zd2 zd3 = s.rounds (j + 1)) := by
        show _ = (s.rounds j).cols.slants
        rw [← hT, hza0, hzb1, hzc2, hzd3, hza1, hzb2, hzc3, hzd0, hza2, hzb3, hzc0, hzd1, hza3, hzb0, hzc1, hzd2]
        rw [hua0, hub0, huc0, hud0, hua1, hub1, huc1, hud1, hua2, hub2, huc2, hud2, hua3, hub3, huc3, hud3]
        rfl
      have HO : Hid ((S16.mk za0 za1 za2 za3 zb0 zb1 zb2 zb3 zc0 zc1 zc2 zc3 zd0 zd1 zd2 zd3).ok) := by
        show (S16.mk za0 za1 za2 za3 zb0 zb1 zb2 zb3 zc0 zc1 zc2 zc3 zd0 zd1 zd2 zd3).ok
        rw [HN.out]
        exact S16.slants_ok _
      have HK : Hid (Row wr w.heap.size 104 (wdV (List.replicate 16 0)) ∧ Below w.heap.size w wr) := ⟨k0, hbw⟩
      clear k0 hbw hok hT hua0 hua1 hua2 hua3 hub0 hub1 hub2 hub3 huc0 huc1 huc2 huc3 hud0 hud1 hud2 hud3 hza0 hza1 hza2 hza3 hzb0 hzb1 hzb2 hzb3 hzc0 hzc1 hzc2 hzc3 hzd0 hzd1 hzd2 hzd3 la0 la1 la2 la3 lb0 lb1 lb2 lb3 lc0 lc1 lc2 lc3 ld0 ld1 ld2 ld3 lua0 lua1 lua2 lua3 lub0 lub1 lub2 lub3 luc0 luc1 luc2 luc3 lud0 lud1 lud2 lud3 _lza0 _lza1 _lza2 _lza3 _lzb0 _lzb1 _lzb2 _lzb3 _lzc0 _lzc1 _lzc2 _lzc3 _lzd0 _lzd1 _lzd2 _lzd3
      go_wp2_with fail
      refine (kq0 _).mono ?_
      rintro e w' ⟨rfl, rfl⟩
      clear kq0
      go_wp2_with fail
      refine (kq1 _).mono ?_
      rintro e w' ⟨rfl, rfl⟩
      clear kq1
      go_wp2_with fail
      refine (kq2 _).mono ?_
      rintro e w' ⟨rfl, rfl⟩
      clear kq2
      go_wp2_with fail
      refine (kq3 _).mono ?_
      rintro e w' ⟨rfl, rfl⟩
      clear kq3
      go_wp2_with fail
      refine (kq4 _).mono ?_
      rintro e w' ⟨rfl, rfl⟩
      clear kq4
      go_wp2_with fail
      refine (kq5 _).mono ?_
      rintro e w' ⟨rfl, rfl⟩
      clear kq5
      go_wp2_with fail
      refine (kq6 _).mono ?_
      rintro e w' ⟨rfl, rfl⟩
      clear kq6
      go_wp2_with fail
      refine (kq7 _).mono ?_
      rintro e w' ⟨rfl, rfl⟩
      clear kq7
      go_wp2
      go_roundw
      case rel => exact ⟨za0, za1, za2, za3, zb0, zb1, zb2, zb3, zc0, zc1, zc2, zc3, zd0, zd1, zd2, zd3, j + 1, by omega, HN.out, HO.out, HK.out.1, HK.out.2, by go_num, rfl, rfl, rfl, rfl, rfl, rfl, rfl, rfl, rfl, rfl, rfl, rfl, rfl, rfl, rfl, rfl⟩
      case measure => simp [intOf]; omega
    · obtain rfl : j = 10 := by omega
      have HT : Hid (wdV (s.rounds 10).toL = wdV (S16.mk a0 a1 a2 a3 b0 b1 b2 b3 c0 c1 c2 c3 d0 d1 d2 d3).toL) := by rw [Hid, ← hT]
      clear hT hok hs HB
      obtain ⟨ds, hds⟩ : ∃ ds : Array Value, ds = (wdV (S16.mk a0 a1 a2 a3 b0 b1 b2 b3 c0 c1 c2 c3 d0 d1 d2 d3).toL).toArray := ⟨_, rfl⟩
      have hds' : #[Value.int .u32 a0, Value.int .u32 a1, Value.int .u32 a2, Value.int .u32 a3, Value.int .u32 b0, Value.int .u32 b1, Value.int .u32 b2, Value.int .u32 b3, Value.int .u32 c0, Value.int .u32 c1, Value.int .u32 c2, Value.int .u32 c3, Value.int .u32 d0, Value.int .u32 d1, Value.int .u32 d2, Value.int .u32 d3] = ds := by rw [hds]; rfl
      have hsz : ds.size = 16 := by rw [hds]; rfl
      have hone : ds.all (·.oneCell') = true := by rw [hds]; simp [wdV, Value.oneCell']
      have k0' : wr.heap[w.heap.size]? = some (.cells (wdV (List.replicate 16 0)).toArray 104 (0, 0)) := k0
      have hs0 : (wdV (List.replicate 16 0)).toArray.size = ds.size := by rw [hsz]; rfl
      have hinfo : (Tryd.prog.info? 104).map (·.size) = some ds.size := by rw [hsz]; kernel_rfl
      have hba := below_rowH hbw (Nat.le_refl _) ds
      have hl0 := run_loadVar_row (P := Tryd.prog) (wr.setRow w.heap.size ds) w.heap.size 104 104 ds (0, 0) _ (setRow_heap _ _ _ _ _ _ k0') Tryd.underlying104 rfl hinfo
      have HDS : Hid (ds = (wdV (S16.mk a0 a1 a2 a3 b0 b1 b2 b3 c0 c1 c2 c3 d0 d1 d2 d3).toL).toArray) := hds
      clear hds k0 hbw
      go_wp2_with (refine wpList_store_row rfl 104 _ _ rfl w.heap.size ds rfl rfl 104 _ k0' hinfo hs0 hone ?_)
      exact bodyPost_ret (v := .agg ds) (by simp [results, Tryd.results77, asAddr, Act.put, hl0]) rfl ⟨by rw [HDS.out, HT.out], hba⟩
end Go.Proofs.YtfmaajfohieneaaDoor.Bx
