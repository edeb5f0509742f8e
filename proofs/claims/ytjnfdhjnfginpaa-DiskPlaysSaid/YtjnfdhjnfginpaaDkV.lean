/- Disks: Clone. -/
import Derived.Test.YtjnfdhjnfginpaaDkU
import Derived.Test.YtjnfdhjnfginpaaCpy
namespace Go.Proofs.Ytjnfdhjnfginpaa
set_option linter.unusedVariables false
set_option linter.unusedSimpArgs false
open Go Go.RowKit

theorem mk_wris (n : Nat) (hn : n ≤ 65536) (w : World) : (Instr.makeSlice 51 (.int .i64 (n : Int)) (.int .i64 (n : Int))).run Try.prog w = .ok (.slice (some ⟨w.heap.size, 0, none⟩) n n) (w.alloc (.cells (wcs (List.replicate n (0, z64))).toArray 59)) := by
  obtain ⟨i0, hi, hz, hs, hb⟩ := info_wrid
  have hr := run_make (P := Try.prog) w 51 59 i0 _ Try.underlying51 hi hz .i64 .i64 (n : Int) (n : Int) (by omega) (Int.le_refl _) (by rw [hb]; omega) (by omega)
  simp only [Int.toNat_natCast, hs] at hr
  rw [show (Value.agg (wcell (0, z64)).toArray).cells = (wcell (0, z64)).toArray from rfl, made_rws wcell (0, z64) 65 (wcell_len _) (by decide) n] at hr
  exact hr
theorem run_bxd (A A' : Option Addr) (n c n' c' : Nat) (f : Int) (d : Bool) (w : World) : (Instr.box 53 (.agg #[.slice A n c, .slice A' n' c', .int .i64 f, .bool d])).run Try.prog w = .ok (.pointer (some ⟨w.heap.size, 0, none⟩)) (w.alloc (.cells #[.slice A n c, .slice A' n' c', .int .i64 f, .bool d] 53)) := by kernel_rfl
theorem scs_one (l : List Sc) : ∀ u ∈ scs l, u.oneCell' = true := fun u hu => by
  unfold scs at hu
  obtain ⟨x, _, hx⟩ := List.mem_flatMap.1 hu
  exact scell_one x u hx

set_option maxRecDepth 100000 in
set_option maxHeartbeats 3200000 in
theorem clone_any (L g b : Nat) (r : Option Nat) (D : Dk) (w : World) (h : DkAt w L g b r D) (hs : D.s.length ≤ 2048) (hw : D.w.length ≤ 65536) :
    Calls Try.prog 10 #[.pointer (some ⟨g, 0, none⟩)] w fun e w' => ∃ g' b' r', e = .returned (.pointer (some ⟨g', 0, none⟩)) ∧ DkAt w' w.heap.size g' b' r' D ∧ Below w.heap.size w w' := by
  obtain ⟨A, c, h0, h1, h2, h3, hrow, hre, hz⟩ := h.cells
  have hg := h.lt.1
  have hL : L ≤ w.heap.size := Nat.le_trans h.Lg (Nat.le_of_lt hg)
  obtain ⟨i1, ji, jz0, jz1, jz2⟩ := info_secd
  obtain ⟨i2, ki, kz0, kz1, kz2⟩ := info_wrid
  have hsec := row_sees hrow
  have hsecs : ∀ wx, Le w wx → Sees wx wx.heap.size (some ⟨b, 0, none⟩) (scs D.s) := fun wx hl _ => ⟨b, 0, rfl, Nat.lt_of_lt_of_le h.lt.2 hl.size, fun j hj => by rw [Nat.zero_add]; exact (h.secs.later hl).cell (List.getElem?_eq_getElem hj)⟩
  have hwri : ∀ wx, Below w.heap.size w wx → Sees wx wx.heap.size A (wcs D.w) := fun wx hl => (hsec.below hl).more hl.size
  have HC0 : Hid (∀ wx, Below w.heap.size w wx → wx.cell? ⟨g, 0, none⟩ = some (.slice (some ⟨b, 0, none⟩) D.s.length D.s.length) ∧ wx.cell? ⟨g, 1, none⟩ = some (.slice A D.w.length c) ∧ wx.cell? ⟨g, 2, none⟩ = some (.int .i64 D.fuse) ∧ wx.cell? ⟨g, 3, none⟩ = some (.bool D.dead)) := Lib.hid (fun wx hl => ⟨(hl.cell (p := ⟨g, 0, none⟩) hg).trans h0, (hl.cell (p := ⟨g, 1, none⟩) hg).trans h1, (hl.cell (p := ⟨g, 2, none⟩) hg).trans h2, (hl.cell (p := ⟨g, 3, none⟩) hg).trans h3⟩)
  obtain ⟨xs, hxs⟩ : ∃ xs, xs = scs D.s := ⟨_, rfl⟩
  obtain ⟨ys, hys⟩ : ∃ ys, ys = wcs D.w := ⟨_, rfl⟩
  have HXL : Hid (xs.length = D.s.length * 65) := Lib.hid (by rw [hxs, scs_len])
  have HYL : Hid (ys.length = D.w.length * 65) := Lib.hid (by rw [hys, wcs_len])
  have HX1 : Hid (∀ u ∈ xs, u.oneCell' = true) := Lib.hid (by rw [hxs]; exact scs_one _)
  have HY1 : Hid (∀ u ∈ ys, u.oneCell' = true) := Lib.hid (by rw [hys]; exact wcs_one _)
  rw [← hxs] at hsecs
  rw [← hys] at hwri
  have HSS := Lib.hid hsecs
  have HSW := Lib.hid hwri
  have HXS := Lib.hid hxs
  have HYS := Lib.hid hys
  obtain ⟨ns, hns⟩ : ∃ ns, ns = D.s.length := ⟨_, rfl⟩
  obtain ⟨nw, hnw⟩ : ∃ nw, nw = D.w.length := ⟨_, rfl⟩
  obtain ⟨fu, hfu⟩ : ∃ fu, fu = D.fuse := ⟨_, rfl⟩
  obtain ⟨dd, hdd⟩ : ∃ dd, dd = D.dead := ⟨_, rfl⟩
  rw [← hns, ← hnw, ← hfu, ← hdd] at HC0
  rw [← hns] at HXL hs
  rw [← hnw] at HYL hw
  have HNS := Lib.hid hns
  have HNW := Lib.hid hnw
  have HFU := Lib.hid hfu
  have HDD := Lib.hid hdd
  obtain ⟨zx, hzx⟩ : ∃ zx, zx = scs (List.replicate ns (z64, false)) := ⟨_, rfl⟩
  obtain ⟨zy, hzy⟩ : ∃ zy, zy = wcs (List.replicate nw (0, z64)) := ⟨_, rfl⟩
  have HM1 : Hid (∀ wx : World, (Instr.makeSlice 50 (.int .i64 (ns : Int)) (.int .i64 (ns : Int))).run Try.prog wx = .ok (.slice (some ⟨wx.heap.size, 0, none⟩) ns ns) (wx.alloc (.cells zx.toArray 63))) := Lib.hid (fun wx => by rw [hzx]; exact mk_secs ns hs wx)
  have HM2 : Hid (∀ wx : World, (Instr.makeSlice 51 (.int .i64 (nw : Int)) (.int .i64 (nw : Int))).run Try.prog wx = .ok (.slice (some ⟨wx.heap.size, 0, none⟩) nw nw) (wx.alloc (.cells zy.toArray 59))) := Lib.hid (fun wx => by rw [hzy]; exact mk_wris nw hw wx)
  have HZX : Hid (zx.length = ns * 65) := Lib.hid (by rw [hzx, scs_len, List.length_replicate])
  have HZY : Hid (zy.length = nw * 65) := Lib.hid (by rw [hzy, wcs_len, List.length_replicate])
  clear h h0 h1 h2 h3 hrow hre hz hsec hsecs hwri hxs hys hns hnw hfu hdd hzx hzy hL
  go_enter Try.func10, Try.ntmps10
  go_wp2_with fail
  refine wp_region_tail [(11, relMk w.heap.size ns zx 63), (17, relMk w.heap.size nw zy 59)] 47 21 (by kernel_rfl) (by kernel_rfl) (by kernel_rfl) (by rfl) ?_
  simp only [List.take_succ_cons, List.take_zero, List.drop_succ_cons, List.drop_zero]
  iterate 3 (refine wpG_quiet (by rfl) (by rfl) (by rfl) (fun K hK => ?_); go_big_quiet_op; refine hK _ ?_; clear hK K)
  refine wpG_run (by rfl) (by rfl) (.slice (some ⟨b, 0, none⟩) ns ns) (fun w1 hl => by have := (HC0.out w1 hl.1).1; simp [go_sem, this]) ?_
  simp only [Act.put, List.setIfInBounds_toArray, List.set_cons_zero, List.set_cons_succ]
  iterate 1 (refine wpG_quiet (by rfl) (by rfl) (by rfl) (fun K hK => ?_); go_big_quiet_op; refine hK _ ?_; clear hK K)
  refine wpG_open (relMk w.heap.size ns zx 63) (by rfl) (by rfl) (fun w1 hl => mk_gives w.heap.size ns zx 50 63 (.tmp 10) (.tmp 10) rfl rfl rfl HM1.out w1 hl.1.size) ?_
  rintro _ ⟨_, _, _, ⟨g1, rfl, hg1, _⟩⟩
  simp only [Act.put, List.setIfInBounds_toArray, List.set_cons_zero, List.set_cons_succ]
  iterate 3 (refine wpG_quiet (by rfl) (by rfl) (by rfl) (fun K hK => ?_); go_big_quiet_op; refine hK _ ?_; clear hK K)
  refine wpG_run (by rfl) (by rfl) (.slice A nw c) (fun w1 hl => by have := (HC0.out w1 hl.1).2.1; simp [go_sem, this]) ?_
  simp only [Act.put, List.setIfInBounds_toArray, List.set_cons_zero, List.set_cons_succ]
  iterate 1 (refine wpG_quiet (by rfl) (by rfl) (by rfl) (fun K hK => ?_); go_big_quiet_op; refine hK _ ?_; clear hK K)
  refine wpG_open (relMk w.heap.size nw zy 59) (by rfl) (by rfl) (fun w1 hl => mk_gives w.heap.size nw zy 51 59 (.tmp 16) (.tmp 16) rfl rfl rfl HM2.out w1 hl.1.size) ?_
  rintro _ ⟨_, _, _, ⟨g2, rfl, hg2, _⟩⟩
  simp only [Act.put, List.setIfInBounds_toArray, List.set_cons_zero, List.set_cons_succ]
  iterate 3 (refine wpG_quiet (by rfl) (by rfl) (by rfl) (fun K hK => ?_); go_big_quiet_op; refine hK _ ?_; clear hK K)
  refine wpG_run (by rfl) (by rfl) (.int .i64 fu) (fun w1 hl => by have := (HC0.out w1 hl.1).2.2.1; simp [go_sem, this]) ?_
  simp only [Act.put, List.setIfInBounds_toArray, List.set_cons_zero, List.set_cons_succ]
  iterate 3 (refine wpG_quiet (by rfl) (by rfl) (by rfl) (fun K hK => ?_); go_big_quiet_op; refine hK _ ?_; clear hK K)
  refine wpG_run (by rfl) (by rfl) (.bool dd) (fun w1 hl => by have := (HC0.out w1 hl.1).2.2.2; simp [go_sem, this]) ?_
  simp only [Act.put, List.setIfInBounds_toArray, List.set_cons_zero, List.set_cons_succ]
  iterate 1 (refine wpG_quiet (by rfl) (by rfl) (by rfl) (fun K hK => ?_); go_big_quiet_op; refine hK _ ?_; clear hK K)
  refine wpG_nil fun w1 hl hS => ?_
  obtain ⟨⟨_, x1, e1, hg1, hb1⟩, x2, e2, hg2, hb2⟩ := hS
  obtain rfl : g1 = x1 := by injection e1 with e1; injection e1 with e1; injection e1
  obtain rfl : g2 = x2 := by injection e2 with e2; injection e2 with e2; injection e2
  have hne : g1 ≠ g2 := hb1.ne hb2 (by decide)
  have B3 : BT (w1.alloc (.cells #[.slice (some ⟨g1, 0, none⟩) ns ns, .slice (some ⟨g2, 0, none⟩) nw nw, .int .i64 fu, .bool dd] 53)) w1.heap.size [.slice (some ⟨g1, 0, none⟩) ns ns, .slice (some ⟨g2, 0, none⟩) nw nw, .int .i64 fu, .bool dd] 53 := BT.new w1 _ _
  have L3 := hl.alloc hl.size (.cells #[.slice (some ⟨g1, 0, none⟩) ns ns, .slice (some ⟨g2, 0, none⟩) nw nw, .int .i64 fu, .bool dd] 53)
  have hb1 := hb1.later ((Below.refl w1.heap.size w1).alloc (Nat.le_refl _) (.cells #[.slice (some ⟨g1, 0, none⟩) ns ns, .slice (some ⟨g2, 0, none⟩) nw nw, .int .i64 fu, .bool dd] 53))
  have hb2 := hb2.later ((Below.refl w1.heap.size w1).alloc (Nat.le_refl _) (.cells #[.slice (some ⟨g1, 0, none⟩) ns ns, .slice (some ⟨g2, 0, none⟩) nw nw, .int .i64 fu, .bool dd] 53))
  have n31 : w1.heap.size ≠ g1 := B3.ne hb1 (by decide)
  have n32 : w1.heap.size ≠ g2 := B3.ne hb2 (by decide)
  have hlg := hl.size
  clear hl e1 e2
  obtain ⟨g3, hg3⟩ : ∃ g3, g3 = w1.heap.size := ⟨_, rfl⟩
  rw [← hg3] at B3 n31 n32
  have hg3l : w.heap.size ≤ g3 := by omega
  have HG3 := Lib.hid hg3
  clear hg3 hlg
  go_wp2_with fail
  rw [← HG3.out]
  generalize hw2 : w1.alloc _ = w2
  rw [hw2] at B3 hb1 hb2 L3
  clear hw2
  have c0 : ∀ kk : LW w2, kk.val.cell? ⟨g3, 0, none⟩ = some (.slice (some ⟨g1, 0, none⟩) ns ns) := fun kk => (B3.later kk.le).blk.cell (j := 0) rfl
  have c1 : ∀ kk : LW w2, kk.val.cell? ⟨g, 0, none⟩ = some (.slice (some ⟨b, 0, none⟩) ns ns) := fun kk => (HC0.out kk.val (L3.trans (kk.le.mono L3.size))).1
  refine wp_region_tail [] 47 8 (by kernel_rfl) (by kernel_rfl) (by kernel_rfl) (by rfl) ?_
  simp only [List.take_succ_cons, List.take_zero, List.drop_succ_cons, List.drop_zero]
  iterate 8 (refine wpG_quiet (by rfl) (by rfl) (by rfl) (fun K hK => ?_); go_big_quiet_op; refine hK _ ?_; clear hK K)
  refine wpG_nil fun w3 hl _ => ?_
  clear c0 c1
  have B3 := B3.later hl
  have hb1 := hb1.later hl
  have hb2 := hb2.later hl
  have L3 := L3.trans (hl.mono L3.size)
  have HCP := Lib.hid (run_copy_whole (P := Try.prog) w3 50 3 63 i1 65 Try.underlying50 ji jz1 (by decide) g1 ns ns ns w3.heap.size (some ⟨b, 0, none⟩) xs zx HXL.out (HSS.out w3 L3) HX1.out hb1.blk (by rw [HXL.out, HZX.out]; exact Nat.le_refl _))
  have C1 := hb1.sets xs 0 (by rw [HXL.out, HZX.out]; omega)
  have e1 : zx.take 0 ++ xs ++ zx.drop (0 + xs.length) = xs := by rw [List.take_zero, List.nil_append, Nat.zero_add, HXL.out, ← HZX.out, List.drop_length, List.append_nil]
  rw [e1] at C1
  have hb2 := hb2.other hne xs 0
  have B3 := B3.other (Ne.symm n31) xs 0
  have L3 := below_sets hg1 xs 0 L3
  clear hb1 e1 hl
  refine wpList_copy rfl (.tmp 31) (.tmp 35) 50 50 rfl _ _ rfl rfl HCP.out ?_
  simp only [Act.put, List.setIfInBounds_toArray, List.set_cons_zero, List.set_cons_succ]
  clear HCP
  generalize hw4 : w3.setCells g1 0 xs = w4
  rw [hw4] at C1 hb2 B3 L3
  clear hw4
  go_wp2_with fail
  have c0 : ∀ kk : LW w4, kk.val.cell? ⟨g3, 1, none⟩ = some (.slice (some ⟨g2, 0, none⟩) nw nw) := fun kk => (B3.later kk.le).blk.cell (j := 1) rfl
  have c1 : ∀ kk : LW w4, kk.val.cell? ⟨g, 1, none⟩ = some (.slice A nw c) := fun kk => (HC0.out kk.val (L3.trans (kk.le.mono L3.size))).2.1
  refine wp_region_tail [] 47 8 (by kernel_rfl) (by kernel_rfl) (by kernel_rfl) (by rfl) ?_
  simp only [List.take_succ_cons, List.take_zero, List.drop_succ_cons, List.drop_zero]
  iterate 8 (refine wpG_quiet (by rfl) (by rfl) (by rfl) (fun K hK => ?_); go_big_quiet_op; refine hK _ ?_; clear hK K)
  refine wpG_nil fun w5 hl _ => ?_
  clear c0 c1
  have B3 := B3.later hl
  have C1 := C1.later hl
  have hb2 := hb2.later hl
  have L3 := L3.trans (hl.mono L3.size)
  have HCP := Lib.hid (run_copy_whole (P := Try.prog) w5 51 3 59 i2 65 Try.underlying51 ki kz1 (by decide) g2 nw nw c w5.heap.size A ys zy HYL.out (HSW.out w5 L3) HY1.out hb2.blk (by rw [HYL.out, HZY.out]; exact Nat.le_refl _))
  have C2 := hb2.sets ys 0 (by rw [HYL.out, HZY.out]; omega)
  have e1 : zy.take 0 ++ ys ++ zy.drop (0 + ys.length) = ys := by rw [List.take_zero, List.nil_append, Nat.zero_add, HYL.out, ← HZY.out, List.drop_length, List.append_nil]
  rw [e1] at C2
  have C1 := C1.other (Ne.symm hne) ys 0
  have B3 := B3.other (Ne.symm n32) ys 0
  have L3 := below_sets hg2 ys 0 L3
  clear hb2 e1 hl
  refine wpList_copy rfl (.tmp 40) (.tmp 44) 51 51 rfl _ _ rfl rfl HCP.out ?_
  simp only [Act.put, List.setIfInBounds_toArray, List.set_cons_zero, List.set_cons_succ]
  clear HCP
  generalize hw6 : w5.setCells g2 0 ys = w6
  rw [hw6] at C1 C2 B3 L3
  clear hw6
  have C1 := Lib.hid C1
  have C2 := Lib.hid C2
  have B3 := Lib.hid B3
  have L3 := Lib.hid L3
  have HNE := Lib.hid (And.intro hne (And.intro n31 n32))
  clear hne n31 n32
  go_wp2_with fail
  go_ret
  refine ⟨g3, g1, some g2, rfl, ⟨⟨some ⟨g2, 0, none⟩, nw, ?_, ?_, rfl⟩, ?_, HNE.out.2.1, ?_, ?_, hg3l, hg1⟩, L3.out⟩
  · rw [← HNS.out, ← HNW.out, ← HFU.out, ← HDD.out]
    exact B3.out.blk
  · rw [← HNW.out, ← HYS.out]
    refine ⟨HYL.out, .inr ⟨g2, nw, ys.toArray, rfl, hg2, C2.out, Nat.le_refl _, by unfold maxLen; omega, by rw [List.size_toArray]; exact HYL.out, ?_⟩⟩
    rw [← HYL.out]
    simp
  · rw [← HXS.out]
    exact C1.out.blk
  · intro e
    injection e with e
    exact HNE.out.2.2 e.symm
  · intro e
    injection e with e
    exact HNE.out.1 e.symm
end Go.Proofs.Ytjnfdhjnfginpaa
