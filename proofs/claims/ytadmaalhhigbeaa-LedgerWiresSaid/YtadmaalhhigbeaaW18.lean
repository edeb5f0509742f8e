/- Ledger: what the document's Put returns. -/
import Derived.Test.YtadmaalhhigbeaaW17
import Derived.Test.YtadmaalhhigbeaaW16
import Derived.Test.YtadmaalhhigbeaaW15
namespace Go.Proofs.Ytadmaalhhigbeaa
set_option linter.unusedVariables false
set_option linter.unusedSimpArgs false
open Go Go.RowKit OctM

set_option maxRecDepth 100000 in
set_option maxHeartbeats 6400000 in
theorem rlput_any (r : Rp) (w : World) (hr : okRp w r) (hz : r.n ≤ 65536) :
    Calls Try.prog 12 #[.agg (rpc r).toArray] w fun e w' => e = .returned (.string (str (putB r))) ∧ Below w.heap.size w w' := by
  obtain ⟨W0, hW0⟩ : ∃ W0, W0 = w.alloc (.cells (rpc r).toArray 26) := ⟨_, rfl⟩
  have HB0 : Hid (Below w.heap.size w W0) := Lib.hid (by rw [hW0]; exact below_a1 _ _)
  have HK0 : Hid (Blk W0 w.heap.size (rpc r)) := Lib.hid (by rw [hW0]; exact Blk.new _ _ _)
  have HCK := Lib.hid (rlcheck30_any r W0 (hr.later HB0.out) hz)
  obtain ⟨R, hR⟩ : ∃ R, R = str (putB r) := ⟨_, rfl⟩
  rw [← hR]
  by_cases hk : rok r
  · rw [decide_eq_true hk] at HCK
    have HRB : Hid (str (rbs r) = R) := Lib.hid (by rw [hR]; unfold putB; rw [if_pos hk])
    have hms : r.kd = 3 → r.cd = 0 → r.ms.toNat ≤ 511 := fun h3 h0 => ((hk.2.2.2.2.2 h0).2.2.1 h3).2.2.2.2
    have HPN := Lib.hid (fun W (hW : Below w.heap.size w W) => rput_nodes r.A r.n r.c r.f W hr.len (hr.later hW).see hr.cap)
    unfold rbs at HRB
    obtain ⟨kd, dv, rq, cd, id, vr, sq, ep, A, n, c, f, ms⟩ := r
    dsimp only [rpc] at hW0 HK0 HRB hms HPN ⊢
    have HW0 := Lib.hid hW0
    clear hr hW0 hk hR
    by_cases hcd : cd = 0
    · have g0 : (cd != 0) = false := by simp [hcd]
      rw [if_pos hcd] at HRB
      by_cases hk2 : kd = 2
      · have g2 : (kd == 2) = true := by simp [hk2]
        have g3 : (kd == 3) = false := by simp [hk2]
        rw [if_pos hk2] at HRB
        clear hms hcd hk2 HPN
        have H1 := Lib.hid (fun wx : World => ref_num kd wx)
        obtain ⟨t1, ht1⟩ : ∃ t, t = str (enc (held kd)) := ⟨_, rfl⟩
        rw [← ht1] at H1
        have zt1 : t1.size ≤ 6 := by rw [ht1, str_size]; exact held_len _
        have H2 := Lib.hid (fun wx : World => ref_num dv wx)
        obtain ⟨t2, ht2⟩ : ∃ t, t = str (enc (held dv)) := ⟨_, rfl⟩
        rw [← ht2] at H2
        have zt2 : t2.size ≤ 6 := by rw [ht2, str_size]; exact held_len _
        have H3 := Lib.hid (fun wx : World => ref_num rq wx)
        obtain ⟨t3, ht3⟩ : ∃ t, t = str (enc (held rq)) := ⟨_, rfl⟩
        rw [← ht3] at H3
        have zt3 : t3.size ≤ 6 := by rw [ht3, str_size]; exact held_len _
        have H4 := Lib.hid (fun wx : World => ref_num cd wx)
        obtain ⟨t4, ht4⟩ : ∃ t, t = str (enc (held cd)) := ⟨_, rfl⟩
        rw [← ht4] at H4
        have zt4 : t4.size ≤ 6 := by rw [ht4, str_size]; exact held_len _
        have H5 := Lib.hid (fun wx : World => ref_num sq wx)
        obtain ⟨t5, ht5⟩ : ∃ t, t = str (enc (held sq)) := ⟨_, rfl⟩
        rw [← ht5] at H5
        have zt5 : t5.size ≤ 6 := by rw [ht5, str_size]; exact held_len _
        have H6 := Lib.hid (fun wx : World => ref_num id wx)
        obtain ⟨t6, ht6⟩ : ∃ t, t = str (enc (held id)) := ⟨_, rfl⟩
        rw [← ht6] at H6
        have zt6 : t6.size ≤ 6 := by rw [ht6, str_size]; exact held_len _
        have H7 := Lib.hid (fun wx : World => ref_num vr wx)
        obtain ⟨t7, ht7⟩ : ∃ t, t = str (enc (held vr)) := ⟨_, rfl⟩
        rw [← ht7] at H7
        have zt7 : t7.size ≤ 6 := by rw [ht7, str_size]; exact held_len _
        obtain ⟨u2, hu2⟩ : ∃ u, u = t1 ++ t2 := ⟨_, rfl⟩
        have au2 : t1 ++ t2 = u2 := hu2.symm
        have zu2 : u2.size ≤ 12 := by rw [hu2, ByteArray.size_append]; omega
        obtain ⟨u3, hu3⟩ : ∃ u, u = u2 ++ t3 := ⟨_, rfl⟩
        have au3 : u2 ++ t3 = u3 := hu3.symm
        have zu3 : u3.size ≤ 18 := by rw [hu3, ByteArray.size_append]; omega
        obtain ⟨u4, hu4⟩ : ∃ u, u = u3 ++ t4 := ⟨_, rfl⟩
        have au4 : u3 ++ t4 = u4 := hu4.symm
        have zu4 : u4.size ≤ 24 := by rw [hu4, ByteArray.size_append]; omega
        obtain ⟨u5, hu5⟩ : ∃ u, u = u4 ++ t5 := ⟨_, rfl⟩
        have au5 : u4 ++ t5 = u5 := hu5.symm
        have zu5 : u5.size ≤ 30 := by rw [hu5, ByteArray.size_append]; omega
        obtain ⟨u6, hu6⟩ : ∃ u, u = u5 ++ t6 := ⟨_, rfl⟩
        have au6 : u5 ++ t6 = u6 := hu6.symm
        have zu6 : u6.size ≤ 36 := by rw [hu6, ByteArray.size_append]; omega
        obtain ⟨u7, hu7⟩ : ∃ u, u = u6 ++ t7 := ⟨_, rfl⟩
        have au7 : u6 ++ t7 = u7 := hu7.symm
        have zu7 : u7.size ≤ 42 := by rw [hu7, ByteArray.size_append]; omega
        have HRU : Hid (R = u7) := Lib.hid (by rw [← HRB.out]; simp only [hu7, hu6, hu5, hu4, hu3, hu2, ht1, ht2, ht3, ht4, ht5, ht6, ht7]; simp [numsB, str_append, ByteArray.append_assoc])
        clear ht1 ht2 ht3 ht4 ht5 ht6 ht7 hu2 hu3 hu4 hu5 hu6 hu7 HRB
        rw [HRU.out]
        go_enter Try.func12, Try.ntmps12
        go_wp2_with fail
        rw [← HW0.out]
        refine HCK.out.mono ?_
        rintro e w1 ⟨rfl, hb1⟩
        have HB1 := Lib.hid (HB0.out.trans (hb1.mono HB0.out.size))
        have HK1 := Lib.hid (HK0.out.later hb1)
        clear hb1 HCK HW0 HK0 HB0
        have ca0 : ∀ kk : LW w1, kk.val.cell? ⟨w.heap.size, 0, none⟩ = some (.int .i64 kd) := fun kk => (HK1.out.later kk.le).cell (j := 0) rfl
        have ca1 : ∀ kk : LW w1, kk.val.cell? ⟨w.heap.size, 1, none⟩ = some (.int .i64 dv) := fun kk => (HK1.out.later kk.le).cell (j := 1) rfl
        have ca2 : ∀ kk : LW w1, kk.val.cell? ⟨w.heap.size, 2, none⟩ = some (.int .i64 rq) := fun kk => (HK1.out.later kk.le).cell (j := 2) rfl
        have ca3 : ∀ kk : LW w1, kk.val.cell? ⟨w.heap.size, 3, none⟩ = some (.int .i64 cd) := fun kk => (HK1.out.later kk.le).cell (j := 3) rfl
        go_wp2_with fail
        refine wp_region_steady [] 61 (by kernel_rfl) (by kernel_rfl) (by kernel_rfl) (by rfl) ?_
        iterate 2 (refine wpG_quiet (by rfl) (by rfl) (by rfl) (fun K hK => ?_); go_big_quiet_op; refine hK _ ?_; clear hK K)
        refine wpG_call (by rfl) (by rfl) 44 #[.int .i64 kd] (.string t1) (by intro _; simp [go_sem]) (by kernel_rfl) (fun wx hl => H1.out wx) ?_
        simp only [Act.put, List.setIfInBounds_toArray, List.set_cons_zero, List.set_cons_succ]
        iterate 2 (refine wpG_quiet (by rfl) (by rfl) (by rfl) (fun K hK => ?_); go_big_quiet_op; refine hK _ ?_; clear hK K)
        refine wpG_call (by rfl) (by rfl) 44 #[.int .i64 dv] (.string t2) (by intro _; simp [go_sem]) (by kernel_rfl) (fun wx hl => H2.out wx) ?_
        simp only [Act.put, List.setIfInBounds_toArray, List.set_cons_zero, List.set_cons_succ]
        iterate 3 (refine wpG_quiet (by rfl) (by rfl) (by rfl) (fun K hK => ?_); go_big_quiet_op; refine hK _ ?_; clear hK K)
        refine wpG_call (by rfl) (by rfl) 44 #[.int .i64 rq] (.string t3) (by intro _; simp [go_sem]) (by kernel_rfl) (fun wx hl => H3.out wx) ?_
        simp only [Act.put, List.setIfInBounds_toArray, List.set_cons_zero, List.set_cons_succ]
        iterate 3 (refine wpG_quiet (by rfl) (by rfl) (by rfl) (fun K hK => ?_); go_big_quiet_op; refine hK _ ?_; clear hK K)
        refine wpG_call (by rfl) (by rfl) 44 #[.int .i64 cd] (.string t4) (by intro _; simp [go_sem]) (by kernel_rfl) (fun wx hl => H4.out wx) ?_
        simp only [Act.put, List.setIfInBounds_toArray, List.set_cons_zero, List.set_cons_succ]
        iterate 2 (refine wpG_quiet (by rfl) (by rfl) (by rfl) (fun K hK => ?_); go_big_quiet_op; refine hK _ ?_; clear hK K)
        refine wpG_nil fun w2 hl _ => ?_
        have HB2 := Lib.hid (HB1.out.trans (Below.mono hl HB1.out.size))
        have HK2 := Lib.hid (HK1.out.later hl)
        clear hl ca0 ca1 ca2 ca3 HB1 HK1
        have k0 := HK2.out.cell (j := 0) rfl
        have k3 := HK2.out.cell (j := 3) rfl
        have k6 := HK2.out.cell (j := 6) rfl
        go_wp2_with fail
        refine (H5.out _).mono ?_
        rintro e w3 ⟨rfl, hb3⟩
        have HB3 := Lib.hid (HB2.out.trans (hb3.mono HB2.out.size))
        have HK3 := Lib.hid (HK2.out.later hb3)
        clear hb3 k0 k3 k6 HB2 HK2
        have k0 := HK3.out.cell (j := 0) rfl
        have ca4 : ∀ kk : LW w3, kk.val.cell? ⟨w.heap.size, 4, none⟩ = some (.int .i64 id) := fun kk => (HK3.out.later kk.le).cell (j := 4) rfl
        have ca5 : ∀ kk : LW w3, kk.val.cell? ⟨w.heap.size, 5, none⟩ = some (.int .i64 vr) := fun kk => (HK3.out.later kk.le).cell (j := 5) rfl
        go_wp2_with fail
        refine wp_region_steady [] 61 (by kernel_rfl) (by kernel_rfl) (by kernel_rfl) (by rfl) ?_
        iterate 3 (refine wpG_quiet (by rfl) (by rfl) (by rfl) (fun K hK => ?_); go_big_quiet_op; refine hK _ ?_; clear hK K)
        refine wpG_call (by rfl) (by rfl) 44 #[.int .i64 id] (.string t6) (by intro _; simp [go_sem]) (by kernel_rfl) (fun wx hl => H6.out wx) ?_
        simp only [Act.put, List.setIfInBounds_toArray, List.set_cons_zero, List.set_cons_succ]
        iterate 3 (refine wpG_quiet (by rfl) (by rfl) (by rfl) (fun K hK => ?_); go_big_quiet_op; refine hK _ ?_; clear hK K)
        refine wpG_call (by rfl) (by rfl) 44 #[.int .i64 vr] (.string t7) (by intro _; simp [go_sem]) (by kernel_rfl) (fun wx hl => H7.out wx) ?_
        simp only [Act.put, List.setIfInBounds_toArray, List.set_cons_zero, List.set_cons_succ]
        iterate 2 (refine wpG_quiet (by rfl) (by rfl) (by rfl) (fun K hK => ?_); go_big_quiet_op; refine hK _ ?_; clear hK K)
        refine wpG_nil fun w4 hl _ => ?_
        have HB4 := Lib.hid (HB3.out.trans (Below.mono hl HB3.out.size))
        have HK4 := Lib.hid (HK3.out.later hl)
        clear hl ca4 ca5 HB3 HK3 k0
        have k0 := HK4.out.cell (j := 0) rfl
        go_wp2_with fail
        go_ret
        exact ⟨rfl, HB4.out⟩
      · have g2 : (kd == 2) = false := by simp [hk2]
        rw [if_neg hk2] at HRB
        by_cases hk3 : kd = 3
        · have g3 : (kd == 3) = true := by simp [hk3]
          rw [if_pos hk3] at HRB
          have hms5 := hms hk3 hcd
          clear hms hcd hk2 hk3
          have H1 := Lib.hid (fun wx : World => ref_num kd wx)
          obtain ⟨t1, ht1⟩ : ∃ t, t = str (enc (held kd)) := ⟨_, rfl⟩
          rw [← ht1] at H1
          have zt1 : t1.size ≤ 6 := by rw [ht1, str_size]; exact held_len _
          have H2 := Lib.hid (fun wx : World => ref_num dv wx)
          obtain ⟨t2, ht2⟩ : ∃ t, t = str (enc (held dv)) := ⟨_, rfl⟩
          rw [← ht2] at H2
          have zt2 : t2.size ≤ 6 := by rw [ht2, str_size]; exact held_len _
          have H3 := Lib.hid (fun wx : World => ref_num rq wx)
          obtain ⟨t3, ht3⟩ : ∃ t, t = str (enc (held rq)) := ⟨_, rfl⟩
          rw [← ht3] at H3
          have zt3 : t3.size ≤ 6 := by rw [ht3, str_size]; exact held_len _
          have H4 := Lib.hid (fun wx : World => ref_num cd wx)
          obtain ⟨t4, ht4⟩ : ∃ t, t = str (enc (held cd)) := ⟨_, rfl⟩
          rw [← ht4] at H4
          have zt4 : t4.size ≤ 6 := by rw [ht4, str_size]; exact held_len _
          have H5 := Lib.hid (fun wx : World => ref_num sq wx)
          obtain ⟨t5, ht5⟩ : ∃ t, t = str (enc (held sq)) := ⟨_, rfl⟩
          rw [← ht5] at H5
          have zt5 : t5.size ≤ 6 := by rw [ht5, str_size]; exact held_len _
          have H8 := Lib.hid (fun wx : World => ref_num ep wx)
          obtain ⟨t8, ht8⟩ : ∃ t, t = str (enc (held ep)) := ⟨_, rfl⟩
          rw [← ht8] at H8
          have zt8 : t8.size ≤ 6 := by rw [ht8, str_size]; exact held_len _
          have H10 := Lib.hid (fun wx : World => ref_num (ms.toNat : Int) wx)
          obtain ⟨t10, ht10⟩ : ∃ t, t = str (enc (held (ms.toNat : Int))) := ⟨_, rfl⟩
          rw [← ht10] at H10
          have zt10 : t10.size ≤ 6 := by rw [ht10, str_size]; exact held_len _
          obtain ⟨t9, ht9⟩ : ∃ t, t = str (lbs f) := ⟨_, rfl⟩
          rw [← ht9] at HPN
          have zt9 : t9.size ≤ 1700 := by rw [ht9, str_size]; have := lbs_len f; omega
          obtain ⟨u2, hu2⟩ : ∃ u, u = t1 ++ t2 := ⟨_, rfl⟩
          have au2 : t1 ++ t2 = u2 := hu2.symm
          have zu2 : u2.size ≤ 12 := by rw [hu2, ByteArray.size_append]; omega
          obtain ⟨u3, hu3⟩ : ∃ u, u = u2 ++ t3 := ⟨_, rfl⟩
          have au3 : u2 ++ t3 = u3 := hu3.symm
          have zu3 : u3.size ≤ 18 := by rw [hu3, ByteArray.size_append]; omega
          obtain ⟨u4, hu4⟩ : ∃ u, u = u3 ++ t4 := ⟨_, rfl⟩
          have au4 : u3 ++ t4 = u4 := hu4.symm
          have zu4 : u4.size ≤ 24 := by rw [hu4, ByteArray.size_append]; omega
          obtain ⟨u5, hu5⟩ : ∃ u, u = u4 ++ t5 := ⟨_, rfl⟩
          have au5 : u4 ++ t5 = u5 := hu5.symm
          have zu5 : u5.size ≤ 30 := by rw [hu5, ByteArray.size_append]; omega
          obtain ⟨u8, hu8⟩ : ∃ u, u = u5 ++ t8 := ⟨_, rfl⟩
          have au8 : u5 ++ t8 = u8 := hu8.symm
          have zu8 : u8.size ≤ 36 := by rw [hu8, ByteArray.size_append]; omega
          obtain ⟨u9, hu9⟩ : ∃ u, u = u8 ++ t9 := ⟨_, rfl⟩
          have au9 : u8 ++ t9 = u9 := hu9.symm
          have zu9 : u9.size ≤ 1800 := by rw [hu9, ByteArray.size_append]; omega
          obtain ⟨u10, hu10⟩ : ∃ u, u = u9 ++ t10 := ⟨_, rfl⟩
          have au10 : u9 ++ t10 = u10 := hu10.symm
          have zu10 : u10.size ≤ 1806 := by rw [hu10, ByteArray.size_append]; omega
          have HRU : Hid (R = u10) := Lib.hid (by rw [← HRB.out]; simp only [hu10, hu9, hu8, hu5, hu4, hu3, hu2, ht1, ht2, ht3, ht4, ht5, ht8, ht10, ht9]; simp [numsB, str_append, ByteArray.append_assoc])
          clear ht1 ht2 ht3 ht4 ht5 ht8 ht10 ht9 hu2 hu3 hu4 hu5 hu8 hu9 hu10 HRB
          rw [HRU.out]
          go_enter Try.func12, Try.ntmps12
          go_wp2_with fail
          rw [← HW0.out]
          refine HCK.out.mono ?_
          rintro e w1 ⟨rfl, hb1⟩
          have HB1 := Lib.hid (HB0.out.trans (hb1.mono HB0.out.size))
          have HK1 := Lib.hid (HK0.out.later hb1)
          clear hb1 HCK HW0 HK0 HB0
          have ca0 : ∀ kk : LW w1, kk.val.cell? ⟨w.heap.size, 0, none⟩ = some (.int .i64 kd) := fun kk => (HK1.out.later kk.le).cell (j := 0) rfl
          have ca1 : ∀ kk : LW w1, kk.val.cell? ⟨w.heap.size, 1, none⟩ = some (.int .i64 dv) := fun kk => (HK1.out.later kk.le).cell (j := 1) rfl
          have ca2 : ∀ kk : LW w1, kk.val.cell? ⟨w.heap.size, 2, none⟩ = some (.int .i64 rq) := fun kk => (HK1.out.later kk.le).cell (j := 2) rfl
          have ca3 : ∀ kk : LW w1, kk.val.cell? ⟨w.heap.size, 3, none⟩ = some (.int .i64 cd) := fun kk => (HK1.out.later kk.le).cell (j := 3) rfl
          go_wp2_with fail
          refine wp_region_steady [] 61 (by kernel_rfl) (by kernel_rfl) (by kernel_rfl) (by rfl) ?_
          iterate 2 (refine wpG_quiet (by rfl) (by rfl) (by rfl) (fun K hK => ?_); go_big_quiet_op; refine hK _ ?_; clear hK K)
          refine wpG_call (by rfl) (by rfl) 44 #[.int .i64 kd] (.string t1) (by intro _; simp [go_sem]) (by kernel_rfl) (fun wx hl => H1.out wx) ?_
          simp only [Act.put, List.setIfInBounds_toArray, List.set_cons_zero, List.set_cons_succ]
          iterate 2 (refine wpG_quiet (by rfl) (by rfl) (by rfl) (fun K hK => ?_); go_big_quiet_op; refine hK _ ?_; clear hK K)
          refine wpG_call (by rfl) (by rfl) 44 #[.int .i64 dv] (.string t2) (by intro _; simp [go_sem]) (by kernel_rfl) (fun wx hl => H2.out wx) ?_
          simp only [Act.put, List.setIfInBounds_toArray, List.set_cons_zero, List.set_cons_succ]
          iterate 3 (refine wpG_quiet (by rfl) (by rfl) (by rfl) (fun K hK => ?_); go_big_quiet_op; refine hK _ ?_; clear hK K)
          refine wpG_call (by rfl) (by rfl) 44 #[.int .i64 rq] (.string t3) (by intro _; simp [go_sem]) (by kernel_rfl) (fun wx hl => H3.out wx) ?_
          simp only [Act.put, List.setIfInBounds_toArray, List.set_cons_zero, List.set_cons_succ]
          iterate 3 (refine wpG_quiet (by rfl) (by rfl) (by rfl) (fun K hK => ?_); go_big_quiet_op; refine hK _ ?_; clear hK K)
          refine wpG_call (by rfl) (by rfl) 44 #[.int .i64 cd] (.string t4) (by intro _; simp [go_sem]) (by kernel_rfl) (fun wx hl => H4.out wx) ?_
          simp only [Act.put, List.setIfInBounds_toArray, List.set_cons_zero, List.set_cons_succ]
          iterate 2 (refine wpG_quiet (by rfl) (by rfl) (by rfl) (fun K hK => ?_); go_big_quiet_op; refine hK _ ?_; clear hK K)
          refine wpG_nil fun w2 hl _ => ?_
          have HB2 := Lib.hid (HB1.out.trans (Below.mono hl HB1.out.size))
          have HK2 := Lib.hid (HK1.out.later hl)
          clear hl ca0 ca1 ca2 ca3 HB1 HK1
          have k0 := HK2.out.cell (j := 0) rfl
          have k3 := HK2.out.cell (j := 3) rfl
          have k6 := HK2.out.cell (j := 6) rfl
          go_wp2_with fail
          refine (H5.out _).mono ?_
          rintro e w3 ⟨rfl, hb3⟩
          have HB3 := Lib.hid (HB2.out.trans (hb3.mono HB2.out.size))
          have HK3 := Lib.hid (HK2.out.later hb3)
          clear hb3 k0 k3 k6 HB2 HK2
          have k0 := HK3.out.cell (j := 0) rfl
          have HPW : Hid (∀ W, Le w3 W → Calls Try.prog 45 #[.slice A n c] W fun e w' => e = .returned (.string t9) ∧ Below W.heap.size W w') := Lib.hid (fun W hl => HPN.out W (HB3.out.trans (Below.mono hl HB3.out.size)))
          have ca7 : ∀ kk : LW w3, kk.val.cell? ⟨w.heap.size, 7, none⟩ = some (.int .i64 ep) := fun kk => (HK3.out.later kk.le).cell (j := 7) rfl
          have ca8 : ∀ kk : LW w3, kk.val.cell? ⟨w.heap.size, 8, none⟩ = some (.slice A n c) := fun kk => (HK3.out.later kk.le).cell (j := 8) rfl
          have ca9 : ∀ kk : LW w3, kk.val.cell? ⟨w.heap.size, 9, none⟩ = some (.int .u32 (ms.toNat : Int)) := fun kk => (HK3.out.later kk.le).cell (j := 9) rfl
          go_wp2_with fail
          refine wp_region_steady [] 61 (by kernel_rfl) (by kernel_rfl) (by kernel_rfl) (by rfl) ?_
          iterate 3 (refine wpG_quiet (by rfl) (by rfl) (by rfl) (fun K hK => ?_); go_big_quiet_op; refine hK _ ?_; clear hK K)
          refine wpG_call (by rfl) (by rfl) 44 #[.int .i64 ep] (.string t8) (by intro _; simp [go_sem]) (by kernel_rfl) (fun wx hl => H8.out wx) ?_
          simp only [Act.put, List.setIfInBounds_toArray, List.set_cons_zero, List.set_cons_succ]
          iterate 3 (refine wpG_quiet (by rfl) (by rfl) (by rfl) (fun K hK => ?_); go_big_quiet_op; refine hK _ ?_; clear hK K)
          refine wpG_call (by rfl) (by rfl) 45 #[.slice A n c] (.string t9) (by intro _; simp [go_sem]) (by kernel_rfl) (fun wx hl => HPW.out wx hl.1) ?_
          simp only [Act.put, List.setIfInBounds_toArray, List.set_cons_zero, List.set_cons_succ]
          iterate 4 (refine wpG_quiet (by rfl) (by rfl) (by rfl) (fun K hK => ?_); go_big_quiet_op; refine hK _ ?_; clear hK K)
          refine wpG_call (by rfl) (by rfl) 44 #[.int .i64 (ms.toNat : Int)] (.string t10) (by intro _; simp [go_sem]) (by kernel_rfl) (fun wx hl => H10.out wx) ?_
          simp only [Act.put, List.setIfInBounds_toArray, List.set_cons_zero, List.set_cons_succ]
          iterate 2 (refine wpG_quiet (by rfl) (by rfl) (by rfl) (fun K hK => ?_); go_big_quiet_op; refine hK _ ?_; clear hK K)
          refine wpG_nil fun w4 hl _ => ?_
          have HB4 := Lib.hid (HB3.out.trans (Below.mono hl HB3.out.size))
          have HK4 := Lib.hid (HK3.out.later hl)
          clear hl ca7 ca8 ca9 HB3 HK3 k0
          have k0 := HK4.out.cell (j := 0) rfl
          go_wp2_with fail
          go_ret
          exact ⟨rfl, HB4.out⟩
        · have g3 : (kd == 3) = false := by simp [hk3]
          rw [if_neg hk3] at HRB
          clear hms hcd hk2 hk3 HPN
          have H1 := Lib.hid (fun wx : World => ref_num kd wx)
          obtain ⟨t1, ht1⟩ : ∃ t, t = str (enc (held kd)) := ⟨_, rfl⟩
          rw [← ht1] at H1
          have zt1 : t1.size ≤ 6 := by rw [ht1, str_size]; exact held_len _
          have H2 := Lib.hid (fun wx : World => ref_num dv wx)
          obtain ⟨t2, ht2⟩ : ∃ t, t = str (enc (held dv)) := ⟨_, rfl⟩
          rw [← ht2] at H2
          have zt2 : t2.size ≤ 6 := by rw [ht2, str_size]; exact held_len _
          have H3 := Lib.hid (fun wx : World => ref_num rq wx)
          obtain ⟨t3, ht3⟩ : ∃ t, t = str (enc (held rq)) := ⟨_, rfl⟩
          rw [← ht3] at H3
          have zt3 : t3.size ≤ 6 := by rw [ht3, str_size]; exact held_len _
          have H4 := Lib.hid (fun wx : World => ref_num cd wx)
          obtain ⟨t4, ht4⟩ : ∃ t, t = str (enc (held cd)) := ⟨_, rfl⟩
          rw [← ht4] at H4
          have zt4 : t4.size ≤ 6 := by rw [ht4, str_size]; exact held_len _
          have H5 := Lib.hid (fun wx : World => ref_num sq wx)
          obtain ⟨t5, ht5⟩ : ∃ t, t = str (enc (held sq)) := ⟨_, rfl⟩
          rw [← ht5] at H5
          have zt5 : t5.size ≤ 6 := by rw [ht5, str_size]; exact held_len _
          obtain ⟨u2, hu2⟩ : ∃ u, u = t1 ++ t2 := ⟨_, rfl⟩
          have au2 : t1 ++ t2 = u2 := hu2.symm
          have zu2 : u2.size ≤ 12 := by rw [hu2, ByteArray.size_append]; omega
          obtain ⟨u3, hu3⟩ : ∃ u, u = u2 ++ t3 := ⟨_, rfl⟩
          have au3 : u2 ++ t3 = u3 := hu3.symm
          have zu3 : u3.size ≤ 18 := by rw [hu3, ByteArray.size_append]; omega
          obtain ⟨u4, hu4⟩ : ∃ u, u = u3 ++ t4 := ⟨_, rfl⟩
          have au4 : u3 ++ t4 = u4 := hu4.symm
          have zu4 : u4.size ≤ 24 := by rw [hu4, ByteArray.size_append]; omega
          obtain ⟨u5, hu5⟩ : ∃ u, u = u4 ++ t5 := ⟨_, rfl⟩
          have au5 : u4 ++ t5 = u5 := hu5.symm
          have zu5 : u5.size ≤ 30 := by rw [hu5, ByteArray.size_append]; omega
          have HRU : Hid (R = u5) := Lib.hid (by rw [← HRB.out]; simp only [hu5, hu4, hu3, hu2, ht1, ht2, ht3, ht4, ht5]; simp [numsB, str_append, ByteArray.append_assoc])
          clear ht1 ht2 ht3 ht4 ht5 hu2 hu3 hu4 hu5 HRB
          rw [HRU.out]
          go_enter Try.func12, Try.ntmps12
          go_wp2_with fail
          rw [← HW0.out]
          refine HCK.out.mono ?_
          rintro e w1 ⟨rfl, hb1⟩
          have HB1 := Lib.hid (HB0.out.trans (hb1.mono HB0.out.size))
          have HK1 := Lib.hid (HK0.out.later hb1)
          clear hb1 HCK HW0 HK0 HB0
          have ca0 : ∀ kk : LW w1, kk.val.cell? ⟨w.heap.size, 0, none⟩ = some (.int .i64 kd) := fun kk => (HK1.out.later kk.le).cell (j := 0) rfl
          have ca1 : ∀ kk : LW w1, kk.val.cell? ⟨w.heap.size, 1, none⟩ = some (.int .i64 dv) := fun kk => (HK1.out.later kk.le).cell (j := 1) rfl
          have ca2 : ∀ kk : LW w1, kk.val.cell? ⟨w.heap.size, 2, none⟩ = some (.int .i64 rq) := fun kk => (HK1.out.later kk.le).cell (j := 2) rfl
          have ca3 : ∀ kk : LW w1, kk.val.cell? ⟨w.heap.size, 3, none⟩ = some (.int .i64 cd) := fun kk => (HK1.out.later kk.le).cell (j := 3) rfl
          go_wp2_with fail
          refine wp_region_steady [] 61 (by kernel_rfl) (by kernel_rfl) (by kernel_rfl) (by rfl) ?_
          iterate 2 (refine wpG_quiet (by rfl) (by rfl) (by rfl) (fun K hK => ?_); go_big_quiet_op; refine hK _ ?_; clear hK K)
          refine wpG_call (by rfl) (by rfl) 44 #[.int .i64 kd] (.string t1) (by intro _; simp [go_sem]) (by kernel_rfl) (fun wx hl => H1.out wx) ?_
          simp only [Act.put, List.setIfInBounds_toArray, List.set_cons_zero, List.set_cons_succ]
          iterate 2 (refine wpG_quiet (by rfl) (by rfl) (by rfl) (fun K hK => ?_); go_big_quiet_op; refine hK _ ?_; clear hK K)
          refine wpG_call (by rfl) (by rfl) 44 #[.int .i64 dv] (.string t2) (by intro _; simp [go_sem]) (by kernel_rfl) (fun wx hl => H2.out wx) ?_
          simp only [Act.put, List.setIfInBounds_toArray, List.set_cons_zero, List.set_cons_succ]
          iterate 3 (refine wpG_quiet (by rfl) (by rfl) (by rfl) (fun K hK => ?_); go_big_quiet_op; refine hK _ ?_; clear hK K)
          refine wpG_call (by rfl) (by rfl) 44 #[.int .i64 rq] (.string t3) (by intro _; simp [go_sem]) (by kernel_rfl) (fun wx hl => H3.out wx) ?_
          simp only [Act.put, List.setIfInBounds_toArray, List.set_cons_zero, List.set_cons_succ]
          iterate 3 (refine wpG_quiet (by rfl) (by rfl) (by rfl) (fun K hK => ?_); go_big_quiet_op; refine hK _ ?_; clear hK K)
          refine wpG_call (by rfl) (by rfl) 44 #[.int .i64 cd] (.string t4) (by intro _; simp [go_sem]) (by kernel_rfl) (fun wx hl => H4.out wx) ?_
          simp only [Act.put, List.setIfInBounds_toArray, List.set_cons_zero, List.set_cons_succ]
          iterate 2 (refine wpG_quiet (by rfl) (by rfl) (by rfl) (fun K hK => ?_); go_big_quiet_op; refine hK _ ?_; clear hK K)
          refine wpG_nil fun w2 hl _ => ?_
          have HB2 := Lib.hid (HB1.out.trans (Below.mono hl HB1.out.size))
          have HK2 := Lib.hid (HK1.out.later hl)
          clear hl ca0 ca1 ca2 ca3 HB1 HK1
          have k0 := HK2.out.cell (j := 0) rfl
          have k3 := HK2.out.cell (j := 3) rfl
          have k6 := HK2.out.cell (j := 6) rfl
          go_wp2_with fail
          refine (H5.out _).mono ?_
          rintro e w3 ⟨rfl, hb3⟩
          have HB3 := Lib.hid (HB2.out.trans (hb3.mono HB2.out.size))
          have HK3 := Lib.hid (HK2.out.later hb3)
          clear hb3 k0 k3 k6 HB2 HK2
          have k0 := HK3.out.cell (j := 0) rfl
          go_wp2_with fail
          go_ret
          exact ⟨rfl, HB3.out⟩
    · have g0 : (cd != 0) = true := by simp [hcd]
      rw [if_neg hcd] at HRB
      clear hms hcd HPN
      have H1 := Lib.hid (fun wx : World => ref_num kd wx)
      obtain ⟨t1, ht1⟩ : ∃ t, t = str (enc (held kd)) := ⟨_, rfl⟩
      rw [← ht1] at H1
      have zt1 : t1.size ≤ 6 := by rw [ht1, str_size]; exact held_len _
      have H2 := Lib.hid (fun wx : World => ref_num dv wx)
      obtain ⟨t2, ht2⟩ : ∃ t, t = str (enc (held dv)) := ⟨_, rfl⟩
      rw [← ht2] at H2
      have zt2 : t2.size ≤ 6 := by rw [ht2, str_size]; exact held_len _
      have H3 := Lib.hid (fun wx : World => ref_num rq wx)
      obtain ⟨t3, ht3⟩ : ∃ t, t = str (enc (held rq)) := ⟨_, rfl⟩
      rw [← ht3] at H3
      have zt3 : t3.size ≤ 6 := by rw [ht3, str_size]; exact held_len _
      have H4 := Lib.hid (fun wx : World => ref_num cd wx)
      obtain ⟨t4, ht4⟩ : ∃ t, t = str (enc (held cd)) := ⟨_, rfl⟩
      rw [← ht4] at H4
      have zt4 : t4.size ≤ 6 := by rw [ht4, str_size]; exact held_len _
      obtain ⟨u2, hu2⟩ : ∃ u, u = t1 ++ t2 := ⟨_, rfl⟩
      have au2 : t1 ++ t2 = u2 := hu2.symm
      have zu2 : u2.size ≤ 12 := by rw [hu2, ByteArray.size_append]; omega
      obtain ⟨u3, hu3⟩ : ∃ u, u = u2 ++ t3 := ⟨_, rfl⟩
      have au3 : u2 ++ t3 = u3 := hu3.symm
      have zu3 : u3.size ≤ 18 := by rw [hu3, ByteArray.size_append]; omega
      obtain ⟨u4, hu4⟩ : ∃ u, u = u3 ++ t4 := ⟨_, rfl⟩
      have au4 : u3 ++ t4 = u4 := hu4.symm
      have zu4 : u4.size ≤ 24 := by rw [hu4, ByteArray.size_append]; omega
      have HRU : Hid (R = u4) := Lib.hid (by rw [← HRB.out]; simp only [hu4, hu3, hu2, ht1, ht2, ht3, ht4]; simp [numsB, str_append, ByteArray.append_assoc])
      clear ht1 ht2 ht3 ht4 hu2 hu3 hu4 HRB
      rw [HRU.out]
      go_enter Try.func12, Try.ntmps12
      go_wp2_with fail
      rw [← HW0.out]
      refine HCK.out.mono ?_
      rintro e w1 ⟨rfl, hb1⟩
      have HB1 := Lib.hid (HB0.out.trans (hb1.mono HB0.out.size))
      have HK1 := Lib.hid (HK0.out.later hb1)
      clear hb1 HCK HW0 HK0 HB0
      have ca0 : ∀ kk : LW w1, kk.val.cell? ⟨w.heap.size, 0, none⟩ = some (.int .i64 kd) := fun kk => (HK1.out.later kk.le).cell (j := 0) rfl
      have ca1 : ∀ kk : LW w1, kk.val.cell? ⟨w.heap.size, 1, none⟩ = some (.int .i64 dv) := fun kk => (HK1.out.later kk.le).cell (j := 1) rfl
      have ca2 : ∀ kk : LW w1, kk.val.cell? ⟨w.heap.size, 2, none⟩ = some (.int .i64 rq) := fun kk => (HK1.out.later kk.le).cell (j := 2) rfl
      have ca3 : ∀ kk : LW w1, kk.val.cell? ⟨w.heap.size, 3, none⟩ = some (.int .i64 cd) := fun kk => (HK1.out.later kk.le).cell (j := 3) rfl
      go_wp2_with fail
      refine wp_region_steady [] 61 (by kernel_rfl) (by kernel_rfl) (by kernel_rfl) (by rfl) ?_
      iterate 2 (refine wpG_quiet (by rfl) (by rfl) (by rfl) (fun K hK => ?_); go_big_quiet_op; refine hK _ ?_; clear hK K)
      refine wpG_call (by rfl) (by rfl) 44 #[.int .i64 kd] (.string t1) (by intro _; simp [go_sem]) (by kernel_rfl) (fun wx hl => H1.out wx) ?_
      simp only [Act.put, List.setIfInBounds_toArray, List.set_cons_zero, List.set_cons_succ]
      iterate 2 (refine wpG_quiet (by rfl) (by rfl) (by rfl) (fun K hK => ?_); go_big_quiet_op; refine hK _ ?_; clear hK K)
      refine wpG_call (by rfl) (by rfl) 44 #[.int .i64 dv] (.string t2) (by intro _; simp [go_sem]) (by kernel_rfl) (fun wx hl => H2.out wx) ?_
      simp only [Act.put, List.setIfInBounds_toArray, List.set_cons_zero, List.set_cons_succ]
      iterate 3 (refine wpG_quiet (by rfl) (by rfl) (by rfl) (fun K hK => ?_); go_big_quiet_op; refine hK _ ?_; clear hK K)
      refine wpG_call (by rfl) (by rfl) 44 #[.int .i64 rq] (.string t3) (by intro _; simp [go_sem]) (by kernel_rfl) (fun wx hl => H3.out wx) ?_
      simp only [Act.put, List.setIfInBounds_toArray, List.set_cons_zero, List.set_cons_succ]
      iterate 3 (refine wpG_quiet (by rfl) (by rfl) (by rfl) (fun K hK => ?_); go_big_quiet_op; refine hK _ ?_; clear hK K)
      refine wpG_call (by rfl) (by rfl) 44 #[.int .i64 cd] (.string t4) (by intro _; simp [go_sem]) (by kernel_rfl) (fun wx hl => H4.out wx) ?_
      simp only [Act.put, List.setIfInBounds_toArray, List.set_cons_zero, List.set_cons_succ]
      iterate 2 (refine wpG_quiet (by rfl) (by rfl) (by rfl) (fun K hK => ?_); go_big_quiet_op; refine hK _ ?_; clear hK K)
      refine wpG_nil fun w2 hl _ => ?_
      have HB2 := Lib.hid (HB1.out.trans (Below.mono hl HB1.out.size))
      have HK2 := Lib.hid (HK1.out.later hl)
      clear hl ca0 ca1 ca2 ca3 HB1 HK1
      have k0 := HK2.out.cell (j := 0) rfl
      have k3 := HK2.out.cell (j := 3) rfl
      have k6 := HK2.out.cell (j := 6) rfl
      go_wp2_with fail
      go_ret
      exact ⟨rfl, HB2.out⟩
  · rw [decide_eq_false hk] at HCK
    have HRB : Hid (R = ⟨#[]⟩) := Lib.hid (by rw [hR]; unfold putB; rw [if_neg hk]; rfl)
    rw [HRB.out]
    obtain ⟨kd, dv, rq, cd, id, vr, sq, ep, A, n, c, f, ms⟩ := r
    dsimp only [rpc] at hW0 HK0 ⊢
    have HW0 := Lib.hid hW0
    clear hr hW0 hk HRB hR
    go_enter Try.func12, Try.ntmps12
    go_wp2_with fail
    rw [← HW0.out]
    refine HCK.out.mono ?_
    rintro e w1 ⟨rfl, hb1⟩
    have HB1 := Lib.hid (HB0.out.trans (hb1.mono HB0.out.size))
    clear hb1 HCK
    go_wp2_with fail
    go_ret
    exact ⟨rfl, HB1.out⟩
end Go.Proofs.Ytadmaalhhigbeaa

/- Filters as bytes: what was put is read, and what is read was put: mathematics. -/
namespace Go.Proofs.Ytadmaalhhigbeaa
set_option linter.unusedVariables false
set_option linter.unusedSimpArgs false
open Go Go.RowKit OctM

/-- What a node that may be is. -/
theorem nok_parts {n : Nd} (h : nok n = true) : 1 ≤ n.1 ∧ n.1 ≤ 12 ∧ (hasN n.1 = true → 0 ≤ n.2.1 ∧ n.2.1 ≤ npm n.1) ∧ (hasN n.1 = false → n.2.1 = 0) ∧ (hasV n.1 = true → vchk n.2.2 = true) ∧ (hasV n.1 = false → n.2.2 = zv) := by
  obtain ⟨op, m, v⟩ := n
  unfold nok at h
  simp only at h ⊢
  have dN : ∀ b, hasN op = b → decide (3 ≤ op ∧ op ≤ 9) = b := fun b h => h
  have dV : ∀ b, hasV op = b → decide (6 ≤ op ∧ op ≤ 9) = b := fun b h => h
  by_cases c1 : op = 1 ∨ op = 2 ∨ op = 10 ∨ op = 11 ∨ op = 12
  · rw [if_pos c1] at h
    have h := of_decide_eq_true h
    refine ⟨by omega, by omega, fun hh => ?_, fun _ => h.1, fun hh => ?_, fun _ => h.2⟩
    · have := of_decide_eq_true (dN _ hh); omega
    · have := of_decide_eq_true (dV _ hh); omega
  · rw [if_neg c1] at h
    by_cases c2 : op = 3 ∨ op = 4
    · rw [if_pos c2] at h
      have h := of_decide_eq_true h
      refine ⟨by omega, by omega, fun _ => ⟨h.1, by unfold npm; rw [if_pos c2]; omega⟩, fun hh => ?_, fun hh => ?_, fun _ => h.2.2⟩
      · have := of_decide_eq_false (dN _ hh); omega
      · have := of_decide_eq_true (dV _ hh); omega
    · rw [if_neg c2] at h
      have p7 : hasN op = true → npm op = 7 := fun hh => by unfold npm; rw [if_neg c2, if_pos hh]
      by_cases c3 : op = 5
      · rw [if_pos c3] at h
        have h := of_decide_eq_true h
        refine ⟨by omega, by omega, fun hh => ⟨h.1, by rw [p7 hh]; omega⟩, fun hh => ?_, fun hh => ?_, fun _ => h.2.2⟩
        · have := of_decide_eq_false (dN _ hh); omega
        · have := of_decide_eq_true (dV _ hh); omega
      · rw [if_neg c3] at h
        by_cases c4 : op = 6 ∨ op = 7 ∨ op = 8
        · rw [if_pos c4] at h
          have h := of_decide_eq_true h
          refine ⟨by omega, by omega, fun hh => ⟨h.1, by rw [p7 hh]; omega⟩, fun hh => ?_, fun _ => h.2.2.1, fun hh => ?_⟩
          · have := of_decide_eq_false (dN _ hh); omega
          · have := of_decide_eq_false (dV _ hh); omega
        · rw [if_neg c4] at h
          by_cases c5 : op = 9
          · rw [if_pos c5] at h
            have h := of_decide_eq_true h
            refine ⟨by omega, by omega, fun hh => ⟨h.1, by rw [p7 hh]; omega⟩, fun hh => ?_, fun _ => h.2.2.1, fun hh => ?_⟩
            · have := of_decide_eq_false (dN _ hh); omega
            · have := of_decide_eq_false (dV _ hh); omega
          · rw [if_neg c5] at h; cases h
theorem npm_small (op : Int) : npm op ≤ 15 := by
  unfold npm
  split
  · omega
  · split <;> omega
theorem nbs_ok {n : Nd} (h : nok n = true) : (nbs n).length ≤ 42 := by
  obtain ⟨h1, h2, h3, h4, h5, h6⟩ := nok_parts h
  have hs := npm_small n.1
  have o1 : (enc (held n.1)).length = 1 := by
    have := held_self (n := n.1) (by omega) (by omega)
    rw [enc_low (by omega)]; rfl
  have o2 : (if hasN n.1 = true then enc (held n.2.1) else []).length ≤ 1 := by
    split
    · rename_i hN
      obtain ⟨g1, g2⟩ := h3 hN
      have := held_self (n := n.2.1) g1 (by omega)
      rw [enc_low (by omega)]; exact Nat.le_refl _
    · simp
  have o3 := vbs_len n.2.2
  have o4 : (if hasV n.1 = true then vbs n.2.2 else []).length ≤ 40 := by split <;> simp_all
  unfold nbs
  simp only [List.length_append]
  omega
theorem lbs_small (l : List Nd) : (lbs l).length ≤ 1308 := by
  unfold lbs
  split
  · rename_i h
    obtain ⟨h1, h2, _, _⟩ := lchk_ok h
    have h3 := held_len (l.length : Int)
    have h4 : ∀ q : List Nd, (∀ n ∈ q, nok n = true) → (q.flatMap nbs).length ≤ 42 * q.length := by
      intro q
      induction q with
      | nil => simp
      | cons n q ih =>
        intro hq
        have := nbs_ok (hq n (by simp))
        have := ih (fun m hm => hq m (List.mem_cons_of_mem _ hm))
        simp only [List.flatMap_cons, List.length_append, List.length_cons]
        omega
    have h5 := h4 l h2
    rw [List.length_append]
    omega
  · simp
theorem nodeOut_put (pre rest : List UInt8) (n : Nd) (h : nok n = true) : nodeOut (pre ++ (nbs n ++ rest)) pre.length = (n, pre.length + (nbs n).length, 0) := by
  obtain ⟨h1, h2, h3, h4, h5, h6⟩ := nok_parts h
  obtain ⟨op, m, v⟩ := n
  simp only at h1 h2 h3 h4 h5 h6
  obtain ⟨bn, hbn⟩ : ∃ z, z = (if hasN op = true then enc (held m) else []) := ⟨_, rfl⟩
  obtain ⟨bv, hbv⟩ : ∃ z, z = (if hasV op = true then vbs v else []) := ⟨_, rfl⟩
  have hb : nbs (op, m, v) = enc (held op) ++ (bn ++ bv) := by unfold nbs; rw [hbn, hbv]
  have ho : ((held op : Nat) : Int) = op := held_self (by omega) (by omega)
  obtain ⟨l, hl⟩ : ∃ l, l = pre ++ (nbs (op, m, v) ++ rest) := ⟨_, rfl⟩
  have hl1 : l = pre ++ (enc (held op) ++ (bn ++ (bv ++ rest))) := by rw [hl, hb]; simp only [List.append_assoc]
  have n1 := num_put pre (bn ++ (bv ++ rest)) (held op) 12 (held_le op) (by rw [ho]; exact h2)
  rw [← hl1] at n1
  have kA : ndA l pre.length = held op := by unfold ndA; rw [n1]
  have kA2 : naA l pre.length = pre.length + (enc (held op)).length := by unfold naA; rw [n1]
  have kE : neA l pre.length = 0 := by unfold neA; rw [kA, if_neg (by omega), n1]
  have kB : nB l pre.length = (held m, pre.length + (enc (held op)).length + bn.length, 0) := by
    unfold nB
    rw [kA, ho, kA2, kE]
    by_cases hN : hasN op = true
    · rw [if_pos hN]
      rw [if_pos hN] at hbn
      obtain ⟨g1, g2⟩ := h3 hN
      have g3 := npm_small op
      have n2 := num_put (pre ++ enc (held op)) (bv ++ rest) (held m) (npm op) (held_le m) (by rw [held_self g1 (by omega)]; exact g2)
      rw [← hbn] at n2
      simp only [List.append_assoc, List.length_append] at n2
      rw [← hl1] at n2
      exact n2
    · rw [if_neg hN]
      rw [if_neg hN] at hbn
      rw [hbn, h4 (by simpa using hN)]
      rfl
  have kV : nV l pre.length = (v, pre.length + (enc (held op)).length + bn.length + bv.length, 0) := by
    unfold nV
    rw [kA, ho, kB]
    by_cases hV : hasV op = true
    · rw [if_pos hV]
      rw [if_pos hV] at hbv
      have n3 := valOut_put (pre ++ enc (held op) ++ bn) rest v (h5 hV)
      rw [← hbv] at n3
      simp only [List.append_assoc, List.length_append] at n3
      rw [← hl1] at n3
      simp only [← Nat.add_assoc] at n3
      exact n3
    · rw [if_neg hV]
      rw [if_neg hV] at hbv
      rw [hbv, h6 (by simpa using hV)]
      rfl
  have hm : ((held m : Nat) : Int) = m := by
    by_cases hN : hasN op = true
    · have := h3 hN
      have g3 := npm_small op
      exact held_self (by omega) (by omega)
    · rw [h4 (by simpa using hN)]; rfl
  have kD : ndOf l pre.length = (op, m, v) := by unfold ndOf; rw [kA, kB, kV, ho]; simp only; rw [hm]
  rw [← hl]
  unfold nodeOut
  rw [kD, if_pos h, kV, hb]
  simp only [List.length_append, Nat.add_assoc]
theorem nodes_put (pre rest : List UInt8) (ns : List Nd) (h : ∀ n ∈ ns, nok n = true) : ∀ k, k ≤ ns.length → nodesOut (pre ++ (ns.flatMap nbs ++ rest)) k pre.length = (ns.take k, pre.length + ((ns.take k).flatMap nbs).length, 0)
  | 0, _ => by simp [nodesOut]
  | k + 1, hk => by
    have hkl : k < ns.length := by omega
    have ih := nodes_put pre rest ns h k (by omega)
    rw [nodes_step (by rw [ih]), ih]
    simp only
    have e1 : ns.flatMap nbs = (ns.take k).flatMap nbs ++ (nbs ns[k] ++ (ns.drop (k + 1)).flatMap nbs) := by
      have : ns = ns.take k ++ (ns[k] :: ns.drop (k + 1)) := by rw [← List.drop_eq_getElem_cons hkl, List.take_append_drop]
      conv => lhs; rw [this]
      rw [List.flatMap_append, List.flatMap_cons]
    have e2 : pre ++ (ns.flatMap nbs ++ rest) = (pre ++ (ns.take k).flatMap nbs) ++ (nbs ns[k] ++ ((ns.drop (k + 1)).flatMap nbs ++ rest)) := by rw [e1]; simp only [List.append_assoc]
    have n1 := nodeOut_put (pre ++ (ns.take k).flatMap nbs) ((ns.drop (k + 1)).flatMap nbs ++ rest) ns[k] (h _ (List.getElem_mem hkl))
    rw [← e2, List.length_append] at n1
    rw [n1, nbs_take ns k hkl, List.take_succ_eq_append_getElem hkl, List.length_append]
    simp only [Nat.add_assoc]
theorem filt_put (pre rest : List UInt8) (ns : List Nd) (h : lchk ns = 0) : filtOut (pre ++ (lbs ns ++ rest)) pre.length 0 = (ns, pre.length + (lbs ns).length, 0) := by
  obtain ⟨h1, h2, h3, h4⟩ := lchk_ok h
  have hb : lbs ns = enc (held (ns.length : Int)) ++ ns.flatMap nbs := by unfold lbs; rw [if_pos h]
  have hpos : 0 < ns.length := by
    cases ns with
    | nil => cases h3
    | cons _ _ => simp
  have hh : held (ns.length : Int) = ns.length := by
    have := held_self (n := (ns.length : Int)) (by omega) (by omega)
    omega
  obtain ⟨l, hl⟩ : ∃ l, l = pre ++ (lbs ns ++ rest) := ⟨_, rfl⟩
  have hl1 : l = pre ++ (enc ns.length ++ (ns.flatMap nbs ++ rest)) := by rw [hl, hb, hh]; simp only [List.append_assoc]
  have n1 := num_put pre (ns.flatMap nbs ++ rest) ns.length 31 (by omega) (by omega)
  rw [← hl1] at n1
  have m1 : mny l pre.length 0 = (ns.length, pre.length + (enc ns.length).length, 0) := by
    unfold mny
    rw [n1]
    simp only
    rw [if_neg (by omega)]
  have hl2 : l = (pre ++ enc ns.length) ++ (ns.flatMap nbs ++ rest) := by rw [hl1]; simp only [List.append_assoc]
  have n2 := nodes_put (pre ++ enc ns.length) rest ns h2 ns.length (Nat.le_refl _)
  rw [← hl2, List.take_length, List.length_append] at n2
  rw [← hl]
  unfold filtOut
  rw [m1]
  simp only
  rw [if_neg (by simp), n2]
  simp only
  rw [if_neg (by simp), if_pos h, hb, hh, List.length_append, Nat.add_assoc]

theorem num_only' {l : List UInt8} {a : Nat} {m : Int} (h : (numOut l a 0 m).2.2 = 0) : (numOut l a 0 m).2.1 = a + (enc (numOut l a 0 m).1).length ∧ l.drop a = enc (numOut l a 0 m).1 ++ l.drop (numOut l a 0 m).2.1 := by
  obtain ⟨_, h1, h2, _⟩ := num_only h
  exact ⟨h1, h2⟩
/-- A node that is read without an error has just the bytes that were taken. -/
theorem node_only {l : List UInt8} {a : Nat} (h : (nodeOut l a).2.2 = 0) : nok (nodeOut l a).1 = true ∧ (nodeOut l a).2.1 = a + (nbs (nodeOut l a).1).length ∧ l.drop a = nbs (nodeOut l a).1 ++ l.drop (nodeOut l a).2.1 := by
  have hk : nok (ndOf l a) = true := by
    cases hk : nok (ndOf l a) with
    | true => rfl
    | false =>
      have e : (nodeOut l a).2.2 = failOut (nV l a).2.2 3 := by unfold nodeOut; simp only; rw [if_neg (by rw [hk]; simp)]
      rw [e] at h
      unfold failOut at h
      split at h
      · cases h
      · rename_i h2; exact absurd h h2
  have e : (nodeOut l a).2.2 = (nV l a).2.2 := by unfold nodeOut; simp only; rw [if_pos hk]
  rw [e] at h
  have eB : (nB l a).2.2 = 0 := by
    by_cases hz : (nB l a).2.2 = 0
    · exact hz
    · have hv : (nV l a).2 = (nB l a).2 := by
        unfold nV
        split
        · rw [valOut_err _ _ _ hz]
        · rfl
      rw [hv] at h
      exact absurd h hz
  have eA : neA l a = 0 := by
    by_cases hz : neA l a = 0
    · exact hz
    · have hb : nB l a = (0, naA l a, neA l a) := by unfold nB; rw [neA_op hz]; rw [if_neg (by show ¬ hasN 0 = true; rw [hasN_zero]; simp)]
      rw [hb] at eB
      exact absurd eB hz
  have hop : ndA l a ≠ 0 := fun hz => neA_no hz eA
  have e0 : (numOut l a 0 12).2.2 = 0 := by unfold neA at eA; rwa [if_neg hop] at eA
  obtain ⟨a1, a2⟩ := num_only' e0
  have hop12 := ndA_le l a
  have ho : held (ndA l a : Int) = ndA l a := by
    have := held_self (n := (ndA l a : Int)) (by omega) (by omega)
    omega
  -- the number
  have hN : (nB l a).2.1 = naA l a + (if hasN (ndA l a : Int) = true then enc (held ((nB l a).1 : Int)) else []).length ∧ l.drop (naA l a) = (if hasN (ndA l a : Int) = true then enc (held ((nB l a).1 : Int)) else []) ++ l.drop (nB l a).2.1 := by
    by_cases hN : hasN (ndA l a : Int) = true
    · have hb : nB l a = numOut l (naA l a) 0 (npm (ndA l a : Int)) := by unfold nB; rw [if_pos hN, eA]
      have eB' := eB
      rw [hb] at eB'
      obtain ⟨b1, b2⟩ := num_only' eB'
      have hle := numOut_le l (naA l a) 0 (npm (ndA l a : Int)) (npm_ge _)
      have hs := npm_small (ndA l a : Int)
      rw [← hb] at b1 b2 hle
      have hh : held ((nB l a).1 : Int) = (nB l a).1 := by
        have := held_self (n := ((nB l a).1 : Int)) (by omega) (by omega)
        omega
      rw [if_pos hN, hh]
      exact ⟨b1, b2⟩
    · have hb : nB l a = (0, naA l a, neA l a) := by unfold nB; rw [if_neg hN]
      rw [if_neg hN, hb]
      exact ⟨by simp, by simp⟩
  have hV : (nV l a).2.1 = (nB l a).2.1 + (if hasV (ndA l a : Int) = true then vbs (nV l a).1 else []).length ∧ l.drop (nB l a).2.1 = (if hasV (ndA l a : Int) = true then vbs (nV l a).1 else []) ++ l.drop (nV l a).2.1 := by
    by_cases hV : hasV (ndA l a : Int) = true
    · have hv : nV l a = valOut l (nB l a).2.1 (nB l a).2.2 := by unfold nV; rw [if_pos hV]
      have h' := h
      rw [hv] at h'
      obtain ⟨_, _, b1, b2⟩ := val_only h'
      rw [← hv] at b1 b2
      rw [if_pos hV]
      exact ⟨b1, b2⟩
    · have hv : nV l a = (zv, (nB l a).2.1, (nB l a).2.2) := by unfold nV; rw [if_neg hV]
      rw [if_neg hV, hv]
      exact ⟨by simp, by simp⟩
  have hbs : nbs (ndOf l a) = enc (ndA l a) ++ ((if hasN (ndA l a : Int) = true then enc (held ((nB l a).1 : Int)) else []) ++ (if hasV (ndA l a : Int) = true then vbs (nV l a).1 else [])) := by
    unfold nbs ndOf
    simp only
    rw [ho]
  have f1 : (nodeOut l a).1 = ndOf l a := rfl
  have f2 : (nodeOut l a).2.1 = (nV l a).2.1 := rfl
  rw [f1, f2]
  refine ⟨hk, ?_, ?_⟩
  · rw [hV.1, hN.1, show naA l a = a + (enc (ndA l a)).length from a1, hbs]
    simp only [List.length_append]
    omega
  · rw [show l.drop a = enc (ndA l a) ++ l.drop (naA l a) from a2, hN.2, hV.2, hbs]
    simp only [List.append_assoc]
theorem nodes_only {l : List UInt8} {a : Nat} : ∀ k, (nodesOut l k a).2.2 = 0 → (nodesOut l k a).2.1 = a + ((nodesOut l k a).1.flatMap nbs).length ∧ l.drop a = (nodesOut l k a).1.flatMap nbs ++ l.drop (nodesOut l k a).2.1
  | 0, _ => ⟨by simp [nodesOut], by simp [nodesOut]⟩
  | k + 1, h => by
    have h0 : (nodesOut l k a).2.2 = 0 := by
      by_cases hz : (nodesOut l k a).2.2 = 0
      · exact hz
      · rw [nodes_stuck hz (k + 1) (by omega)] at h; exact absurd h hz
    obtain ⟨i1, i2⟩ := nodes_only k h0
    rw [nodes_step h0] at h ⊢
    simp only at h ⊢
    obtain ⟨_, n1, n2⟩ := node_only h
    rw [List.flatMap_append]
    refine ⟨?_, ?_⟩
    · rw [n1, i1]; simp; omega
    · conv => lhs; rw [i2, n2]
      simp
theorem filt_only {l : List UInt8} {a : Nat} {e : Int} (h : (filtOut l a e).2.2 = 0) : e = 0 ∧ lchk (filtOut l a e).1 = 0 ∧ (filtOut l a e).2.1 = a + (lbs (filtOut l a e).1).length ∧ l.drop a = lbs (filtOut l a e).1 ++ l.drop (filtOut l a e).2.1 := by
  have h1 : (mny l a e).2.2 = 0 := by
    by_cases hz : (mny l a e).2.2 = 0
    · exact hz
    · unfold filtOut at h; rw [if_pos hz] at h; exact absurd h hz
  have h2 : (nodesOut l (mny l a e).1 (mny l a e).2.1).2.2 = 0 := by
    by_cases hz : (nodesOut l (mny l a e).1 (mny l a e).2.1).2.2 = 0
    · exact hz
    · unfold filtOut at h; rw [if_neg (by rw [h1]; simp), if_pos hz] at h; exact absurd h hz
  have h3 : lchk (nodesOut l (mny l a e).1 (mny l a e).2.1).1 = 0 := by
    by_cases hz : lchk (nodesOut l (mny l a e).1 (mny l a e).2.1).1 = 0
    · exact hz
    · unfold filtOut at h
      rw [if_neg (by rw [h1]; simp), if_neg (by rw [h2]; simp), if_neg hz] at h
      simp only at h
      split at h
      · cases h
      · exact absurd h hz
  have hq : filtOut l a e = nodesOut l (mny l a e).1 (mny l a e).2.1 := by unfold filtOut; rw [if_neg (by rw [h1]; simp), if_neg (by rw [h2]; simp), if_pos h3]
  have hlen := nodes_full (l := l) (a := (mny l a e).2.1) _ h2
  obtain ⟨i1, i2⟩ := nodes_only _ h2
  have hm0 : (numOut l a e 31).1 ≠ 0 := fun hz => mny_none (show (mny l a e).1 = 0 from hz) h1
  have hme : (numOut l a e 31).2.2 = 0 := by
    have : (mny l a e).2.2 = (numOut l a e 31).2.2 := by unfold mny; simp only; rw [if_neg hm0]
    rw [← this]; exact h1
  obtain ⟨he, g1, g2, _, _⟩ := num_only hme
  have hm31 := mny_le l a e
  have hh : held (((nodesOut l (mny l a e).1 (mny l a e).2.1).1.length : Nat) : Int) = (mny l a e).1 := by
    have := held_self (n := (((nodesOut l (mny l a e).1 (mny l a e).2.1).1.length : Nat) : Int)) (by omega) (by omega)
    omega
  have hbs : lbs (filtOut l a e).1 = enc (mny l a e).1 ++ (nodesOut l (mny l a e).1 (mny l a e).2.1).1.flatMap nbs := by
    unfold lbs
    rw [hq, if_pos h3, hh]
  refine ⟨he, by rw [hq]; exact h3, ?_, ?_⟩
  · rw [hbs, hq, i1, show (mny l a e).2.1 = a + (enc (mny l a e).1).length from g1, List.length_append]; omega
  · rw [hbs, hq, List.append_assoc, ← i2]
    exact g2
end Go.Proofs.Ytadmaalhhigbeaa

/- Ledger: an answer as it is read of bytes: mathematics. -/
namespace Go.Proofs.Ytadmaalhhigbeaa
set_option linter.unusedVariables false
set_option linter.unusedSimpArgs false
open Go Go.RowKit OctM

/-- A number of at least so much, at most so much. -/
def lstOut (l : List UInt8) (a : Nat) (e least most : Int) : Nat × Nat × Int :=
  ((numOut l a e most).1, (numOut l a e most).2.1, if ((numOut l a e most).1 : Int) < least then failOut (numOut l a e most).2.2 3 else (numOut l a e most).2.2)
theorem lst_at {l : List UInt8} {a : Nat} (e least most : Int) (h : a ≤ l.length) : (lstOut l a e least most).2.1 ≤ l.length := numOut_at l a e most h
theorem num_stuck (l : List UInt8) (a : Nat) (e m : Int) (h : e ≠ 0) : numOut l a e m = (0, a, e) := by
  unfold numOut
  rw [if_pos h]
theorem lst_err {l : List UInt8} {a : Nat} {e : Int} (least most : Int) (h : e ≠ 0) : lstOut l a e least most = (0, a, e) := by
  unfold lstOut
  rw [num_stuck l a e most h]
  split
  · rw [failOut_not e 3 h]
  · rfl
theorem lst_zero {l : List UInt8} {a : Nat} {e least most : Int} (h : (numOut l a e most).2.2 ≠ 0) : (lstOut l a e least most).1 = 0 := numOut_err l a e most h
theorem filt_err {l : List UInt8} {a : Nat} {e : Int} (h : e ≠ 0) : filtOut l a e = ([], a, e) := by
  have h1 : mny l a e = (0, a, e) := by
    unfold mny
    rw [num_stuck l a e 31 h]
    rw [if_pos rfl, failOut_not e 3 h]
  unfold filtOut
  rw [h1, if_pos h]
theorem lst_put (p rest : List UInt8) (z least most : Int) (h0 : 0 ≤ z) (h1 : z ≤ 1099511627776) (hl : least ≤ z) (hm : z ≤ most) :
    lstOut (p ++ (enc (held z) ++ rest)) p.length 0 least most = (held z, (p ++ enc (held z)).length, 0) := by
  unfold lstOut
  rw [num_put p rest (held z) most (held_le z) (by rw [held_self h0 h1]; exact hm)]
  rw [if_neg (by rw [held_self h0 h1]; omega), List.length_append]
section
variable (l : List UInt8) (a : Nat) (e : Int)
def lg1 : Nat × Nat × Int := lstOut l a e 2 4
def lg2 : Nat × Nat × Int := lstOut l (lg1 l a e).2.1 (lg1 l a e).2.2 0 5
def lg3 : Nat × Nat × Int := lstOut l (lg2 l a e).2.1 (lg2 l a e).2.2 1 1099511627776
def lg4 : Nat × Nat × Int := lstOut l (lg3 l a e).2.1 (lg3 l a e).2.2 0 16
def lg5 : Nat × Nat × Int := lstOut l (lg4 l a e).2.1 (lg4 l a e).2.2 0 1099511627776
def lg6 : Nat × Nat × Int := lstOut l (lg5 l a e).2.1 (lg5 l a e).2.2 1 1073741823
def lg7 : Nat × Nat × Int := lstOut l (lg6 l a e).2.1 (lg6 l a e).2.2 1 1099511627776
def lg8 : Nat × Nat × Int := lstOut l (lg5 l a e).2.1 (lg5 l a e).2.2 1 1099511627776
def lg9 : List Nd × Nat × Int := filtOut l (lg8 l a e).2.1 (lg8 l a e).2.2
def lg10 : Nat × Nat × Int := lstOut l (lg9 l a e).2.1 (lg9 l a e).2.2 0 511
/-- What is read, the error told apart. -/
def lgr5 : Rq × Nat × Int :=
  if (lg4 l a e).1 = 0 then
    (if (lg1 l a e).1 = 2 then ((((lg1 l a e).1 : Int), ((lg2 l a e).1 : Int), ((lg3 l a e).1 : Int), ((lg4 l a e).1 : Int), ((lg6 l a e).1 : Int), ((lg7 l a e).1 : Int), ((lg5 l a e).1 : Int), 0, [], 0#32), (lg7 l a e).2)
    else if (lg1 l a e).1 = 3 then ((((lg1 l a e).1 : Int), ((lg2 l a e).1 : Int), ((lg3 l a e).1 : Int), ((lg4 l a e).1 : Int), 0, 0, ((lg5 l a e).1 : Int), ((lg8 l a e).1 : Int), (lg9 l a e).1, BitVec.ofNat 32 (lg10 l a e).1), (lg10 l a e).2)
    else ((((lg1 l a e).1 : Int), ((lg2 l a e).1 : Int), ((lg3 l a e).1 : Int), ((lg4 l a e).1 : Int), 0, 0, ((lg5 l a e).1 : Int), 0, [], 0#32), (lg5 l a e).2))
  else ((((lg1 l a e).1 : Int), ((lg2 l a e).1 : Int), ((lg3 l a e).1 : Int), ((lg4 l a e).1 : Int), 0, 0, 0, 0, [], 0#32), (lg4 l a e).2)
/-- What is read of bytes: the answer, how far, the error. -/
def repOut : Rq × Nat × Int := (if (lgr5 l a e).2.2 = 0 then (lgr5 l a e).1 else zrq, (lgr5 l a e).2)
end
section
variable {l : List UInt8} {a : Nat} {e : Int}
theorem rep_no (h : (lg4 l a e).1 ≠ 0) : repOut l a e = (if (lg4 l a e).2.2 = 0 then (((lg1 l a e).1 : Int), ((lg2 l a e).1 : Int), ((lg3 l a e).1 : Int), ((lg4 l a e).1 : Int), 0, 0, 0, 0, [], 0#32) else zrq, (lg4 l a e).2) := by
  unfold repOut lgr5
  simp only [if_neg h]
theorem rep_2 (h : (lg4 l a e).1 = 0) (h2 : (lg1 l a e).1 = 2) : repOut l a e = (if (lg7 l a e).2.2 = 0 then (((lg1 l a e).1 : Int), ((lg2 l a e).1 : Int), ((lg3 l a e).1 : Int), ((lg4 l a e).1 : Int), ((lg6 l a e).1 : Int), ((lg7 l a e).1 : Int), ((lg5 l a e).1 : Int), 0, [], 0#32) else zrq, (lg7 l a e).2) := by
  unfold repOut lgr5
  simp only [if_pos h, if_pos h2]
theorem rep_3 (h : (lg4 l a e).1 = 0) (h2 : (lg1 l a e).1 = 3) : repOut l a e = (if (lg10 l a e).2.2 = 0 then (((lg1 l a e).1 : Int), ((lg2 l a e).1 : Int), ((lg3 l a e).1 : Int), ((lg4 l a e).1 : Int), 0, 0, ((lg5 l a e).1 : Int), ((lg8 l a e).1 : Int), (lg9 l a e).1, BitVec.ofNat 32 (lg10 l a e).1) else zrq, (lg10 l a e).2) := by
  unfold repOut lgr5
  simp only [if_pos h, if_neg (show ¬ (lg1 l a e).1 = 2 by omega), if_pos h2]
theorem rep_4 (h : (lg4 l a e).1 = 0) (h2 : (lg1 l a e).1 ≠ 2) (h3 : (lg1 l a e).1 ≠ 3) : repOut l a e = (if (lg5 l a e).2.2 = 0 then (((lg1 l a e).1 : Int), ((lg2 l a e).1 : Int), ((lg3 l a e).1 : Int), ((lg4 l a e).1 : Int), 0, 0, ((lg5 l a e).1 : Int), 0, [], 0#32) else zrq, (lg5 l a e).2) := by
  unfold repOut lgr5
  simp only [if_pos h, if_neg h2, if_neg h3]
theorem lg4_err (h : (lg4 l a e).2.2 ≠ 0) : (lg4 l a e).1 = 0 := by
  unfold lg4 at h ⊢
  unfold lstOut at h
  rw [if_neg (by omega)] at h
  exact lst_zero h
theorem rep_err (h : (lg4 l a e).2.2 ≠ 0) : repOut l a e = (zrq, (lg4 l a e).2) := by
  have h0 := lg4_err h
  have e5 : lg5 l a e = (0, (lg4 l a e).2) := by unfold lg5; exact lst_err _ _ h
  have h5 : (lg5 l a e).2.2 ≠ 0 := by rw [e5]; exact h
  have e6 : lg6 l a e = (0, (lg4 l a e).2) := by unfold lg6; rw [lst_err _ _ h5, e5]
  have h6 : (lg6 l a e).2.2 ≠ 0 := by rw [e6]; exact h
  have e7 : lg7 l a e = (0, (lg4 l a e).2) := by unfold lg7; rw [lst_err _ _ h6, e6]
  have e8 : lg8 l a e = (0, (lg4 l a e).2) := by unfold lg8; rw [lst_err _ _ h5, e5]
  have h8 : (lg8 l a e).2.2 ≠ 0 := by rw [e8]; exact h
  have e9 : lg9 l a e = ([], (lg4 l a e).2) := by unfold lg9; rw [filt_err h8, e8]
  have h9 : (lg9 l a e).2.2 ≠ 0 := by rw [e9]; exact h
  have e10 : lg10 l a e = (0, (lg4 l a e).2) := by unfold lg10; rw [lst_err _ _ h9, e9]
  by_cases h2 : (lg1 l a e).1 = 2
  · rw [rep_2 h0 h2, e7]
    rw [if_neg h]
  · by_cases h3 : (lg1 l a e).1 = 3
    · rw [rep_3 h0 h3, e10]
      rw [if_neg h]
    · rw [rep_4 h0 h2 h3, e5]
      rw [if_neg h]
variable (h : a ≤ l.length)
include h
theorem lg1_at : (lg1 l a e).2.1 ≤ l.length := lst_at _ _ _ h
theorem lg2_at : (lg2 l a e).2.1 ≤ l.length := lst_at _ _ _ (lg1_at h)
theorem lg3_at : (lg3 l a e).2.1 ≤ l.length := lst_at _ _ _ (lg2_at h)
theorem lg4_at : (lg4 l a e).2.1 ≤ l.length := lst_at _ _ _ (lg3_at h)
theorem lg5_at : (lg5 l a e).2.1 ≤ l.length := lst_at _ _ _ (lg4_at h)
theorem lg6_at : (lg6 l a e).2.1 ≤ l.length := lst_at _ _ _ (lg5_at h)
theorem lg7_at : (lg7 l a e).2.1 ≤ l.length := lst_at _ _ _ (lg6_at h)
theorem lg8_at : (lg8 l a e).2.1 ≤ l.length := lst_at _ _ _ (lg5_at h)
theorem lg9_at : (lg9 l a e).2.1 ≤ l.length := filt_at (lg8_at h)
theorem lg10_at : (lg10 l a e).2.1 ≤ l.length := lst_at _ _ _ (lg9_at h)
theorem rep_at : (repOut l a e).2.1 ≤ l.length := by
  unfold repOut lgr5
  show (if (lg4 l a e).1 = 0 then _ else _ : Rq × Nat × Int).2.1 ≤ l.length
  split
  · split
    · exact lg7_at h
    · split
      · exact lg10_at h
      · exact lg5_at h
  · exact lg4_at h
end
/-- What was put is read. -/
theorem rep_put (pre rest : List UInt8) (r : Rp) (h : rok r) : repOut (pre ++ (rbs r ++ rest)) pre.length 0 = (rab r, pre.length + (rbs r).length, 0) := by
  obtain ⟨⟨k1, k2⟩, ⟨d1, d2⟩, ⟨q1, q2⟩, ⟨c1, c2⟩, hno, hyes⟩ := h
  obtain ⟨T, hT⟩ : ∃ T, T = (if r.cd = 0 then numsB [r.sq] ++ (if r.kd = 2 then numsB [r.id, r.vr] else if r.kd = 3 then numsB [r.ep] ++ (lbs r.f ++ numsB [(r.ms.toNat : Int)]) else []) else []) := ⟨_, rfl⟩
  have eb : rbs r = numsB [r.kd, r.dv, r.rq, r.cd] ++ T := by rw [hT]; rfl
  obtain ⟨L, hL⟩ : ∃ L, L = pre ++ (rbs r ++ rest) := ⟨_, rfl⟩
  obtain ⟨p1, hp1⟩ : ∃ p, p = pre ++ enc (held r.kd) := ⟨_, rfl⟩
  obtain ⟨p2, hp2⟩ : ∃ p, p = p1 ++ enc (held r.dv) := ⟨_, rfl⟩
  obtain ⟨p3, hp3⟩ : ∃ p, p = p2 ++ enc (held r.rq) := ⟨_, rfl⟩
  obtain ⟨p4, hp4⟩ : ∃ p, p = p3 ++ enc (held r.cd) := ⟨_, rfl⟩
  have l4 : L = p4 ++ (T ++ rest) := by rw [hL, eb, hp4, hp3, hp2, hp1]; simp [numsB]
  have l3 : L = p3 ++ (enc (held r.cd) ++ (T ++ rest)) := by rw [l4, hp4]; simp
  have l2 : L = p2 ++ (enc (held r.rq) ++ (enc (held r.cd) ++ (T ++ rest))) := by rw [l3, hp3]; simp
  have l1 : L = p1 ++ (enc (held r.dv) ++ (enc (held r.rq) ++ (enc (held r.cd) ++ (T ++ rest)))) := by rw [l2, hp2]; simp
  have l0 : L = pre ++ (enc (held r.kd) ++ (enc (held r.dv) ++ (enc (held r.rq) ++ (enc (held r.cd) ++ (T ++ rest))))) := by rw [l1, hp1]; simp
  have g1 : lg1 L pre.length 0 = (held r.kd, p1.length, 0) := by unfold lg1; rw [hp1, l0]; exact lst_put _ _ _ _ _ (by omega) (by omega) k1 k2
  have g2 : lg2 L pre.length 0 = (held r.dv, p2.length, 0) := by unfold lg2; rw [g1, hp2, l1]; exact lst_put _ _ _ _ _ (by omega) (by omega) d1 (by omega)
  have g3 : lg3 L pre.length 0 = (held r.rq, p3.length, 0) := by unfold lg3; rw [g2, hp3, l2]; exact lst_put _ _ _ _ _ (by omega) (by omega) q1 q2
  have g4 : lg4 L pre.length 0 = (held r.cd, p4.length, 0) := by unfold lg4; rw [g3, hp4, l3]; exact lst_put _ _ _ _ _ (by omega) (by omega) c1 c2
  have v1 : ((held r.kd : Nat) : Int) = r.kd := held_self (by omega) (by omega)
  have v2 : ((held r.dv : Nat) : Int) = r.dv := held_self (by omega) (by omega)
  have v3 : ((held r.rq : Nat) : Int) = r.rq := held_self (by omega) (by omega)
  have v4 : ((held r.cd : Nat) : Int) = r.cd := held_self (by omega) (by omega)
  have ln4 : p4.length = pre.length + (numsB [r.kd, r.dv, r.rq, r.cd]).length := by rw [hp4, hp3, hp2, hp1]; simp [numsB]
  rw [← hL, eb]
  by_cases hcd : r.cd = 0
  · obtain ⟨⟨s1, s2⟩, hy2, hy3, hy4⟩ := hyes hcd
    have h40 : (lg4 L pre.length 0).1 = 0 := by rw [g4]; show held r.cd = 0; omega
    rw [if_pos hcd] at hT
    obtain ⟨U, hU⟩ : ∃ U, U = (if r.kd = 2 then numsB [r.id, r.vr] else if r.kd = 3 then numsB [r.ep] ++ (lbs r.f ++ numsB [(r.ms.toNat : Int)]) else []) := ⟨_, rfl⟩
    rw [← hU] at hT
    obtain ⟨p5, hp5⟩ : ∃ p, p = p4 ++ enc (held r.sq) := ⟨_, rfl⟩
    have l4' : L = p4 ++ (enc (held r.sq) ++ (U ++ rest)) := by rw [l4, hT]; simp [numsB]
    have l5 : L = p5 ++ (U ++ rest) := by rw [l4', hp5]; simp
    have g5 : lg5 L pre.length 0 = (held r.sq, p5.length, 0) := by unfold lg5; rw [g4, hp5, l4']; exact lst_put _ _ _ _ _ s1 s2 s1 s2
    have v5 : ((held r.sq : Nat) : Int) = r.sq := held_self s1 s2
    have ln5 : p5.length = pre.length + ((numsB [r.kd, r.dv, r.rq, r.cd]).length + (numsB [r.sq]).length) := by rw [hp5, List.length_append, ln4]; simp [numsB]; omega
    by_cases hk2 : r.kd = 2
    · obtain ⟨⟨i1, i2⟩, ⟨w1, w2⟩, he, hf, hm⟩ := hy2 hk2
      rw [if_pos hk2] at hU
      obtain ⟨p6, hp6⟩ : ∃ p, p = p5 ++ enc (held r.id) := ⟨_, rfl⟩
      obtain ⟨p7, hp7⟩ : ∃ p, p = p6 ++ enc (held r.vr) := ⟨_, rfl⟩
      have l5' : L = p5 ++ (enc (held r.id) ++ (enc (held r.vr) ++ rest)) := by rw [l5, hU]; simp [numsB]
      have l6 : L = p6 ++ (enc (held r.vr) ++ rest) := by rw [l5', hp6]; simp
      have g6 : lg6 L pre.length 0 = (held r.id, p6.length, 0) := by unfold lg6; rw [g5, hp6, l5']; exact lst_put _ _ _ _ _ (by omega) (by omega) i1 (by omega)
      have g7 : lg7 L pre.length 0 = (held r.vr, p7.length, 0) := by unfold lg7; rw [g6, hp7, l6]; exact lst_put _ _ _ _ _ (by omega) w2 w1 w2
      have v6 : ((held r.id : Nat) : Int) = r.id := held_self (by omega) (by omega)
      have v7 : ((held r.vr : Nat) : Int) = r.vr := held_self (by omega) w2
      have h12 : (lg1 L pre.length 0).1 = 2 := by rw [g1]; show held r.kd = 2; omega
      rw [rep_2 h40 h12, g1, g2, g3, g4, g5, g6, g7]
      rw [if_pos rfl, v1, v2, v3, v4, v5, v6, v7]
      have hff : r.f = [] := List.length_eq_zero_iff.1 hf
      have hmm : r.ms = 0#32 := mk_nat _ _ hm
      refine Prod.ext ?_ (Prod.ext ?_ rfl)
      · unfold rab
        rw [he, hff, hmm]
      · show p7.length = _
        rw [hp7, hp6, List.length_append, List.length_append, ln5, hT, hU]
        simp [numsB]
        omega
    · rw [if_neg hk2] at hU
      by_cases hk3 : r.kd = 3
      · obtain ⟨hi, hv, ⟨w1, w2⟩, hlc, hms⟩ := hy3 hk3
        rw [if_pos hk3] at hU
        obtain ⟨p8, hp8⟩ : ∃ p, p = p5 ++ enc (held r.ep) := ⟨_, rfl⟩
        obtain ⟨p9, hp9⟩ : ∃ p, p = p8 ++ lbs r.f := ⟨_, rfl⟩
        obtain ⟨p10, hp10⟩ : ∃ p, p = p9 ++ enc (held (r.ms.toNat : Int)) := ⟨_, rfl⟩
        have l5' : L = p5 ++ (enc (held r.ep) ++ (lbs r.f ++ (enc (held (r.ms.toNat : Int)) ++ rest))) := by rw [l5, hU]; simp [numsB]
        have l8 : L = p8 ++ (lbs r.f ++ (enc (held (r.ms.toNat : Int)) ++ rest)) := by rw [l5', hp8]; simp
        have l9 : L = p9 ++ (enc (held (r.ms.toNat : Int)) ++ rest) := by rw [l8, hp9]; simp
        have g8 : lg8 L pre.length 0 = (held r.ep, p8.length, 0) := by unfold lg8; rw [g5, hp8, l5']; exact lst_put _ _ _ _ _ (by omega) w2 w1 w2
        have g9 : lg9 L pre.length 0 = (r.f, p9.length, 0) := by
          unfold lg9
          rw [g8]
          show filtOut L p8.length 0 = _
          rw [l8, filt_put p8 _ r.f hlc, hp9, List.length_append]
        have g10 : lg10 L pre.length 0 = (held (r.ms.toNat : Int), p10.length, 0) := by unfold lg10; rw [g9, hp10, l9]; exact lst_put _ _ _ _ _ (by omega) (by omega) (by omega) (by omega)
        have v8 : ((held r.ep : Nat) : Int) = r.ep := held_self (by omega) w2
        have v10 : held (r.ms.toNat : Int) = r.ms.toNat := by rw [held_nat (by omega) (by omega)]; rfl
        have h13 : (lg1 L pre.length 0).1 = 3 := by rw [g1]; show held r.kd = 3; omega
        rw [rep_3 h40 h13, g1, g2, g3, g4, g5, g8, g9, g10]
        rw [if_pos rfl, v1, v2, v3, v4, v5, v8]
        refine Prod.ext ?_ (Prod.ext ?_ rfl)
        · unfold rab
          rw [hi, hv]
          show (_, _, _, _, _, _, _, _, _, BitVec.ofNat 32 (held (r.ms.toNat : Int))) = _
          rw [v10, show BitVec.ofNat 32 r.ms.toNat = r.ms by simp]
        · show p10.length = _
          rw [hp10, hp9, hp8, List.length_append, List.length_append, List.length_append, ln5, hT, hU]
          simp [numsB]
          omega
      · rw [if_neg hk3] at hU
        obtain ⟨hi, hv, he, hf, hm⟩ := hy4 (by omega)
        have h12 : (lg1 L pre.length 0).1 ≠ 2 := by rw [g1]; show held r.kd ≠ 2; omega
        have h13 : (lg1 L pre.length 0).1 ≠ 3 := by rw [g1]; show held r.kd ≠ 3; omega
        rw [rep_4 h40 h12 h13, g1, g2, g3, g4, g5]
        rw [if_pos rfl, v1, v2, v3, v4, v5]
        have hff : r.f = [] := List.length_eq_zero_iff.1 hf
        have hmm : r.ms = 0#32 := mk_nat _ _ hm
        refine Prod.ext ?_ (Prod.ext ?_ rfl)
        · unfold rab
          rw [hi, hv, he, hff, hmm]
        · show p5.length = _
          rw [ln5, hT, hU]
          simp
  · obtain ⟨hi, hv, hs, he, hf, hm⟩ := hno hcd
    have h40 : (lg4 L pre.length 0).1 ≠ 0 := by rw [g4]; show held r.cd ≠ 0; omega
    rw [if_neg hcd] at hT
    rw [rep_no h40, g1, g2, g3, g4]
    rw [if_pos rfl, v1, v2, v3, v4]
    have hff : r.f = [] := List.length_eq_zero_iff.1 hf
    have hmm : r.ms = 0#32 := mk_nat _ _ hm
    refine Prod.ext ?_ (Prod.ext ?_ rfl)
    · unfold rab
      rw [hi, hv, hs, he, hff, hmm]
    · show p4.length = _
      rw [ln4, hT]
      simp
end Go.Proofs.Ytadmaalhhigbeaa
