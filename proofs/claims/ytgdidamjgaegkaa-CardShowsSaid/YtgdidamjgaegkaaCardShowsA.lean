/- CardShows: the walk. -/
import Derived.Test.YtgdidamjgaegkaaCardQ
import Derived.Test.YtgdidamjgaegkaaCardL
import Derived.Test.YtgdidamjgaegkaaCardK
namespace Go.Proofs.Ytgdidamjgaegkaa
set_option linter.unusedVariables false
open Go Go.RowKit BitM

theorem guard_patch : Try.prog.eqGuardType Try.prog.depth 29 = false := by kernel_rfl
theorem same_card (id ver lab : Int) (f : List V3) (hf : f.length = 8) (w : World) : (Op.equalIn 10000 27 (.agg (ccells id ver lab f).toArray) (.agg (ccells id ver lab f).toArray)).run Try.prog w = .ok true w := by
  rw [eq_card 9996 id ver lab id ver lab f f hf hf w, decide_eq_true (show id = id ∧ ver = ver ∧ lab = lab ∧ f = f from ⟨rfl, rfl, rfl, rfl⟩)]
theorem same_patch (m lab : Int) (f : List V3) (hf : f.length = 8) (w : World) : (Op.equalIn 10000 29 (.agg (pcells m lab f).toArray) (.agg (pcells m lab f).toArray)).run Try.prog w = .ok true w := by
  rw [eq_patch 9996 m lab m lab f f hf hf w, decide_eq_true (show m = m ∧ lab = lab ∧ f = f from ⟨rfl, rfl, rfl⟩)]

set_option maxRecDepth 100000 in
set_option maxHeartbeats 6400000 in
theorem walk_shows (id ver lab pl : Int) (x y : BitVec 32) (C P : List V3) (w : World) (hC : C.length = 8) (hP : P.length = 8) :
    Calls Try.prog 4 #[.agg (ccells id ver lab C).toArray, .agg (pcells (x.toNat : Int) pl P).toArray, .int .u32 (y.toNat : Int)] w fun e w' => e = .returned (.bool true) ∧ Below w.heap.size w w' := by
  have HL0 := Lib.hid (ccells_len id ver lab hC)
  have HL1 := Lib.hid (pcells_len (x.toNat : Int) pl hP)
  have HLC : Hid ((fcells C).length = 24) := Lib.hid (by rw [fcells_len, hC])
  have HLP : Hid ((fcells P).length = 24) := Lib.hid (by rw [fcells_len, hP])
  have HA := Lib.hid (fun wx : World => large_any C wx hC)
  have HB := Lib.hid (fun wx : World => large_any P wx hP)
  have HKX := Lib.hid (fun wx : World => rmcheck_any x wx)
  have HKY := Lib.hid (fun wx : World => rmcheck_any y wx)
  have HP1 := Lib.hid (fun wx : World => project_any id ver lab C y wx hC)
  have HR1 := Lib.hid (fun wx : World => rproject_any id ver lab C y wx hC)
  have HE1 := Lib.hid (fun wx : World => same_card id ver (if has y 8 then lab else 0) (mix (fun i => has y (i : Int)) C zeros) (mix_len _ _ _) wx)
  obtain ⟨c1, hc1⟩ : ∃ c1, c1 = ccells id ver (if has y 8 then lab else 0) (mix (fun i => has y (i : Int)) C zeros) := ⟨_, rfl⟩
  rw [← hc1] at HP1 HR1 HE1
  have HP2 := Lib.hid (fun wx : World => of_card id ver lab C y wx hC)
  have HR2 := Lib.hid (fun wx : World => rof_any id ver lab C y wx hC)
  have HE2 := Lib.hid (fun wx : World => same_patch (y.toNat : Int) (if has y 8 then lab else 0) (mix (fun i => has y (i : Int)) C zeros) (mix_len _ _ _) wx)
  obtain ⟨c2, hc2⟩ : ∃ c2, c2 = pcells (y.toNat : Int) (if has y 8 then lab else 0) (mix (fun i => has y (i : Int)) C zeros) := ⟨_, rfl⟩
  rw [← hc2] at HP2 HR2 HE2
  have HP4 := Lib.hid (fun wx : World => fresh_any id pl x P wx hP)
  have HR4 := Lib.hid (fun wx : World => rfresh_any id pl x P wx hP)
  have HE4 := Lib.hid (fun wx : World => same_card id 1 (if has x 8 then pl else 0) (mix (fun i => has x (i : Int)) P zeros) (mix_len _ _ _) wx)
  obtain ⟨c4, hc4⟩ : ∃ c4, c4 = ccells id 1 (if has x 8 then pl else 0) (mix (fun i => has x (i : Int)) P zeros) := ⟨_, rfl⟩
  rw [← hc4] at HP4 HR4 HE4
  have HP30 := Lib.hid (fun (wx : World) (h : 0 ≤ ver) => merge_any id ver lab pl x C P wx hC hP (by omega))
  have HR30 := Lib.hid (fun (wx : World) (h : 0 ≤ ver) (h1 : ver ≤ 1099511627776) => rmerge_any id ver lab pl x C P wx hC hP h h1)
  have HE3 := Lib.hid (fun wx : World => same_card id (nextVer ver) (if has x 8 then pl else lab) (mix (fun i => has x (i : Int)) P C) (mix_len _ _ _) wx)
  obtain ⟨c3, hc3⟩ : ∃ c3, c3 = ccells id (nextVer ver) (if has x 8 then pl else lab) (mix (fun i => has x (i : Int)) P C) := ⟨_, rfl⟩
  rw [← hc3] at HP30 HR30 HE3
  have B0 := Blk.new w (ccells id ver lab C) 27
  obtain ⟨ca, hca⟩ : ∃ ca, ca = (ccells id ver lab C).toArray := ⟨_, rfl⟩
  rw [← hca] at B0
  have HCA := Lib.hid hca
  rw [← hca]
  have B1 := Blk.new (w.alloc (.cells ca 27)) (pcells (x.toNat : Int) pl P) 29
  obtain ⟨pa, hpa⟩ : ∃ pa, pa = (pcells (x.toNat : Int) pl P).toArray := ⟨_, rfl⟩
  rw [← hpa] at B1 ⊢
  have hw0 := ((Below.refl w.heap.size w).alloc (Nat.le_refl _) (.cells ca 27)).alloc (by simp) (.cells pa 29)
  replace B0 := B0.alloc (.cells pa 29)
  have hs1 : (w.alloc (.cells ca 27)).heap.size = w.heap.size + 1 := by simp
  rw [hs1] at B1
  generalize hW : (w.alloc (.cells ca 27)).alloc (.cells pa 29) = W at *
  have HW := Lib.hid hW
  have HBW := Lib.hid hw0
  clear hca hpa hs1 hW hw0 hC hP hc1 hc2 hc3 hc4
  have RF := B0.fieldsC
  have hu8 := Try.underlying25
  have hu := Try.underlying27
  have hup := Try.underlying29
  rw [← HW.out] at RF
  cases ht : tooLong C with
  | true =>
    rw [ht] at HA
    clear ht
    go_enter Try.func4, Try.ntmps4
    go_wp2_with (first
      | (refine wpList_load_mid rfl 25 (.tmp 7) rfl w.heap.size 3 rfl (fcells C) _ RF hu8 rfl (by rw [HLC.out]; exact info_fields) ?_))
    rw [HW.out]
    refine (HA.out W).mono ?_
    rintro e w1 ⟨rfl, hb⟩
    have hb1 := HBW.out.trans (hb.mono HBW.out.size)
    clear RF
    go_wp2_with fail
    refine (aw_any _).mono ?_
    rintro e w9 ⟨rfl, b9⟩
    go_wp2_with fail
    go_ret
    exact ⟨rfl, hb1.trans (b9.mono hb1.size)⟩
  | false =>
    rw [ht] at HA
    clear ht
    go_enter Try.func4, Try.ntmps4
    go_wp2_with (first
      | (refine wpList_load_mid rfl 25 (.tmp 7) rfl w.heap.size 3 rfl (fcells C) _ RF hu8 rfl (by rw [HLC.out]; exact info_fields) ?_))
    rw [HW.out]
    refine (HA.out W).mono ?_
    rintro e w1 ⟨rfl, hb⟩
    have hb1 := HBW.out.trans (hb.mono HBW.out.size)
    have D0 := B0.later hb
    have D1 := B1.later hb
    clear RF B0 B1 HA hb HBW HW
    have RF := D1.fieldsP
    cases ht : tooLong P with
    | true =>
      rw [ht] at HB
      clear ht
      go_wp2_with (first
        | (refine wpList_load_g (by rfl) 25 (.tmp 11) rfl (w.heap.size + 1) 2 rfl (fcells P) _ RF hu8 rfl (by rw [HLP.out]; exact info_fields) ?_))
      refine (HB.out _).mono ?_
      rintro e w2 ⟨rfl, hb⟩
      have hb2 := hb1.trans (hb.mono hb1.size)
      clear RF
      go_wp2_with fail
      refine (aw_any _).mono ?_
      rintro e w9 ⟨rfl, b9⟩
      go_wp2_with fail
      go_ret
      exact ⟨rfl, hb2.trans (b9.mono hb2.size)⟩
    | false =>
      rw [ht] at HB
      clear ht
      go_wp2_with (first
        | (refine wpList_load_g (by rfl) 25 (.tmp 11) rfl (w.heap.size + 1) 2 rfl (fcells P) _ RF hu8 rfl (by rw [HLP.out]; exact info_fields) ?_))
      refine (HB.out _).mono ?_
      rintro e w2 ⟨rfl, hb⟩
      have hb2 := hb1.trans (hb.mono hb1.size)
      have C0 := D0.later hb
      have C1 := D1.later hb
      clear RF D0 D1 HB hb hb1
      obtain ⟨r0, r1⟩ := C1.patch
      obtain ⟨c0, cv, cl⟩ := C0.card
      cases hx : decide (x.toNat ≤ 511) with
      | false =>
        rw [hx] at HKX
        clear hx
        go_wp2_with fail
        refine (HKX.out _).mono ?_
        rintro e w3 ⟨rfl, rfl⟩
        go_wp2_with fail
        refine (aw_any _).mono ?_
        rintro e w9 ⟨rfl, b9⟩
        go_wp2_with fail
        go_ret
        exact ⟨rfl, hb2.trans (b9.mono hb2.size)⟩
      | true =>
        rw [hx] at HKX
        clear hx
        go_wp2_with fail
        refine (HKX.out _).mono ?_
        rintro e w3 ⟨rfl, rfl⟩
        cases hy : decide (y.toNat ≤ 511) with
        | false =>
          rw [hy] at HKY
          clear hy
          go_wp2_with fail
          refine (HKY.out _).mono ?_
          rintro e w3 ⟨rfl, rfl⟩
          go_wp2_with fail
          refine (aw_any _).mono ?_
          rintro e w9 ⟨rfl, b9⟩
          go_wp2_with fail
          go_ret
          exact ⟨rfl, hb2.trans (b9.mono hb2.size)⟩
        | true =>
          rw [hy] at HKY
          clear hy
          go_wp2_with fail
          refine (HKY.out _).mono ?_
          rintro e w3 ⟨rfl, rfl⟩
          by_cases hv1 : ver < 0
          · have d1 : decide (ver < 0) = true := by simpa using hv1
            go_wp2_with fail
            refine (aw_any _).mono ?_
            rintro e w9 ⟨rfl, b9⟩
            go_wp2_with fail
            go_ret
            exact ⟨rfl, hb2.trans (b9.mono hb2.size)⟩
          · have d1 : decide (ver < 0) = false := by simpa using hv1
            by_cases hv2 : 1099511627776 < ver
            · have d2 : decide (1099511627776 < ver) = true := by simpa using hv2
              go_wp2_with fail
              refine (aw_any _).mono ?_
              rintro e w9 ⟨rfl, b9⟩
              go_wp2_with fail
              go_ret
              exact ⟨rfl, hb2.trans (b9.mono hb2.size)⟩
            · have d2 : decide (1099511627776 < ver) = false := by simpa using hv2
              have HP3 := Lib.hid (fun wx : World => HP30.out wx (by omega))
              have HR3 := Lib.hid (fun wx : World => HR30.out wx (by omega) (by omega))
              go_wp2_with fail
              clear r0 r1 c0 cv cl d1 d2 hv1 hv2 HP30 HR30
              have c0 : ∀ kk : LW w2, kk.val.cell? ⟨w.heap.size, 0, none⟩ = some (.int .i64 id) := fun kk => (C0.later kk.le).card.1
              refine wp_region_steady [] 76 (by kernel_rfl) (by kernel_rfl) (by kernel_rfl) (by rfl) ?_
              refine wpG_run (by rfl) (by rfl) (.agg (ccells id ver lab C).toArray) (fun w1 hl => exec_load 27 (.tmp 3) rfl w.heap.size 0 rfl (ccells id ver lab C) _ ((C0.later hl.1).wholeC) hu rfl (by rw [HL0.out]; exact info_card)) ?_
              simp only [Act.put, List.setIfInBounds_toArray, List.set_cons_zero, List.set_cons_succ]
              iterate 1 (refine wpG_quiet (by rfl) (by rfl) (by rfl) (fun K hK => ?_); go_big_quiet_op; refine hK _ ?_; clear hK K)
              refine wpG_call (by rfl) (by rfl) 20 #[.agg (ccells id ver lab C).toArray, .int .u32 (y.toNat : Int)] (.agg c1.toArray) (by intro _; simp [go_sem]) (by kernel_rfl) (fun w1 hl => (HP1.out w1)) ?_
              simp only [Act.put, List.setIfInBounds_toArray, List.set_cons_zero, List.set_cons_succ]
              refine wpG_run (by rfl) (by rfl) (.agg (ccells id ver lab C).toArray) (fun w1 hl => exec_load 27 (.tmp 3) rfl w.heap.size 0 rfl (ccells id ver lab C) _ ((C0.later hl.1).wholeC) hu rfl (by rw [HL0.out]; exact info_card)) ?_
              simp only [Act.put, List.setIfInBounds_toArray, List.set_cons_zero, List.set_cons_succ]
              iterate 1 (refine wpG_quiet (by rfl) (by rfl) (by rfl) (fun K hK => ?_); go_big_quiet_op; refine hK _ ?_; clear hK K)
              refine wpG_call (by rfl) (by rfl) 21 #[.agg (ccells id ver lab C).toArray, .int .u32 (y.toNat : Int)] (.agg c1.toArray) (by intro _; simp [go_sem]) (by kernel_rfl) (fun w1 hl => (HR1.out w1)) ?_
              simp only [Act.put, List.setIfInBounds_toArray, List.set_cons_zero, List.set_cons_succ]
              refine wpG_run (by rfl) (by rfl) (.bool true) (fun w1 hl => exec_eql 27 _ (.tmp 39) (.tmp 42) rfl _ _ rfl rfl guard_card true (HE1.out w1)) ?_
              simp only [Act.put, List.setIfInBounds_toArray, List.set_cons_zero, List.set_cons_succ]
              iterate 1 (refine wpG_quiet (by rfl) (by rfl) (by rfl) (fun K hK => ?_); go_big_quiet_op; refine hK _ ?_; clear hK K)
              refine wpG_run (by rfl) (by rfl) (.agg (ccells id ver lab C).toArray) (fun w1 hl => exec_load 27 (.tmp 3) rfl w.heap.size 0 rfl (ccells id ver lab C) _ ((C0.later hl.1).wholeC) hu rfl (by rw [HL0.out]; exact info_card)) ?_
              simp only [Act.put, List.setIfInBounds_toArray, List.set_cons_zero, List.set_cons_succ]
              iterate 1 (refine wpG_quiet (by rfl) (by rfl) (by rfl) (fun K hK => ?_); go_big_quiet_op; refine hK _ ?_; clear hK K)
              refine wpG_call (by rfl) (by rfl) 22 #[.agg (ccells id ver lab C).toArray, .int .u32 (y.toNat : Int)] (.agg c2.toArray) (by intro _; simp [go_sem]) (by kernel_rfl) (fun w1 hl => (HP2.out w1)) ?_
              simp only [Act.put, List.setIfInBounds_toArray, List.set_cons_zero, List.set_cons_succ]
              refine wpG_run (by rfl) (by rfl) (.agg (ccells id ver lab C).toArray) (fun w1 hl => exec_load 27 (.tmp 3) rfl w.heap.size 0 rfl (ccells id ver lab C) _ ((C0.later hl.1).wholeC) hu rfl (by rw [HL0.out]; exact info_card)) ?_
              simp only [Act.put, List.setIfInBounds_toArray, List.set_cons_zero, List.set_cons_succ]
              iterate 1 (refine wpG_quiet (by rfl) (by rfl) (by rfl) (fun K hK => ?_); go_big_quiet_op; refine hK _ ?_; clear hK K)
              refine wpG_call (by rfl) (by rfl) 23 #[.agg (ccells id ver lab C).toArray, .int .u32 (y.toNat : Int)] (.agg c2.toArray) (by intro _; simp [go_sem]) (by kernel_rfl) (fun w1 hl => (HR2.out w1)) ?_
              simp only [Act.put, List.setIfInBounds_toArray, List.set_cons_zero, List.set_cons_succ]
              refine wpG_run (by rfl) (by rfl) (.bool true) (fun w1 hl => exec_eql 29 _ (.tmp 47) (.tmp 50) rfl _ _ rfl rfl guard_patch true (HE2.out w1)) ?_
              simp only [Act.put, List.setIfInBounds_toArray, List.set_cons_zero, List.set_cons_succ]
              iterate 2 (refine wpG_quiet (by rfl) (by rfl) (by rfl) (fun K hK => ?_); go_big_quiet_op; refine hK _ ?_; clear hK K)
              refine wpG_run (by rfl) (by rfl) (.agg (ccells id ver lab C).toArray) (fun w1 hl => exec_load 27 (.tmp 3) rfl w.heap.size 0 rfl (ccells id ver lab C) _ ((C0.later hl.1).wholeC) hu rfl (by rw [HL0.out]; exact info_card)) ?_
              simp only [Act.put, List.setIfInBounds_toArray, List.set_cons_zero, List.set_cons_succ]
              refine wpG_run (by rfl) (by rfl) (.agg (pcells (x.toNat : Int) pl P).toArray) (fun w1 hl => exec_load 29 (.tmp 4) rfl (w.heap.size + 1) 0 rfl (pcells (x.toNat : Int) pl P) _ ((C1.later hl.1).wholeC) hup rfl (by rw [HL1.out]; exact info_patch)) ?_
              simp only [Act.put, List.setIfInBounds_toArray, List.set_cons_zero, List.set_cons_succ]
              refine wpG_call (by rfl) (by rfl) 24 #[.agg (ccells id ver lab C).toArray, .agg (pcells (x.toNat : Int) pl P).toArray] (.agg c3.toArray) (by intro _; simp [go_sem]) (by kernel_rfl) (fun w1 hl => (HP3.out w1)) ?_
              simp only [Act.put, List.setIfInBounds_toArray, List.set_cons_zero, List.set_cons_succ]
              refine wpG_run (by rfl) (by rfl) (.agg (ccells id ver lab C).toArray) (fun w1 hl => exec_load 27 (.tmp 3) rfl w.heap.size 0 rfl (ccells id ver lab C) _ ((C0.later hl.1).wholeC) hu rfl (by rw [HL0.out]; exact info_card)) ?_
              simp only [Act.put, List.setIfInBounds_toArray, List.set_cons_zero, List.set_cons_succ]
              refine wpG_run (by rfl) (by rfl) (.agg (pcells (x.toNat : Int) pl P).toArray) (fun w1 hl => exec_load 29 (.tmp 4) rfl (w.heap.size + 1) 0 rfl (pcells (x.toNat : Int) pl P) _ ((C1.later hl.1).wholeC) hup rfl (by rw [HL1.out]; exact info_patch)) ?_
              simp only [Act.put, List.setIfInBounds_toArray, List.set_cons_zero, List.set_cons_succ]
              refine wpG_call (by rfl) (by rfl) 25 #[.agg (ccells id ver lab C).toArray, .agg (pcells (x.toNat : Int) pl P).toArray] (.agg c3.toArray) (by intro _; simp [go_sem]) (by kernel_rfl) (fun w1 hl => (HR3.out w1)) ?_
              simp only [Act.put, List.setIfInBounds_toArray, List.set_cons_zero, List.set_cons_succ]
              refine wpG_run (by rfl) (by rfl) (.bool true) (fun w1 hl => exec_eql 27 _ (.tmp 56) (.tmp 59) rfl _ _ rfl rfl guard_card true (HE3.out w1)) ?_
              simp only [Act.put, List.setIfInBounds_toArray, List.set_cons_zero, List.set_cons_succ]
              iterate 2 (refine wpG_quiet (by rfl) (by rfl) (by rfl) (fun K hK => ?_); go_big_quiet_op; refine hK _ ?_; clear hK K)
              iterate 2 (refine wpG_quiet (by rfl) (by rfl) (by rfl) (fun K hK => ?_); go_big_quiet_op; refine hK _ ?_; clear hK K)
              refine wpG_run (by rfl) (by rfl) (.agg (pcells (x.toNat : Int) pl P).toArray) (fun w1 hl => exec_load 29 (.tmp 4) rfl (w.heap.size + 1) 0 rfl (pcells (x.toNat : Int) pl P) _ ((C1.later hl.1).wholeC) hup rfl (by rw [HL1.out]; exact info_patch)) ?_
              simp only [Act.put, List.setIfInBounds_toArray, List.set_cons_zero, List.set_cons_succ]
              refine wpG_call (by rfl) (by rfl) 26 #[.int .i64 id, .agg (pcells (x.toNat : Int) pl P).toArray] (.agg c4.toArray) (by intro _; simp [go_sem]) (by kernel_rfl) (fun w1 hl => (HP4.out w1)) ?_
              simp only [Act.put, List.setIfInBounds_toArray, List.set_cons_zero, List.set_cons_succ]
              iterate 2 (refine wpG_quiet (by rfl) (by rfl) (by rfl) (fun K hK => ?_); go_big_quiet_op; refine hK _ ?_; clear hK K)
              refine wpG_run (by rfl) (by rfl) (.agg (pcells (x.toNat : Int) pl P).toArray) (fun w1 hl => exec_load 29 (.tmp 4) rfl (w.heap.size + 1) 0 rfl (pcells (x.toNat : Int) pl P) _ ((C1.later hl.1).wholeC) hup rfl (by rw [HL1.out]; exact info_patch)) ?_
              simp only [Act.put, List.setIfInBounds_toArray, List.set_cons_zero, List.set_cons_succ]
              refine wpG_call (by rfl) (by rfl) 27 #[.int .i64 id, .agg (pcells (x.toNat : Int) pl P).toArray] (.agg c4.toArray) (by intro _; simp [go_sem]) (by kernel_rfl) (fun w1 hl => (HR4.out w1)) ?_
              simp only [Act.put, List.setIfInBounds_toArray, List.set_cons_zero, List.set_cons_succ]
              refine wpG_run (by rfl) (by rfl) (.bool true) (fun w1 hl => exec_eql 27 _ (.tmp 66) (.tmp 70) rfl _ _ rfl rfl guard_card true (HE4.out w1)) ?_
              simp only [Act.put, List.setIfInBounds_toArray, List.set_cons_zero, List.set_cons_succ]
              iterate 2 (refine wpG_quiet (by rfl) (by rfl) (by rfl) (fun K hK => ?_); go_big_quiet_op; refine hK _ ?_; clear hK K)
              refine wpG_call (by rfl) (by rfl) 11 #[] (.bool true) (by intro _; simp [go_sem]) (by kernel_rfl) (fun w1 hl => (aw_any w1)) ?_
              simp only [Act.put, List.setIfInBounds_toArray, List.set_cons_zero, List.set_cons_succ]
              iterate 2 (refine wpG_quiet (by rfl) (by rfl) (by rfl) (fun K hK => ?_); go_big_quiet_op; refine hK _ ?_; clear hK K)
              refine wpG_nil fun w1 hl _ => ?_
              have hb3 := hb2.trans (hl.mono hb2.size)
              clear C0 C1 c0 hb2
              go_wp2_with fail
              go_ret
              exact ⟨rfl, hb3⟩
end Go.Proofs.Ytgdidamjgaegkaa
