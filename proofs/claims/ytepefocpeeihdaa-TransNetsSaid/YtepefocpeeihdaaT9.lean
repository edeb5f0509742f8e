/- Items held against each other: the program's Same, the document's Same. -/
import Derived.Test.YtepefocpeeihdaaT5
import Derived.Test.YtepefocpeeihdaaT8
namespace Go.Proofs.Ytepefocpeeihdaa
set_option linter.unusedVariables false
set_option linter.unusedSimpArgs false
open Go Go.RowKit BitM

instance : DecidableEq Im := fun x y => decidable_of_iff (x.kd = y.kd ∧ x.cd = y.cd) (by cases x; cases y; simp)
instance : DecidableEq Tn := fun x y => decidable_of_iff (x.sq = y.sq ∧ x.id = y.id ∧ x.old = y.old ∧ x.nw = y.nw ∧ x.cd = y.cd) (by cases x; cases y; simp)
theorem fieldsI : Try.prog.underlying 49 = some (.struct (Try.prog.fieldsOf 49)) := by kernel_rfl
theorem guard_item : Try.prog.eqGuardType Try.prog.depth 49 = false := by kernel_rfl
theorem eq_ccl0 (c d : Cd) (hc : okCd c) (hd : okCd d) (w : World) : (Op.equalIn 9999 30 (.agg (ccl c).toArray) (.agg (ccl d).toArray)).run Try.prog w = .ok (decide (c = d)) w := by
  obtain ⟨a1, a2, a3, a4⟩ := c
  obtain ⟨b1, b2, b3, b4⟩ := d
  have := eq_card 9995 a1 a2 a3 b1 b2 b3 a4 b4 hc hd w
  rw [show decide ((a1, a2, a3, a4) = (b1, b2, b3, b4)) = decide (a1 = b1 ∧ a2 = b2 ∧ a3 = b3 ∧ a4 = b4) from by simp only [Prod.mk.injEq]]
  exact this
theorem eq_icl (x y : Im) (hx : okCd x.cd) (hy : okCd y.cd) (w : World) : (Op.equalIn 10000 49 (.agg (icl x).toArray) (.agg (icl y).toArray)).run Try.prog w = .ok (decide (x = y)) w := by
  have hsz : ∀ w, (sizeOf 30).run Try.prog w = .ok 27 w := fun w => by kernel_rfl
  have hag : ∀ w, (isAgg 30).run Try.prog w = .ok true w := fun w => by kernel_rfl
  rw [run_equalIn_agg w 9999 49 _ _ fieldsI (by kernel_rfl)]
  have e : (Try.prog.fieldsOf 49).toList = [⟨"Kind", 3, 0, false, "", "", 0⟩, ⟨"Card", 30, 1, false, "", "", 8⟩] := by kernel_rfl
  rw [e]
  have px : ∀ z : Im, okCd z.cd → (part 30 (icl z).toArray 1).run Try.prog w = .ok (.agg (ccl z.cd).toArray) w := fun z hz => by
    simp only [part, Sem.run_bind, hag, Result.andThen_ok, hsz, if_true, Sem.run_pure]
    have : (icl z).toArray.extract 1 (1 + 27) = (ccl z.cd).toArray := by
      apply Array.toList_inj.1
      have h := icl_drop hz
      rw [ccl_len hz] at h
      simpa using h
    rw [this]
  have p0 : ∀ z : Im, (part 3 (icl z).toArray 0).run Try.prog w = .ok (.int .i64 z.kd) w := fun z => by simp [go_sem, part, isAgg, icl]
  have ec := eq_ccl0 x.cd y.cd hx hy w
  have q0 : ∀ a b : Int, (Op.equalIn 9999 3 (.int .i64 a) (.int .i64 b)).run Try.prog w = .ok (a == b) w := fun a b => run_equalIn_int w 9998 3 .i64 .i64 a b Try.underlying3
  simp only [Op.eqFields, if_pos (show ("Kind" : String) ≠ "_" by decide), if_pos (show ("Card" : String) ≠ "_" by decide)]
  simp only [Sem.run_bind, Sem.run_ite, Sem.run_pure, px x hx, px y hy, p0, q0, ec, Result.andThen_ok]
  obtain ⟨k, c⟩ := x
  obtain ⟨k', c'⟩ := y
  by_cases h1 : k = k' <;> by_cases h2 : c = c' <;> simp [h1, h2]
theorem fieldsT : Try.prog.underlying 32 = some (.struct (Try.prog.fieldsOf 32)) := by kernel_rfl
theorem guard_turn : Try.prog.eqGuardType Try.prog.depth 32 = false := by kernel_rfl
theorem eq_tcl (x y : Tn) (hx : okCd x.cd) (hy : okCd y.cd) (w : World) : (Op.equalIn 10000 32 (.agg (tcl x).toArray) (.agg (tcl y).toArray)).run Try.prog w = .ok (decide (x = y)) w := by
  have hsz : ∀ w, (sizeOf 30).run Try.prog w = .ok 27 w := fun w => by kernel_rfl
  have hag : ∀ w, (isAgg 30).run Try.prog w = .ok true w := fun w => by kernel_rfl
  rw [run_equalIn_agg w 9999 32 _ _ fieldsT (by kernel_rfl)]
  have e : (Try.prog.fieldsOf 32).toList = [⟨"Seq", 3, 0, false, "", "", 0⟩, ⟨"ID", 3, 1, false, "", "", 8⟩, ⟨"Old", 3, 2, false, "", "", 16⟩, ⟨"New", 3, 3, false, "", "", 24⟩, ⟨"Card", 30, 4, false, "", "", 32⟩] := by kernel_rfl
  rw [e]
  have px : ∀ z : Tn, okCd z.cd → (part 30 (tcl z).toArray 4).run Try.prog w = .ok (.agg (ccl z.cd).toArray) w := fun z hz => by
    simp only [part, Sem.run_bind, hag, Result.andThen_ok, hsz, if_true, Sem.run_pure]
    have : (tcl z).toArray.extract 4 (4 + 27) = (ccl z.cd).toArray := by
      apply Array.toList_inj.1
      have h := tcl_drop hz
      rw [ccl_len hz] at h
      simpa using h
    rw [this]
  have p0 : ∀ z : Tn, (part 3 (tcl z).toArray 0).run Try.prog w = .ok (.int .i64 z.sq) w := fun z => by simp [go_sem, part, isAgg, tcl]
  have p1 : ∀ z : Tn, (part 3 (tcl z).toArray 1).run Try.prog w = .ok (.int .i64 z.id) w := fun z => by simp [go_sem, part, isAgg, tcl]
  have p2 : ∀ z : Tn, (part 3 (tcl z).toArray 2).run Try.prog w = .ok (.int .i64 z.old) w := fun z => by simp [go_sem, part, isAgg, tcl]
  have p3 : ∀ z : Tn, (part 3 (tcl z).toArray 3).run Try.prog w = .ok (.int .i64 z.nw) w := fun z => by simp [go_sem, part, isAgg, tcl]
  have ec := eq_ccl0 x.cd y.cd hx hy w
  have q0 : ∀ a b : Int, (Op.equalIn 9999 3 (.int .i64 a) (.int .i64 b)).run Try.prog w = .ok (a == b) w := fun a b => run_equalIn_int w 9998 3 .i64 .i64 a b Try.underlying3
  simp only [Op.eqFields, if_pos (show ("Seq" : String) ≠ "_" by decide), if_pos (show ("ID" : String) ≠ "_" by decide), if_pos (show ("Old" : String) ≠ "_" by decide), if_pos (show ("New" : String) ≠ "_" by decide), if_pos (show ("Card" : String) ≠ "_" by decide)]
  simp only [Sem.run_bind, Sem.run_ite, Sem.run_pure, px x hx, px y hy, p0, p1, p2, p3, q0, ec, Result.andThen_ok]
  obtain ⟨a1, a2, a3, a4, c⟩ := x
  obtain ⟨b1, b2, b3, b4, c'⟩ := y
  by_cases h1 : a1 = b1 <;> by_cases h2 : a2 = b2 <;> by_cases h3 : a3 = b3 <;> by_cases h4 : a4 = b4 <;> by_cases h5 : c = c' <;> simp [h1, h2, h3, h4, h5]

set_option maxRecDepth 100000 in
set_option maxHeartbeats 3200000 in
theorem equali_any (A B : Option Addr) (n c m d : Nat) (l l' : List Im) (w : World) (hl : l.length = n) (hm : l'.length = m) (hn : n ≤ 1099511627776) (hm2 : m ≤ 1099511627776) (hok : ∀ x ∈ l, okCd x.cd) (hok' : ∀ x ∈ l', okCd x.cd) (hA : Sees w w.heap.size A (rws icl l)) (hB : Sees w w.heap.size B (rws icl l')) :
    Calls Try.prog 28 #[.slice A n c, .slice B m d] w fun e w' => e = .returned (.bool (decide (l = l'))) ∧ Below w.heap.size w w' := by
  have hu := Try.underlying49
  by_cases hnm : n = m
  · subst hnm
    obtain ⟨R, hR⟩ : ∃ R, R = decide (l = l') := ⟨_, rfl⟩
    have HR : Hid (R = true ↔ l = l') := Lib.hid (by rw [hR, decide_eq_true_eq])
    rw [← hR]
    have HLL := Lib.hid hl
    have HOK1 := Lib.hid hok
    have HOK2 := Lib.hid hok'
    clear hok hok'
    have HML := Lib.hid hm
    clear hR hl hm hm2
    go_enter Try.func28, Try.ntmps28
    go_wp2_with fail
    go_loopw [13] (fun i wr => ∃ k : Nat, k ≤ n ∧ i = .int .i64 k ∧ Hid (∀ i (h1 : i < l.length) (h2 : i < l'.length), i < k → l[i] = l'[i]) ∧ Below w.heap.size w wr) (fun i _ => n - (iOf i).toNat)
    case atStart => exact ⟨0, by omega, rfl, Lib.hid (fun i _ _ h => absurd h (by omega)), Below.refl _ _⟩
    case round =>
      obtain ⟨k, hk, rfl, HK, hbr⟩ := hrel
      by_cases hlt : k < n
      · have dk : (k : Int) < (n : Int) := by omega
        have hkl : k < l.length := by rw [HLL.out]; exact hlt
        have hkm : k < l'.length := by rw [HML.out]; exact hlt
        obtain ⟨b1, o1, rfl, hb1, hr1⟩ := sees_rw (sz := 28) (icl_lens HOK1.out) (hA.below hbr) (by decide) k hkl
        obtain ⟨b2, o2, rfl, hb2, hr2⟩ := sees_rw (sz := 28) (icl_lens HOK2.out) (hB.below hbr) (by decide) k hkm
        have hL1 := icl_lens HOK1.out _ (List.getElem_mem hkl)
        have hO1 := HOK1.out _ (List.getElem_mem hkl)
        have hL2 := icl_lens HOK2.out _ (List.getElem_mem hkm)
        have hO2 := HOK2.out _ (List.getElem_mem hkm)
        obtain ⟨u, hu2⟩ : ∃ u, u = l[k] := ⟨_, rfl⟩
        obtain ⟨v, hv2⟩ : ∃ v, v = l'[k] := ⟨_, rfl⟩
        rw [← hu2] at hr1 hL1 hO1
        rw [← hv2] at hr2 hL2 hO2
        have HUL := Lib.hid hL1
        have HVL := Lib.hid hL2
        have hbz := hbr.size
        have HA : Hid (∀ w1, Le wr w1 → w1.rangeAt b1 (o1 + k * 28) (icl u)) := Lib.hid (fun w1 h1 j v hj => (h1.cell (p := ⟨b1, o1 + k * 28 + j, none⟩) (by show b1 < wr.heap.size; omega)).trans (hr1 j v hj))
        have HB : Hid (∀ w1, Le wr w1 → w1.rangeAt b2 (o2 + k * 28) (icl v)) := Lib.hid (fun w1 h1 j v hj => (h1.cell (p := ⟨b2, o2 + k * 28 + j, none⟩) (by show b2 < wr.heap.size; omega)).trans (hr2 j v hj))
        have HQ := Lib.hid (fun w1 : World => eq_icl u v hO1 hO2 w1)
        have HU2 := Lib.hid hu2
        have HV2 := Lib.hid hv2
        clear hr1 hr2 hL1 hL2 hO1 hO2 hu2 hv2 hb1 hb2
        cases huv : decide (u = v) with
        | true =>
          rw [huv] at HQ
          have HE := Lib.hid (of_decide_eq_true huv)
          clear huv
          go_wp2_with fail
          refine wp_region_steady [] 26 (by kernel_rfl) (by kernel_rfl) (by kernel_rfl) (by rfl) ?_
          iterate 3 (refine wpG_quiet (by rfl) (by rfl) (by rfl) (fun K hK => ?_); go_big_quiet_op; refine hK _ ?_; clear hK K)
          refine wpG_run (by rfl) (by rfl) (.agg (icl u).toArray) (fun wx hl => exec_load 49 (.tmp 18) rfl b1 (o1 + k * 28) rfl (icl u) _ (HA.out wx hl.1) hu rfl (by rw [HUL.out]; exact info_item)) ?_
          simp only [Act.put, List.setIfInBounds_toArray, List.set_cons_zero, List.set_cons_succ]
          iterate 3 (refine wpG_quiet (by rfl) (by rfl) (by rfl) (fun K hK => ?_); go_big_quiet_op; refine hK _ ?_; clear hK K)
          refine wpG_run (by rfl) (by rfl) (.agg (icl v).toArray) (fun wx hl => exec_load 49 (.tmp 22) rfl b2 (o2 + k * 28) rfl (icl v) _ (HB.out wx hl.1) hu rfl (by rw [HVL.out]; exact info_item)) ?_
          simp only [Act.put, List.setIfInBounds_toArray, List.set_cons_zero, List.set_cons_succ]
          refine wpG_run (by rfl) (by rfl) (.bool (!true)) (fun wx hl => exec_neq 49 _ (.tmp 19) (.tmp 23) rfl _ _ rfl rfl guard_item true (HQ.out wx)) ?_
          simp only [Act.put, List.setIfInBounds_toArray, List.set_cons_zero, List.set_cons_succ]
          refine wpG_nil fun w1 hl _ => ?_
          have hb1 := hbr.trans (hl.mono hbr.size)
          clear hA hB hbr
          go_wp2_with fail
          go_roundw
          case rel => exact ⟨k + 1, by omega, by go_num, Lib.hid (fun i h1 h2 hi => by
            by_cases e : i = k
            · subst e; rw [← HU2.out, ← HV2.out]; exact HE.out
            · exact HK.out i h1 h2 (by omega)), hb1⟩
          case measure => simp [iOf]; omega
        | false =>
          rw [huv] at HQ
          have HRR : Hid (R = false) := Lib.hid (by
            rw [Bool.eq_false_iff]
            intro e
            replace e := HR.out.1 e
            refine of_decide_eq_false huv ?_
            rw [HU2.out, HV2.out]
            subst e
            rfl)
          clear huv
          go_wp2_with fail
          refine wp_region_steady [] 26 (by kernel_rfl) (by kernel_rfl) (by kernel_rfl) (by rfl) ?_
          iterate 3 (refine wpG_quiet (by rfl) (by rfl) (by rfl) (fun K hK => ?_); go_big_quiet_op; refine hK _ ?_; clear hK K)
          refine wpG_run (by rfl) (by rfl) (.agg (icl u).toArray) (fun wx hl => exec_load 49 (.tmp 18) rfl b1 (o1 + k * 28) rfl (icl u) _ (HA.out wx hl.1) hu rfl (by rw [HUL.out]; exact info_item)) ?_
          simp only [Act.put, List.setIfInBounds_toArray, List.set_cons_zero, List.set_cons_succ]
          iterate 3 (refine wpG_quiet (by rfl) (by rfl) (by rfl) (fun K hK => ?_); go_big_quiet_op; refine hK _ ?_; clear hK K)
          refine wpG_run (by rfl) (by rfl) (.agg (icl v).toArray) (fun wx hl => exec_load 49 (.tmp 22) rfl b2 (o2 + k * 28) rfl (icl v) _ (HB.out wx hl.1) hu rfl (by rw [HVL.out]; exact info_item)) ?_
          simp only [Act.put, List.setIfInBounds_toArray, List.set_cons_zero, List.set_cons_succ]
          refine wpG_run (by rfl) (by rfl) (.bool (!false)) (fun wx hl => exec_neq 49 _ (.tmp 19) (.tmp 23) rfl _ _ rfl rfl guard_item false (HQ.out wx)) ?_
          simp only [Act.put, List.setIfInBounds_toArray, List.set_cons_zero, List.set_cons_succ]
          refine wpG_nil fun w1 hl _ => ?_
          have hb1 := hbr.trans (hl.mono hbr.size)
          clear hA hB hbr
          go_wp2_with fail
          go_ret
          exact ⟨by rw [HRR.out]; rfl, hb1⟩
      · obtain rfl : k = n := by omega
        have HRR : Hid (R = true) := Lib.hid (by
          exact HR.out.2 (List.ext_getElem (by rw [HLL.out, HML.out]) (fun i h1 h2 => HK.out i h1 h2 (by rw [HLL.out] at h1; exact h1))))
        go_wp2_with fail
        go_ret
        exact ⟨by rw [HRR.out]; rfl, hbr⟩
  · have HRR : Hid (decide (l = l') = false) := Lib.hid (decide_eq_false (fun e => hnm (by rw [← hl, ← hm, e])))
    rw [HRR.out]
    have b1 : ((n : Int) != (m : Int)) = true := by rw [bne_iff_ne]; omega
    clear hA hB hl hm hok hok'
    go_enter Try.func28, Try.ntmps28
    go_wp2_with fail
    go_ret
    exact ⟨rfl, Below.refl _ _⟩

set_option maxRecDepth 100000 in
set_option maxHeartbeats 3200000 in
theorem rsamei_any (A B : Option Addr) (n c m d : Nat) (l l' : List Im) (w : World) (hl : l.length = n) (hm : l'.length = m) (hn : n ≤ 1099511627776) (hm2 : m ≤ 1099511627776) (hok : ∀ x ∈ l, okCd x.cd) (hok' : ∀ x ∈ l', okCd x.cd) (hA : Sees w w.heap.size A (rws icl l)) (hB : Sees w w.heap.size B (rws icl l')) :
    Calls Try.prog 16 #[.slice A n c, .slice B m d] w fun e w' => e = .returned (.bool (decide (l = l'))) ∧ Below w.heap.size w w' := by
  have hu := Try.underlying49
  by_cases hnm : n = m
  · subst hnm
    obtain ⟨R, hR⟩ : ∃ R, R = decide (l = l') := ⟨_, rfl⟩
    have HR : Hid (R = true ↔ l = l') := Lib.hid (by rw [hR, decide_eq_true_eq])
    rw [← hR]
    have HLL := Lib.hid hl
    have HOK1 := Lib.hid hok
    have HOK2 := Lib.hid hok'
    clear hok hok'
    have HML := Lib.hid hm
    clear hR hl hm hm2
    go_enter Try.func16, Try.ntmps16
    go_wp2_with fail
    go_loopw [5] (fun i wr => ∃ k : Nat, k ≤ n ∧ i = .int .i64 k ∧ Hid (∀ i (h1 : i < l.length) (h2 : i < l'.length), i < k → l[i] = l'[i]) ∧ Below w.heap.size w wr) (fun i _ => n - (iOf i).toNat)
    case atStart => exact ⟨0, by omega, rfl, Lib.hid (fun i _ _ h => absurd h (by omega)), Below.refl _ _⟩
    case round =>
      obtain ⟨k, hk, rfl, HK, hbr⟩ := hrel
      by_cases hlt : k < n
      · have dk : (k : Int) < (n : Int) := by omega
        have hkl : k < l.length := by rw [HLL.out]; exact hlt
        have hkm : k < l'.length := by rw [HML.out]; exact hlt
        obtain ⟨b1, o1, rfl, hb1, hr1⟩ := sees_rw (sz := 28) (icl_lens HOK1.out) (hA.below hbr) (by decide) k hkl
        obtain ⟨b2, o2, rfl, hb2, hr2⟩ := sees_rw (sz := 28) (icl_lens HOK2.out) (hB.below hbr) (by decide) k hkm
        have hL1 := icl_lens HOK1.out _ (List.getElem_mem hkl)
        have hO1 := HOK1.out _ (List.getElem_mem hkl)
        have hL2 := icl_lens HOK2.out _ (List.getElem_mem hkm)
        have hO2 := HOK2.out _ (List.getElem_mem hkm)
        obtain ⟨u, hu2⟩ : ∃ u, u = l[k] := ⟨_, rfl⟩
        obtain ⟨v, hv2⟩ : ∃ v, v = l'[k] := ⟨_, rfl⟩
        rw [← hu2] at hr1 hL1 hO1
        rw [← hv2] at hr2 hL2 hO2
        have HUL := Lib.hid hL1
        have HVL := Lib.hid hL2
        have hbz := hbr.size
        have HA : Hid (∀ w1, Le wr w1 → w1.rangeAt b1 (o1 + k * 28) (icl u)) := Lib.hid (fun w1 h1 j v hj => (h1.cell (p := ⟨b1, o1 + k * 28 + j, none⟩) (by show b1 < wr.heap.size; omega)).trans (hr1 j v hj))
        have HB : Hid (∀ w1, Le wr w1 → w1.rangeAt b2 (o2 + k * 28) (icl v)) := Lib.hid (fun w1 h1 j v hj => (h1.cell (p := ⟨b2, o2 + k * 28 + j, none⟩) (by show b2 < wr.heap.size; omega)).trans (hr2 j v hj))
        have HQ := Lib.hid (fun w1 : World => eq_icl u v hO1 hO2 w1)
        have HU2 := Lib.hid hu2
        have HV2 := Lib.hid hv2
        clear hr1 hr2 hL1 hL2 hO1 hO2 hu2 hv2 hb1 hb2
        cases huv : decide (u = v) with
        | true =>
          rw [huv] at HQ
          have HE := Lib.hid (of_decide_eq_true huv)
          clear huv
          go_wp2_with fail
          refine wp_region_steady [] 26 (by kernel_rfl) (by kernel_rfl) (by kernel_rfl) (by rfl) ?_
          iterate 3 (refine wpG_quiet (by rfl) (by rfl) (by rfl) (fun K hK => ?_); go_big_quiet_op; refine hK _ ?_; clear hK K)
          refine wpG_run (by rfl) (by rfl) (.agg (icl u).toArray) (fun wx hl => exec_load 49 (.tmp 19) rfl b1 (o1 + k * 28) rfl (icl u) _ (HA.out wx hl.1) hu rfl (by rw [HUL.out]; exact info_item)) ?_
          simp only [Act.put, List.setIfInBounds_toArray, List.set_cons_zero, List.set_cons_succ]
          iterate 3 (refine wpG_quiet (by rfl) (by rfl) (by rfl) (fun K hK => ?_); go_big_quiet_op; refine hK _ ?_; clear hK K)
          refine wpG_run (by rfl) (by rfl) (.agg (icl v).toArray) (fun wx hl => exec_load 49 (.tmp 23) rfl b2 (o2 + k * 28) rfl (icl v) _ (HB.out wx hl.1) hu rfl (by rw [HVL.out]; exact info_item)) ?_
          simp only [Act.put, List.setIfInBounds_toArray, List.set_cons_zero, List.set_cons_succ]
          refine wpG_run (by rfl) (by rfl) (.bool (!true)) (fun wx hl => exec_neq 49 _ (.tmp 20) (.tmp 24) rfl _ _ rfl rfl guard_item true (HQ.out wx)) ?_
          simp only [Act.put, List.setIfInBounds_toArray, List.set_cons_zero, List.set_cons_succ]
          refine wpG_nil fun w1 hl _ => ?_
          have hb1 := hbr.trans (hl.mono hbr.size)
          clear hA hB hbr
          go_wp2_with fail
          go_roundw
          case rel => exact ⟨k + 1, by omega, by go_num, Lib.hid (fun i h1 h2 hi => by
            by_cases e : i = k
            · subst e; rw [← HU2.out, ← HV2.out]; exact HE.out
            · exact HK.out i h1 h2 (by omega)), hb1⟩
          case measure => simp [iOf]; omega
        | false =>
          rw [huv] at HQ
          have HRR : Hid (R = false) := Lib.hid (by
            rw [Bool.eq_false_iff]
            intro e
            replace e := HR.out.1 e
            refine of_decide_eq_false huv ?_
            rw [HU2.out, HV2.out]
            subst e
            rfl)
          clear huv
          go_wp2_with fail
          refine wp_region_steady [] 26 (by kernel_rfl) (by kernel_rfl) (by kernel_rfl) (by rfl) ?_
          iterate 3 (refine wpG_quiet (by rfl) (by rfl) (by rfl) (fun K hK => ?_); go_big_quiet_op; refine hK _ ?_; clear hK K)
          refine wpG_run (by rfl) (by rfl) (.agg (icl u).toArray) (fun wx hl => exec_load 49 (.tmp 19) rfl b1 (o1 + k * 28) rfl (icl u) _ (HA.out wx hl.1) hu rfl (by rw [HUL.out]; exact info_item)) ?_
          simp only [Act.put, List.setIfInBounds_toArray, List.set_cons_zero, List.set_cons_succ]
          iterate 3 (refine wpG_quiet (by rfl) (by rfl) (by rfl) (fun K hK => ?_); go_big_quiet_op; refine hK _ ?_; clear hK K)
          refine wpG_run (by rfl) (by rfl) (.agg (icl v).toArray) (fun wx hl => exec_load 49 (.tmp 23) rfl b2 (o2 + k * 28) rfl (icl v) _ (HB.out wx hl.1) hu rfl (by rw [HVL.out]; exact info_item)) ?_
          simp only [Act.put, List.setIfInBounds_toArray, List.set_cons_zero, List.set_cons_succ]
          refine wpG_run (by rfl) (by rfl) (.bool (!false)) (fun wx hl => exec_neq 49 _ (.tmp 20) (.tmp 24) rfl _ _ rfl rfl guard_item false (HQ.out wx)) ?_
          simp only [Act.put, List.setIfInBounds_toArray, List.set_cons_zero, List.set_cons_succ]
          refine wpG_nil fun w1 hl _ => ?_
          have hb1 := hbr.trans (hl.mono hbr.size)
          clear hA hB hbr
          go_wp2_with fail
          go_ret
          exact ⟨by rw [HRR.out]; rfl, hb1⟩
      · obtain rfl : k = n := by omega
        have HRR : Hid (R = true) := Lib.hid (by
          exact HR.out.2 (List.ext_getElem (by rw [HLL.out, HML.out]) (fun i h1 h2 => HK.out i h1 h2 (by rw [HLL.out] at h1; exact h1))))
        go_wp2_with fail
        go_ret
        exact ⟨by rw [HRR.out]; rfl, hbr⟩
  · have HRR : Hid (decide (l = l') = false) := Lib.hid (decide_eq_false (fun e => hnm (by rw [← hl, ← hm, e])))
    rw [HRR.out]
    have b1 : ((n : Int) != (m : Int)) = true := by rw [bne_iff_ne]; omega
    clear hA hB hl hm hok hok'
    go_enter Try.func16, Try.ntmps16
    go_wp2_with fail
    go_ret
    exact ⟨rfl, Below.refl _ _⟩

theorem samei_any (A B : Option Addr) (n c m d : Nat) (l l' : List Im) (w : World) (hA : SeesR icl w A n c l) (hB : SeesR icl w B m d l') (hn : n ≤ 1099511627776) (hm : m ≤ 1099511627776) (hok : ∀ x ∈ l, okCd x.cd) (hok' : ∀ x ∈ l', okCd x.cd) :
    Calls Try.prog 13 #[.slice A n c, .slice B m d] w fun e w' => e = .returned (.bool (decide (l = l'))) ∧ Below w.heap.size w w' := by
  have HE := Lib.hid (equali_any A B n c m d l l' w hA.len hB.len hn hm hok hok' hA.see hB.see)
  generalize decide (l = l') = R at HE
  clear hA hB
  go_enter Try.func13, Try.ntmps13
  go_wp2_with fail
  refine HE.out.mono ?_
  rintro e w1 ⟨rfl, hb⟩
  go_wp2_with fail
  go_ret
  exact ⟨rfl, hb⟩
end Go.Proofs.Ytepefocpeeihdaa
