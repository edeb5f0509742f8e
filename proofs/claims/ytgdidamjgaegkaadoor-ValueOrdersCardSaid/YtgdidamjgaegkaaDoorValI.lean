/- Which values may be, which stands ahead, is less, holds which: the walk of ValueOrders. -/
import Derived.Test.YtgdidamjgaegkaaDoorValH
import Derived.Test.YtgdidamjgaegkaaDoorValE
namespace Go.Proofs.YtgdidamjgaegkaaDoor
set_option linter.unusedVariables false
open Go Go.RowKit BitM ValM

set_option maxRecDepth 100000 in
set_option maxHeartbeats 6400000 in
theorem walk_orders (a b : V3) (mm : Int) (w : World) (hmm : MaxV mm w) :
    Calls Tryd.prog 6 #[.agg (vcells a).toArray, .agg (vcells b).toArray] w fun e w' => e = .returned (.bool true) ∧ Below w.heap.size w w' := by
  have hu := Tryd.underlying43
  have HAW := Lib.hid (fun (wx : World) (hb : Below w.heap.size w wx) => vaw_any mm wx (hmm.later hb))
  obtain ⟨W, hW, B0, B1, hb⟩ := two_boxes a b w
  have p2 : W.cell? ⟨w.heap.size, 2, none⟩ = some (.string a.2.2) := B0.val.2.2
  have q2 : W.cell? ⟨w.heap.size + 1, 2, none⟩ = some (.string b.2.2) := B1.val.2.2
  have P2 : ∀ kk : LW W, kk.val.cell? ⟨w.heap.size, 2, none⟩ = some (.string a.2.2) := fun kk => (B0.later kk.le).val.2.2
  have R0 : Hid (∀ wx, Le W wx → wx.rangeAt w.heap.size 0 (vcells a)) := Lib.hid (fun wx hl => (B0.later hl).valR)
  have R1 : Hid (∀ wx, Le W wx → wx.rangeAt (w.heap.size + 1) 0 (vcells b)) := Lib.hid (fun wx hl => (B1.later hl).valR)
  clear B0 B1
  obtain ⟨ca, hca⟩ : ∃ ca, ca = (vcells a).toArray := ⟨_, rfl⟩
  obtain ⟨cb, hcb⟩ : ∃ cb, cb = (vcells b).toArray := ⟨_, rfl⟩
  rw [← hca, ← hcb] at hW
  have HA := Lib.hid hca
  have HB := Lib.hid hcb
  rw [hW] at p2 q2 P2 R0 R1 hb
  have hb2 := Lib.hid hb
  clear hb hW
  obtain ⟨g1, hg1⟩ : ∃ x, decide (500 < (a.2.2.size : Int)) = x := ⟨_, rfl⟩
  obtain ⟨g2, hg2⟩ : ∃ x, decide (500 < (b.2.2.size : Int)) = x := ⟨_, rfl⟩
  cases g1
  · cases g2
    · have hsa : a.2.2.size ≤ 1000 := by have := of_decide_eq_false hg1; omega
      have hsb : b.2.2.size ≤ 1000 := by have := of_decide_eq_false hg2; omega
      have HK1 := Lib.hid (fun wx : World => (show Calls Tryd.prog 35 #[.agg (vcells a).toArray] wx fun e w' => e = .returned (.bool (vchk a)) ∧ Below wx.heap.size wx w' from vcheck_any a.1 a.2.1 a.2.2 wx))
      have HK2 := Lib.hid (fun wx : World => (show Calls Tryd.prog 36 #[.agg (vcells a).toArray] wx fun e w' => e = .returned (.bool (vchk a)) ∧ Below wx.heap.size wx w' from rvcheck_any a.1 a.2.1 a.2.2 wx))
      have HC1 := Lib.hid (fun wx : World => vcompare_any a b wx)
      have HC2 := Lib.hid (fun wx : World => rcompare_any a b wx hsa hsb)
      have HL1 := Lib.hid (fun wx : World => vless_any a b wx)
      have HL2 := Lib.hid (fun wx : World => rless_any a b wx hsa hsb)
      have HF1 := Lib.hid (fun wx : World => vfold_any a.2.2 wx (by unfold maxLen; omega))
      have HF2 := Lib.hid (fun wx : World => rfold_any a.2.2 wx hsa)
      have HH1 := Lib.hid (fun (wx : World) (hb : Below w.heap.size w wx) => vholds_any a b mm wx hsa hsb (hmm.later hb))
      have HH2 := Lib.hid (fun wx : World => rholds_any a b wx hsa hsb)
      obtain ⟨ck, hck⟩ : ∃ x, x = vchk a := ⟨_, rfl⟩
      obtain ⟨cm, hcm⟩ : ∃ x, x = vcmp a b := ⟨_, rfl⟩
      obtain ⟨le, hle⟩ : ∃ x, x = vless a b := ⟨_, rfl⟩
      obtain ⟨fo, hfo⟩ : ∃ x, x = str (fold a.2.2.data.toList) := ⟨_, rfl⟩
      obtain ⟨ho, hho⟩ : ∃ x, x = vholds a b := ⟨_, rfl⟩
      rw [← hck] at HK1 HK2
      rw [← hcm] at HC1 HC2
      rw [← hle] at HL1 HL2
      rw [← hfo] at HF1 HF2
      rw [← hho] at HH1 HH2
      clear hck hcm hle hfo hho hsa hsb hmm
      rw [← hca, ← hcb]
      clear hca hcb HA HB
      go_enter Tryd.func6, Tryd.ntmps6
      go_wp2_with fail
      refine wp_region_steady [] 60 (by kernel_rfl) (by kernel_rfl) (by kernel_rfl) (by rfl) ?_
      refine wpG_run (by rfl) (by rfl) (.agg (vcells a).toArray) (fun w1 hl => exec_load 43 (.tmp 2) rfl w.heap.size 0 rfl (vcells a) _ (R0.out w1 hl.1) hu rfl info_val) ?_
      simp only [Act.put, List.setIfInBounds_toArray, List.set_cons_zero, List.set_cons_succ]
      refine wpG_call (by rfl) (by rfl) 35 #[.agg (vcells a).toArray] (.bool ck) (by intro _; simp [go_sem]) (by kernel_rfl) (fun w1 hl => (HK1.out w1)) ?_
      simp only [Act.put, List.setIfInBounds_toArray, List.set_cons_zero, List.set_cons_succ]
      refine wpG_run (by rfl) (by rfl) (.agg (vcells a).toArray) (fun w1 hl => exec_load 43 (.tmp 2) rfl w.heap.size 0 rfl (vcells a) _ (R0.out w1 hl.1) hu rfl info_val) ?_
      simp only [Act.put, List.setIfInBounds_toArray, List.set_cons_zero, List.set_cons_succ]
      refine wpG_call (by rfl) (by rfl) 36 #[.agg (vcells a).toArray] (.bool ck) (by intro _; simp [go_sem]) (by kernel_rfl) (fun w1 hl => (HK2.out w1)) ?_
      simp only [Act.put, List.setIfInBounds_toArray, List.set_cons_zero, List.set_cons_succ]
      refine wpG_run (by rfl) (by rfl) (.bool true) (fun w1 hl => by simp [go_sem]) ?_
      simp only [Act.put, List.setIfInBounds_toArray, List.set_cons_zero, List.set_cons_succ]
      iterate 1 (refine wpG_quiet (by rfl) (by rfl) (by rfl) (fun K hK => ?_); go_big_quiet_op; refine hK _ ?_; clear hK K)
      refine wpG_run (by rfl) (by rfl) (.agg (vcells a).toArray) (fun w1 hl => exec_load 43 (.tmp 2) rfl w.heap.size 0 rfl (vcells a) _ (R0.out w1 hl.1) hu rfl info_val) ?_
      simp only [Act.put, List.setIfInBounds_toArray, List.set_cons_zero, List.set_cons_succ]
      refine wpG_run (by rfl) (by rfl) (.agg (vcells b).toArray) (fun w1 hl => exec_load 43 (.tmp 3) rfl (w.heap.size + 1) 0 rfl (vcells b) _ (R1.out w1 hl.1) hu rfl info_val) ?_
      simp only [Act.put, List.setIfInBounds_toArray, List.set_cons_zero, List.set_cons_succ]
      refine wpG_call (by rfl) (by rfl) 37 #[.agg (vcells a).toArray, .agg (vcells b).toArray] (.int .i64 cm) (by intro _; simp [go_sem]) (by kernel_rfl) (fun w1 hl => (HC1.out w1)) ?_
      simp only [Act.put, List.setIfInBounds_toArray, List.set_cons_zero, List.set_cons_succ]
      refine wpG_run (by rfl) (by rfl) (.agg (vcells a).toArray) (fun w1 hl => exec_load 43 (.tmp 2) rfl w.heap.size 0 rfl (vcells a) _ (R0.out w1 hl.1) hu rfl info_val) ?_
      simp only [Act.put, List.setIfInBounds_toArray, List.set_cons_zero, List.set_cons_succ]
      refine wpG_run (by rfl) (by rfl) (.agg (vcells b).toArray) (fun w1 hl => exec_load 43 (.tmp 3) rfl (w.heap.size + 1) 0 rfl (vcells b) _ (R1.out w1 hl.1) hu rfl info_val) ?_
      simp only [Act.put, List.setIfInBounds_toArray, List.set_cons_zero, List.set_cons_succ]
      refine wpG_call (by rfl) (by rfl) 38 #[.agg (vcells a).toArray, .agg (vcells b).toArray] (.int .i64 cm) (by intro _; simp [go_sem]) (by kernel_rfl) (fun w1 hl => (HC2.out w1)) ?_
      simp only [Act.put, List.setIfInBounds_toArray, List.set_cons_zero, List.set_cons_succ]
      refine wpG_run (by rfl) (by rfl) (.bool true) (fun w1 hl => by simp [go_sem]) ?_
      simp only [Act.put, List.setIfInBounds_toArray, List.set_cons_zero, List.set_cons_succ]
      iterate 2 (refine wpG_quiet (by rfl) (by rfl) (by rfl) (fun K hK => ?_); go_big_quiet_op; refine hK _ ?_; clear hK K)
      refine wpG_run (by rfl) (by rfl) (.agg (vcells a).toArray) (fun w1 hl => exec_load 43 (.tmp 2) rfl w.heap.size 0 rfl (vcells a) _ (R0.out w1 hl.1) hu rfl info_val) ?_
      simp only [Act.put, List.setIfInBounds_toArray, List.set_cons_zero, List.set_cons_succ]
      refine wpG_run (by rfl) (by rfl) (.agg (vcells b).toArray) (fun w1 hl => exec_load 43 (.tmp 3) rfl (w.heap.size + 1) 0 rfl (vcells b) _ (R1.out w1 hl.1) hu rfl info_val) ?_
      simp only [Act.put, List.setIfInBounds_toArray, List.set_cons_zero, List.set_cons_succ]
      refine wpG_call (by rfl) (by rfl) 39 #[.agg (vcells a).toArray, .agg (vcells b).toArray] (.bool le) (by intro _; simp [go_sem]) (by kernel_rfl) (fun w1 hl => (HL1.out w1)) ?_
      simp only [Act.put, List.setIfInBounds_toArray, List.set_cons_zero, List.set_cons_succ]
      refine wpG_run (by rfl) (by rfl) (.agg (vcells a).toArray) (fun w1 hl => exec_load 43 (.tmp 2) rfl w.heap.size 0 rfl (vcells a) _ (R0.out w1 hl.1) hu rfl info_val) ?_
      simp only [Act.put, List.setIfInBounds_toArray, List.set_cons_zero, List.set_cons_succ]
      refine wpG_run (by rfl) (by rfl) (.agg (vcells b).toArray) (fun w1 hl => exec_load 43 (.tmp 3) rfl (w.heap.size + 1) 0 rfl (vcells b) _ (R1.out w1 hl.1) hu rfl info_val) ?_
      simp only [Act.put, List.setIfInBounds_toArray, List.set_cons_zero, List.set_cons_succ]
      refine wpG_call (by rfl) (by rfl) 40 #[.agg (vcells a).toArray, .agg (vcells b).toArray] (.bool le) (by intro _; simp [go_sem]) (by kernel_rfl) (fun w1 hl => (HL2.out w1)) ?_
      simp only [Act.put, List.setIfInBounds_toArray, List.set_cons_zero, List.set_cons_succ]
      refine wpG_run (by rfl) (by rfl) (.bool true) (fun w1 hl => by simp [go_sem]) ?_
      simp only [Act.put, List.setIfInBounds_toArray, List.set_cons_zero, List.set_cons_succ]
      iterate 2 (refine wpG_quiet (by rfl) (by rfl) (by rfl) (fun K hK => ?_); go_big_quiet_op; refine hK _ ?_; clear hK K)
      iterate 2 (refine wpG_quiet (by rfl) (by rfl) (by rfl) (fun K hK => ?_); go_big_quiet_op; refine hK _ ?_; clear hK K)
      refine wpG_call (by rfl) (by rfl) 41 #[.string a.2.2] (.string fo) (by intro _; simp [go_sem]) (by kernel_rfl) (fun w1 hl => (HF1.out w1)) ?_
      simp only [Act.put, List.setIfInBounds_toArray, List.set_cons_zero, List.set_cons_succ]
      iterate 2 (refine wpG_quiet (by rfl) (by rfl) (by rfl) (fun K hK => ?_); go_big_quiet_op; refine hK _ ?_; clear hK K)
      refine wpG_call (by rfl) (by rfl) 42 #[.string a.2.2] (.string fo) (by intro _; simp [go_sem]) (by kernel_rfl) (fun w1 hl => (HF2.out w1)) ?_
      simp only [Act.put, List.setIfInBounds_toArray, List.set_cons_zero, List.set_cons_succ]
      refine wpG_run (by rfl) (by rfl) (.bool true) (fun w1 hl => by simp [go_sem]) ?_
      simp only [Act.put, List.setIfInBounds_toArray, List.set_cons_zero, List.set_cons_succ]
      iterate 2 (refine wpG_quiet (by rfl) (by rfl) (by rfl) (fun K hK => ?_); go_big_quiet_op; refine hK _ ?_; clear hK K)
      refine wpG_run (by rfl) (by rfl) (.agg (vcells a).toArray) (fun w1 hl => exec_load 43 (.tmp 2) rfl w.heap.size 0 rfl (vcells a) _ (R0.out w1 hl.1) hu rfl info_val) ?_
      simp only [Act.put, List.setIfInBounds_toArray, List.set_cons_zero, List.set_cons_succ]
      refine wpG_run (by rfl) (by rfl) (.agg (vcells b).toArray) (fun w1 hl => exec_load 43 (.tmp 3) rfl (w.heap.size + 1) 0 rfl (vcells b) _ (R1.out w1 hl.1) hu rfl info_val) ?_
      simp only [Act.put, List.setIfInBounds_toArray, List.set_cons_zero, List.set_cons_succ]
      refine wpG_call (by rfl) (by rfl) 43 #[.agg (vcells a).toArray, .agg (vcells b).toArray] (.bool ho) (by intro _; simp [go_sem]) (by kernel_rfl) (fun w1 hl => (HH1.out w1 (hb2.out.trans (hl.1.mono hb2.out.size)))) ?_
      simp only [Act.put, List.setIfInBounds_toArray, List.set_cons_zero, List.set_cons_succ]
      refine wpG_run (by rfl) (by rfl) (.agg (vcells a).toArray) (fun w1 hl => exec_load 43 (.tmp 2) rfl w.heap.size 0 rfl (vcells a) _ (R0.out w1 hl.1) hu rfl info_val) ?_
      simp only [Act.put, List.setIfInBounds_toArray, List.set_cons_zero, List.set_cons_succ]
      refine wpG_run (by rfl) (by rfl) (.agg (vcells b).toArray) (fun w1 hl => exec_load 43 (.tmp 3) rfl (w.heap.size + 1) 0 rfl (vcells b) _ (R1.out w1 hl.1) hu rfl info_val) ?_
      simp only [Act.put, List.setIfInBounds_toArray, List.set_cons_zero, List.set_cons_succ]
      refine wpG_call (by rfl) (by rfl) 44 #[.agg (vcells a).toArray, .agg (vcells b).toArray] (.bool ho) (by intro _; simp [go_sem]) (by kernel_rfl) (fun w1 hl => (HH2.out w1)) ?_
      simp only [Act.put, List.setIfInBounds_toArray, List.set_cons_zero, List.set_cons_succ]
      refine wpG_run (by rfl) (by rfl) (.bool true) (fun w1 hl => by simp [go_sem]) ?_
      simp only [Act.put, List.setIfInBounds_toArray, List.set_cons_zero, List.set_cons_succ]
      iterate 2 (refine wpG_quiet (by rfl) (by rfl) (by rfl) (fun K hK => ?_); go_big_quiet_op; refine hK _ ?_; clear hK K)
      refine wpG_call (by rfl) (by rfl) 34 #[] (.bool true) (by intro _; simp [go_sem]) (by kernel_rfl) (fun w1 hl => (HAW.out w1 (hb2.out.trans (hl.1.mono hb2.out.size)))) ?_
      simp only [Act.put, List.setIfInBounds_toArray, List.set_cons_zero, List.set_cons_succ]
      iterate 2 (refine wpG_quiet (by rfl) (by rfl) (by rfl) (fun K hK => ?_); go_big_quiet_op; refine hK _ ?_; clear hK K)
      refine wpG_nil fun w1 hl _ => ?_
      replace hb2 := Lib.hid (hb2.out.trans (hl.mono hb2.out.size))
      clear p2 q2 P2 R0 R1 hl HAW
      go_wp2_with fail
      go_ret
      exact ⟨rfl, hb2.out⟩
    · rw [← hca, ← hcb]
      clear hca hcb HA HB hmm
      go_enter Tryd.func6, Tryd.ntmps6
      go_wp2_with fail
      refine (HAW.out _ hb2.out).mono ?_
      rintro e w1 ⟨rfl, hb1⟩
      replace hb2 := Lib.hid (hb2.out.trans (hb1.mono hb2.out.size))
      go_wp2_with fail
      go_ret
      exact ⟨rfl, hb2.out⟩
  · rw [← hca, ← hcb]
    clear hca hcb HA HB hmm
    go_enter Tryd.func6, Tryd.ntmps6
    go_wp2_with fail
    refine (HAW.out _ hb2.out).mono ?_
    rintro e w1 ⟨rfl, hb1⟩
    replace hb2 := Lib.hid (hb2.out.trans (hb1.mono hb2.out.size))
    go_wp2_with fail
    go_ret
    exact ⟨rfl, hb2.out⟩
end Go.Proofs.YtgdidamjgaegkaaDoor
