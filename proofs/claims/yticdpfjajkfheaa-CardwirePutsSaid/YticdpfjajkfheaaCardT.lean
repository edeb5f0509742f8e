/- Cards: which cards may be: what it returns. -/
import Derived.Test.YticdpfjajkfheaaCardS
namespace Go.Proofs.Yticdpfjajkfheaa
set_option linter.unusedVariables false
open Go Go.RowKit BitM

set_option maxRecDepth 100000 in
set_option maxHeartbeats 3200000 in
theorem ccheck_any (id ver lab : Int) (f : List V3) (w : World) (hf : f.length = 8) :
    Calls Try.prog 33 #[.agg (ccells id ver lab f).toArray] w fun e w' => e = .returned (.bool (ccheck id ver lab f)) ∧ Below w.heap.size w w' := by
  have HV := Lib.hid (fun wx : World => values_any f wx hf)
  have HFL : Hid ((fcells f).length = 24) := Lib.hid (by rw [fcells_len, hf])
  have B0 := Blk.new w (ccells id ver lab f) 27
  obtain ⟨ca, hca⟩ : ∃ ca, ca = (ccells id ver lab f).toArray := ⟨_, rfl⟩
  rw [← hca] at B0 ⊢
  have HB := Lib.hid ((Below.refl w.heap.size w).alloc (Nat.le_refl _) (.cells ca 27))
  obtain ⟨q0, q1, q2⟩ := B0.card
  have RF := B0.fieldsC
  have hu8 := Try.underlying25
  obtain ⟨R, hR⟩ : ∃ R, R = ccheck id ver lab f := ⟨_, rfl⟩
  rw [← hR]
  have HR := Lib.hid hR
  clear hR hca hf B0
  by_cases a0 : 1 ≤ id
  · have d0 : decide (1 ≤ id) = true := by simpa using a0
    by_cases a1 : id < 1073741824
    · have d1 : decide (id < 1073741824) = true := by simpa using a1
      by_cases a2 : 1 ≤ ver
      · have d2 : decide (1 ≤ ver) = true := by simpa using a2
        by_cases a3 : ver ≤ 1099511627776
        · have d3 : decide (ver ≤ 1099511627776) = true := by simpa using a3
          by_cases a4 : lab ≤ 65535
          · have d4 : decide (lab ≤ 65535) = true := by simpa using a4
            have HRR : Hid (R = vk f 8) := Lib.hid (by rw [HR.out]; unfold ccheck; rw [decide_eq_true (by omega), Bool.true_and])
            go_enter Try.func33, Try.ntmps33
            go_wp2_with (first
              | (refine wpList_load_g (by rfl) 25 (.tmp 27) rfl w.heap.size 3 rfl (fcells f) _ RF hu8 rfl (by rw [HFL.out]; exact info_fields) ?_))
            refine (HV.out _).mono ?_
            rintro e w1 ⟨rfl, hb⟩
            have hbw := HB.out.trans (hb.mono HB.out.size)
            clear RF HB
            go_wp2_with fail
            go_ret
            exact ⟨by rw [HRR.out]; rfl, hbw⟩
          · have d4 : decide (lab ≤ 65535) = false := by simpa using a4
            have HRR : Hid (R = false) := Lib.hid (by rw [HR.out]; unfold ccheck; rw [decide_eq_false (by omega), Bool.false_and])
            go_enter Try.func33, Try.ntmps33
            go_wp2_with fail
            go_ret
            exact ⟨by rw [HRR.out]; rfl, HB.out⟩
        · have d3 : decide (ver ≤ 1099511627776) = false := by simpa using a3
          have HRR : Hid (R = false) := Lib.hid (by rw [HR.out]; unfold ccheck; rw [decide_eq_false (by omega), Bool.false_and])
          go_enter Try.func33, Try.ntmps33
          go_wp2_with fail
          go_ret
          exact ⟨by rw [HRR.out]; rfl, HB.out⟩
      · have d2 : decide (1 ≤ ver) = false := by simpa using a2
        have HRR : Hid (R = false) := Lib.hid (by rw [HR.out]; unfold ccheck; rw [decide_eq_false (by omega), Bool.false_and])
        go_enter Try.func33, Try.ntmps33
        go_wp2_with fail
        go_ret
        exact ⟨by rw [HRR.out]; rfl, HB.out⟩
    · have d1 : decide (id < 1073741824) = false := by simpa using a1
      have HRR : Hid (R = false) := Lib.hid (by rw [HR.out]; unfold ccheck; rw [decide_eq_false (by omega), Bool.false_and])
      go_enter Try.func33, Try.ntmps33
      go_wp2_with fail
      go_ret
      exact ⟨by rw [HRR.out]; rfl, HB.out⟩
  · have d0 : decide (1 ≤ id) = false := by simpa using a0
    have HRR : Hid (R = false) := Lib.hid (by rw [HR.out]; unfold ccheck; rw [decide_eq_false (by omega), Bool.false_and])
    go_enter Try.func33, Try.ntmps33
    go_wp2_with fail
    go_ret
    exact ⟨by rw [HRR.out]; rfl, HB.out⟩
end Go.Proofs.Yticdpfjajkfheaa
