/- Cards: which cards may be, by the document: what it returns. -/
import Derived.Test.YticdpfjajkfheaaCardF
namespace Go.Proofs.Yticdpfjajkfheaa
set_option linter.unusedVariables false
open Go Go.RowKit BitM

/-- May the first k values be? -/
def vk (f : List V3) (k : Nat) : Bool := (List.range k).all fun i => vchk (f.getD i zv)
theorem vk_succ (f : List V3) (k : Nat) : vk f (k + 1) = (vk f k && vchk (f.getD k zv)) := by
  unfold vk
  rw [List.range_succ, List.all_append]
  simp
theorem vk_mono (f : List V3) {j k : Nat} (h : j ≤ k) (hf : vk f j = false) : vk f k = false := by
  induction k with
  | zero => obtain rfl : j = 0 := by omega
            exact hf
  | succ k ih =>
    by_cases e : j = k + 1
    · subst e; exact hf
    · rw [vk_succ, ih (by omega)]; rfl
/-- May a card be? -/
def ccheck (id ver lab : Int) (f : List V3) : Bool := decide (1 ≤ id ∧ id < 1073741824 ∧ 1 ≤ ver ∧ ver ≤ 1099511627776 ∧ lab < 65536) && vk f 8

set_option maxRecDepth 100000 in
set_option maxHeartbeats 3200000 in
theorem rccheck_any (id ver lab : Int) (f : List V3) (w : World) (hf : f.length = 8) :
    Calls Try.prog 24 #[.agg (ccells id ver lab f).toArray] w fun e w' => e = .returned (.bool (ccheck id ver lab f)) ∧ Below w.heap.size w w' := by
  have HF := Lib.hid hf
  have B0 := Blk.new w (ccells id ver lab f) 27
  obtain ⟨ca, hca⟩ : ∃ ca, ca = (ccells id ver lab f).toArray := ⟨_, rfl⟩
  rw [← hca] at B0 ⊢
  have HB := Lib.hid ((Below.refl w.heap.size w).alloc (Nat.le_refl _) (.cells ca 27))
  obtain ⟨q0, q1, q2⟩ := B0.card
  obtain ⟨R, hR⟩ : ∃ R, R = ccheck id ver lab f := ⟨_, rfl⟩
  rw [← hR]
  have HR := Lib.hid hR
  clear hR hca hf
  by_cases a1 : id < 1
  · have d1 : decide (id < 1) = true := by simpa using a1
    have HRR : Hid (R = false) := Lib.hid (by rw [HR.out]; unfold ccheck; rw [decide_eq_false (by omega), Bool.false_and])
    go_enter Try.func24, Try.ntmps24
    go_wp2_with fail
    go_ret
    exact ⟨by rw [HRR.out]; rfl, HB.out⟩
  · have d1 : decide (id < 1) = false := by simpa using a1
    by_cases a2 : 1073741824 ≤ id
    · have d2 : decide (1073741824 ≤ id) = true := by simpa using a2
      have HRR : Hid (R = false) := Lib.hid (by rw [HR.out]; unfold ccheck; rw [decide_eq_false (by omega), Bool.false_and])
      go_enter Try.func24, Try.ntmps24
      go_wp2_with fail
      go_ret
      exact ⟨by rw [HRR.out]; rfl, HB.out⟩
    · have d2 : decide (1073741824 ≤ id) = false := by simpa using a2
      by_cases a3 : ver < 1
      · have d3 : decide (ver < 1) = true := by simpa using a3
        have HRR : Hid (R = false) := Lib.hid (by rw [HR.out]; unfold ccheck; rw [decide_eq_false (by omega), Bool.false_and])
        go_enter Try.func24, Try.ntmps24
        go_wp2_with fail
        go_ret
        exact ⟨by rw [HRR.out]; rfl, HB.out⟩
      · have d3 : decide (ver < 1) = false := by simpa using a3
        by_cases a4 : 1099511627776 < ver
        · have d4 : decide (1099511627776 < ver) = true := by simpa using a4
          have HRR : Hid (R = false) := Lib.hid (by rw [HR.out]; unfold ccheck; rw [decide_eq_false (by omega), Bool.false_and])
          go_enter Try.func24, Try.ntmps24
          go_wp2_with fail
          go_ret
          exact ⟨by rw [HRR.out]; rfl, HB.out⟩
        · have d4 : decide (1099511627776 < ver) = false := by simpa using a4
          by_cases a5 : 65536 ≤ lab
          · have d5 : decide (65536 ≤ lab) = true := by simpa using a5
            have HRR : Hid (R = false) := Lib.hid (by rw [HR.out]; unfold ccheck; rw [decide_eq_false (by omega), Bool.false_and])
            go_enter Try.func24, Try.ntmps24
            go_wp2_with fail
            go_ret
            exact ⟨by rw [HRR.out]; rfl, HB.out⟩
          · have d5 : decide (65536 ≤ lab) = false := by simpa using a5
            have HRR : Hid (R = vk f 8) := Lib.hid (by rw [HR.out]; unfold ccheck; rw [decide_eq_true (by omega), Bool.true_and])
            go_enter Try.func24, Try.ntmps24
            go_wp2_with fail
            clear d1 d2 d3 d4 d5 a1 a2 a3 a4 a5 q0 q1 q2
            go_loopw [3] (fun i wr => ∃ k : Nat, k ≤ 8 ∧ i = .int .i64 k ∧ Blk wr w.heap.size (ccells id ver lab f) ∧ Hid (vk f k = true) ∧ Below w.heap.size w wr) (fun i _ => 8 - (intOf i).toNat)
            case atStart => exact ⟨0, by omega, rfl, B0, Lib.hid rfl, HB.out⟩
            case round =>
              obtain ⟨k, hk, rfl, D0, HK, hbr⟩ := hrel
              clear B0 HB
              by_cases hlt : k < 8
              · have hkf : k < f.length := by rw [HF.out]; exact hlt
                obtain ⟨l0, l1, l2⟩ := Blk.field (o := 3) D0 k rfl hkf
                have d8 : (k : Int) < 8 := by omega
                have HS := Lib.hid (vk_succ f k)
                obtain ⟨⟨v0, v1, v2⟩, hv⟩ : ∃ v, v = f[k] := ⟨_, rfl⟩
                have hg : f.getD k zv = (v0, v1, v2) := by rw [hv]; simp [List.getD, hkf]
                have HG := Lib.hid hg
                rw [← hv] at l0 l1 l2
                simp only at l0 l1 l2
                have HC := Lib.hid (fun wx : World => rvcheck_any v0 v1 v2 wx)
                clear hv hg
                cases hc : vchk (v0, v1, v2) with
                | false =>
                  rw [hc] at HC
                  have HCC := Lib.hid hc
                  clear hc
                  go_wp2_with fail
                  refine (HC.out _).mono ?_
                  rintro e w1 ⟨rfl, hb⟩
                  have hbw := hbr.trans (hb.mono hbr.size)
                  go_wp2_with fail
                  go_ret
                  refine ⟨?_, hbw⟩
                  have hfin : R = false := by rw [HRR.out]; exact vk_mono f (j := k + 1) (by omega) (by rw [HS.out, HG.out, HCC.out]; simp)
                  rw [hfin]
                  rfl
                | true =>
                  rw [hc] at HC
                  have HCC := Lib.hid hc
                  clear hc
                  go_wp2_with fail
                  refine (HC.out _).mono ?_
                  rintro e w1 ⟨rfl, hb⟩
                  have hbw := hbr.trans (hb.mono hbr.size)
                  have D1 := D0.later hb
                  clear D0 l0 l1 l2
                  go_wp2_with fail
                  go_roundw
                  case rel => exact ⟨k + 1, by omega, by go_num, D1, Lib.hid (by rw [HS.out, HK.out, HG.out, HCC.out]; rfl), hbw⟩
                  case measure => simp [intOf]; omega
              · obtain rfl : k = 8 := by omega
                go_wp2_with fail
                go_ret
                exact ⟨by rw [HRR.out, HK.out]; rfl, hbr⟩
end Go.Proofs.Yticdpfjajkfheaa
