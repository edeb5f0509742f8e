/- Ledger: which answers may be, by the document. -/
import Derived.Test.YtadmaalhhigbeaaLgD
namespace Go.Proofs.Ytadmaalhhigbeaa
set_option linter.unusedVariables false
set_option linter.unusedSimpArgs false
open Go Go.RowKit ValM

set_option maxRecDepth 100000 in
set_option maxHeartbeats 6400000 in
theorem rlcheck30_any (r : Rp) (w : World) (h : okRp w r) (hz : r.n ≤ 65536) :
    Calls Try.prog 10 #[.agg (rpc r).toArray] w fun e w' => e = .returned (.bool (decide (rok r))) ∧ Below w.heap.size w w' := by
  obtain ⟨R, hR⟩ : ∃ R, R = decide (rok r) := ⟨_, rfl⟩
  rw [← hR]
  unfold rok at hR
  obtain ⟨kd, dv, rq, cd, id, vr, sq, ep, A, n, c, f, ms⟩ := r
  dsimp only [rpc] at *
  have HCHK := Lib.hid (fun W (hW : Below w.heap.size w W) => rlcheck_any A n c f W (h.later hW).len (h.later hW).see (h.later hW).cap)
  obtain ⟨lc, hlc⟩ : ∃ lc, lc = lchk f := ⟨_, rfl⟩
  obtain ⟨fl, hfl⟩ : ∃ fl, fl = f.length := ⟨_, rfl⟩
  have hR2 : R = decide ((2 ≤ kd ∧ kd ≤ 4) ∧ (0 ≤ dv ∧ dv < 6) ∧ (1 ≤ rq ∧ rq ≤ 1099511627776) ∧ (0 ≤ cd ∧ cd ≤ 16) ∧ (¬ cd = 0 → id = 0 ∧ vr = 0 ∧ sq = 0 ∧ ep = 0 ∧ fl = 0 ∧ ms.toNat = 0) ∧ (cd = 0 → (0 ≤ sq ∧ sq ≤ 1099511627776) ∧ (kd = 2 → (1 ≤ id ∧ id < 1073741824) ∧ (1 ≤ vr ∧ vr ≤ 1099511627776) ∧ ep = 0 ∧ fl = 0 ∧ ms.toNat = 0) ∧ (kd = 3 → id = 0 ∧ vr = 0 ∧ (1 ≤ ep ∧ ep ≤ 1099511627776) ∧ lc = 0 ∧ ms.toNat ≤ 511) ∧ (kd = 4 → id = 0 ∧ vr = 0 ∧ ep = 0 ∧ fl = 0 ∧ ms.toNat = 0))) := by
    rw [hR, hlc, hfl]
  have hln : fl = n := hfl.trans h.len
  rw [← hlc] at HCHK
  have HR := Lib.hid hR2
  clear hR hR2 h hlc hfl
  go_enter Try.func10, Try.ntmps10
  go_wp2_with fail
  all_goals (try (
    go_ret
    refine ⟨?_, below_a1 _ _⟩
    show Ending.returned (Value.bool _) = _
    rw [HR.out]
    refine congrArg (fun b => Ending.returned (Value.bool b)) (Bool.eq_iff_iff.2 ?_)
    simp only [decide_eq_true_eq, Bool.and_eq_true, Bool.or_eq_true, Bool.not_eq_true', decide_eq_false_iff_not, Bool.false_eq_true, beq_iff_eq, false_iff, true_iff]
    (try simp only [Bool.not_eq_true', Bool.not_eq_false', decide_eq_true_eq, decide_eq_false_iff_not, bne_iff_ne, ne_eq, bne_eq_false_iff_eq, beq_iff_eq, beq_eq_false_iff_ne] at *)
    omega))
  have ca : ∀ kk : LW (w.alloc (.cells #[.int .i64 kd, .int .i64 dv, .int .i64 rq, .int .i64 cd, .int .i64 id, .int .i64 vr, .int .i64 sq, .int .i64 ep, .slice A n c, .int .u32 (ms.toNat : Int)] 26)), kk.val.cell? ⟨w.heap.size, 0, none⟩ = some (.int .i64 kd) := fun kk => ((Blk.new w _ _).later kk.le).cell (j := 0) rfl
  by_cases hc : cd = 0
  · have bc : (cd == 0) = true := by simp [hc]
    simp only [bc]
    refine wp_region_steady [] 145 (by kernel_rfl) (by kernel_rfl) (by kernel_rfl) (by rfl) ?_
    iterate 14 (refine wpG_quiet (by rfl) (by rfl) (by rfl) (fun K hK => ?_); go_big_quiet_op; refine hK _ ?_; clear hK K)
    refine wpG_nil fun w9 hl _ => ?_
    have HB9 := Lib.hid ((below_a1 w _).trans (Below.mono hl (below_a1 w _).size))
    have kx0 := ((Blk.new w _ _).later hl).cell (j := 0) rfl
    have kx1 := ((Blk.new w _ _).later hl).cell (j := 1) rfl
    have kx2 := ((Blk.new w _ _).later hl).cell (j := 2) rfl
    have kx3 := ((Blk.new w _ _).later hl).cell (j := 3) rfl
    have kx4 := ((Blk.new w _ _).later hl).cell (j := 4) rfl
    have kx5 := ((Blk.new w _ _).later hl).cell (j := 5) rfl
    have kx6 := ((Blk.new w _ _).later hl).cell (j := 6) rfl
    have kx7 := ((Blk.new w _ _).later hl).cell (j := 7) rfl
    have kx8 := ((Blk.new w _ _).later hl).cell (j := 8) rfl
    have kx9 := ((Blk.new w _ _).later hl).cell (j := 9) rfl
    clear ca hl
    go_wp2_with fail
    all_goals (try (
      refine (HCHK.out _ HB9.out).mono ?_
      rintro e w5 ⟨rfl, hb5⟩
      have HB5 := Lib.hid (HB9.out.trans (hb5.mono HB9.out.size))
      have ky9 := (hb5.cell (p := ⟨w.heap.size, 9, none⟩) (by have := HB9.out.size; have := World.block_lt_of_cell? _ _ kx9; omega)).trans kx9
      clear hb5
      go_wp2_with fail))
    all_goals (repeat' (first | (with_reducible refine (rmcheck_any _ _).mono ?_; rintro e wx ⟨rfl, rfl⟩; go_wp2_with fail)))
    all_goals
      go_ret
      refine ⟨?_, by first | exact HB5.out | exact HB9.out⟩
      show Ending.returned (Value.bool _) = _
      rw [HR.out]
      refine congrArg (fun b => Ending.returned (Value.bool b)) (Bool.eq_iff_iff.2 ?_)
      simp only [decide_eq_true_eq, Bool.and_eq_true, Bool.or_eq_true, Bool.not_eq_true', decide_eq_false_iff_not, Bool.false_eq_true, beq_iff_eq, false_iff, true_iff]
      (try simp only [Bool.not_eq_true', Bool.not_eq_false', decide_eq_true_eq, decide_eq_false_iff_not, bne_iff_ne, ne_eq, bne_eq_false_iff_eq, beq_iff_eq, beq_eq_false_iff_ne] at *)
      omega
  · have bc : (cd == 0) = false := by simp [hc]
    simp only [bc]
    refine wp_region_steady [] 145 (by kernel_rfl) (by kernel_rfl) (by kernel_rfl) (by rfl) ?_
    iterate 2 (refine wpG_quiet (by rfl) (by rfl) (by rfl) (fun K hK => ?_); go_big_quiet_op; refine hK _ ?_; clear hK K)
    iterate 3 (refine wpG_skip (by rfl) ?_; simp only [Act.put, List.setIfInBounds_toArray, List.set_cons_zero, List.set_cons_succ])
    iterate 3 (refine wpG_quiet (by rfl) (by rfl) (by rfl) (fun K hK => ?_); go_big_quiet_op; refine hK _ ?_; clear hK K)
    iterate 3 (refine wpG_skip (by rfl) ?_; simp only [Act.put, List.setIfInBounds_toArray, List.set_cons_zero, List.set_cons_succ])
    iterate 3 (refine wpG_quiet (by rfl) (by rfl) (by rfl) (fun K hK => ?_); go_big_quiet_op; refine hK _ ?_; clear hK K)
    refine wpG_nil fun w9 hl _ => ?_
    have HB9 := Lib.hid ((below_a1 w _).trans (Below.mono hl (below_a1 w _).size))
    have kx0 := ((Blk.new w _ _).later hl).cell (j := 0) rfl
    have kx1 := ((Blk.new w _ _).later hl).cell (j := 1) rfl
    have kx2 := ((Blk.new w _ _).later hl).cell (j := 2) rfl
    have kx3 := ((Blk.new w _ _).later hl).cell (j := 3) rfl
    have kx4 := ((Blk.new w _ _).later hl).cell (j := 4) rfl
    have kx5 := ((Blk.new w _ _).later hl).cell (j := 5) rfl
    have kx6 := ((Blk.new w _ _).later hl).cell (j := 6) rfl
    have kx7 := ((Blk.new w _ _).later hl).cell (j := 7) rfl
    have kx8 := ((Blk.new w _ _).later hl).cell (j := 8) rfl
    have kx9 := ((Blk.new w _ _).later hl).cell (j := 9) rfl
    clear ca hl
    go_wp2_with fail
    all_goals (try (
      refine (HCHK.out _ HB9.out).mono ?_
      rintro e w5 ⟨rfl, hb5⟩
      have HB5 := Lib.hid (HB9.out.trans (hb5.mono HB9.out.size))
      have ky9 := (hb5.cell (p := ⟨w.heap.size, 9, none⟩) (by have := HB9.out.size; have := World.block_lt_of_cell? _ _ kx9; omega)).trans kx9
      clear hb5
      go_wp2_with fail))
    all_goals (repeat' (first | (with_reducible refine (rmcheck_any _ _).mono ?_; rintro e wx ⟨rfl, rfl⟩; go_wp2_with fail)))
    all_goals
      go_ret
      refine ⟨?_, by first | exact HB5.out | exact HB9.out⟩
      show Ending.returned (Value.bool _) = _
      rw [HR.out]
      refine congrArg (fun b => Ending.returned (Value.bool b)) (Bool.eq_iff_iff.2 ?_)
      simp only [decide_eq_true_eq, Bool.and_eq_true, Bool.or_eq_true, Bool.not_eq_true', decide_eq_false_iff_not, Bool.false_eq_true, beq_iff_eq, false_iff, true_iff]
      (try simp only [Bool.not_eq_true', Bool.not_eq_false', decide_eq_true_eq, decide_eq_false_iff_not, bne_iff_ne, ne_eq, bne_eq_false_iff_eq, beq_iff_eq, beq_eq_false_iff_ne] at *)
      omega
end Go.Proofs.Ytadmaalhhigbeaa
