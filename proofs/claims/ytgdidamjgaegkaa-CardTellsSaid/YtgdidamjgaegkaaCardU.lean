/- Cards: what is unlike in two cards, by the document: what it returns. -/
import Derived.Test.YtgdidamjgaegkaaCardI
import Derived.Test.YtgdidamjgaegkaaCardK
namespace Go.Proofs.Ytgdidamjgaegkaa
set_option linter.unusedVariables false
open Go Go.RowKit BitM

theorem unl_low (f g : List V3) (z : BitVec 32) (h : z = ofl (unl f g 8)) : z &&& 255#32 = z ∧ z.getLsbD 8 = false := by
  have hh : ∀ n : Int, has z n = true → 0 ≤ n ∧ n < 8 := by
    intro n hn
    rw [h, has_ofl, Bool.and_eq_true, decide_eq_true_eq, decide_eq_true_eq] at hn
    obtain ⟨i, hi, rfl, _⟩ := (mem_unl _ _ _ _).1 hn.2
    omega
  constructor
  · apply BitM.ext
    intro n
    rw [has_and_255]
    cases hz : has z n
    · rfl
    · rw [decide_eq_true (hh n hz).2]; rfl
  · cases hz : z.getLsbD 8
    · rfl
    · have h8 := has_in z (k := 8) (by omega)
      rw [hz] at h8
      have := hh 8 h8
      omega

set_option maxRecDepth 100000 in
set_option maxHeartbeats 3200000 in
theorem rdiff_any (id ver lab id' ver' lab' : Int) (f g : List V3) (w : World) (hf : f.length = 8) (hg : g.length = 8) :
    Calls Try.prog 17 #[.agg (ccells id ver lab f).toArray, .agg (ccells id' ver' lab' g).toArray] w fun e w' =>
      e = .returned (.int .u32 ((dmask lab f lab' g).toNat : Int)) ∧ Below w.heap.size w w' := by
  obtain ⟨R, hR⟩ : ∃ R, R = dmask lab f lab' g := ⟨_, rfl⟩
  rw [← hR]
  have HR := Lib.hid hR
  have HL0 := Lib.hid (ccells_len id ver lab hf)
  have HL1 := Lib.hid (ccells_len id' ver' lab' hg)
  have HF := Lib.hid hf
  have HG := Lib.hid hg
  have B0 := Blk.new w (ccells id ver lab f) 27
  obtain ⟨ca, hca⟩ : ∃ ca, ca = (ccells id ver lab f).toArray := ⟨_, rfl⟩
  rw [← hca] at B0 ⊢
  have B1 := Blk.new (w.alloc (.cells ca 27)) (ccells id' ver' lab' g) 27
  obtain ⟨cb, hcb⟩ : ∃ cb, cb = (ccells id' ver' lab' g).toArray := ⟨_, rfl⟩
  rw [← hcb] at B1 ⊢
  have hw0 := ((Below.refl w.heap.size w).alloc (Nat.le_refl _) (.cells ca 27)).alloc (by simp) (.cells cb 27)
  replace B0 := B0.alloc (.cells cb 27)
  have hs1 : (w.alloc (.cells ca 27)).heap.size = w.heap.size + 1 := by simp
  have hsz : ((w.alloc (.cells ca 27)).alloc (.cells cb 27)).heap.size = w.heap.size + 2 := by simp
  rw [hs1] at B1
  generalize hW : (w.alloc (.cells ca 27)).alloc (.cells cb 27) = W at *
  have HW := Lib.hid hW
  have HB := Lib.hid hw0
  have HSZ := Lib.hid hsz
  clear hR hca hcb hs1 hsz hW hw0 hf hg
  go_enter Try.func17, Try.ntmps17
  go_wp2_with fail
  rw [HW.out]
  clear HL0 HL1 HW
  go_loopw [6, 5] (fun i m wr => ∃ k : Nat, k ≤ 8 ∧ i = .int .i64 k ∧ (∃ z : BitVec 32, m = .int .u32 (z.toNat : Int) ∧ Hid (z = ofl (unl f g k))) ∧ Blk wr w.heap.size (ccells id ver lab f) ∧ Blk wr (w.heap.size + 1) (ccells id' ver' lab' g) ∧ Below w.heap.size w wr) (fun i _ _ => 8 - (intOf i).toNat)
  case atStart => exact ⟨0, by omega, rfl, ⟨0#32, rfl, Lib.hid rfl⟩, B0, B1, HB.out⟩
  case round =>
    obtain ⟨k, hk, rfl, ⟨z, rfl, HZ⟩, D0, D1, hbr⟩ := hrel
    clear B0 B1 HB HSZ
    have HWI := Lib.hid (fun (hk8 : k < 32) (wx : World) => rwith_any z k hk8 wx)
    by_cases hlt : k < 8
    · have d8 : (k : Int) < 8 := by omega
      have hkf : k < f.length := by rw [HF.out]; exact hlt
      have hkg : k < g.length := by rw [HG.out]; exact hlt
      have HS := Lib.hid (unl_succ f g k)
      obtain ⟨u, hu⟩ : ∃ u, u = f[k] := ⟨_, rfl⟩
      obtain ⟨v, hv⟩ : ∃ v, v = g[k] := ⟨_, rfl⟩
      have e1 : f.getD k zv = u := by rw [hu]; simp [List.getD, hkf]
      have e2 : g.getD k zv = v := by rw [hv]; simp [List.getD, hkg]
      rw [e1, e2] at HS
      have HA := Lib.hid (fun (w1 : World) (hl : Le wr w1) => range3 (v := u) (by rw [hu]; exact Blk.field (o := 3) (D0.later hl) k rfl hkf))
      have HBB := Lib.hid (fun (w1 : World) (hl : Le wr w1) => range3 (v := v) (by rw [hv]; exact Blk.field (o := 3) (D1.later hl) k rfl hkg))
      have hv24 := Try.underlying24
      clear hu hv e1 e2 hkf hkg
      cases huv : decide (u = v) with
      | true =>
        have HUV := Lib.hid huv
        have hS : unl f g (k + 1) = unl f g k := by rw [HS.out, if_neg (fun hn => hn (of_decide_eq_true huv)), List.append_nil]
        have HSS := Lib.hid hS
        clear huv hS
        go_wp2_with fail
        refine wp_region_steady [] 31 (by kernel_rfl) (by kernel_rfl) (by kernel_rfl) (by rfl) ?_
        repeat (refine wpG_quiet (by rfl) (by rfl) (by rfl) (fun K hK => ?_); go_big_quiet_op; refine hK _ ?_; clear hK K)
        refine wpG_run (by rfl) (by rfl) (.agg (vcells u).toArray) (fun w1 hl => exec_load 24 (.tmp 13) rfl w.heap.size (3 + k * 3) rfl (vcells u) _ (HA.out w1 hl.1) hv24 rfl info_val) ?_
        simp only [Act.put, List.setIfInBounds_toArray, List.set_cons_zero, List.set_cons_succ]
        repeat (refine wpG_quiet (by rfl) (by rfl) (by rfl) (fun K hK => ?_); go_big_quiet_op; refine hK _ ?_; clear hK K)
        refine wpG_run (by rfl) (by rfl) (.agg (vcells v).toArray) (fun w1 hl => exec_load 24 (.tmp 17) rfl (w.heap.size + 1) (3 + k * 3) rfl (vcells v) _ (HBB.out w1 hl.1) hv24 rfl info_val) ?_
        simp only [Act.put, List.setIfInBounds_toArray, List.set_cons_zero, List.set_cons_succ]
        refine wpG_run (by rfl) (by rfl) (.bool (!true)) (fun w1 hl => exec_neq 24 _ (.tmp 14) (.tmp 18) rfl _ _ rfl rfl guard_val true (by rw [← HUV.out]; exact eq_val 9998 u v w1)) ?_
        simp only [Act.put, List.setIfInBounds_toArray, List.set_cons_zero, List.set_cons_succ]
        refine wpG_nil fun w1 hl _ => ?_
        have hb1 := hbr.trans (hl.mono hbr.size)
        have E0 := D0.later hl
        have E1 := D1.later hl
        go_wp2_with fail
        go_roundw
        case rel => exact ⟨k + 1, by omega, by go_num, ⟨z, rfl, Lib.hid (by rw [HSS.out]; exact HZ.out)⟩, E0, E1, hb1⟩
        case measure => simp [intOf]; omega
      | false =>
        have HUV := Lib.hid huv
        have hS : unl f g (k + 1) = unl f g k ++ [(k : Int)] := by rw [HS.out, if_pos (of_decide_eq_false huv)]
        have HSS := Lib.hid hS
        clear huv hS
        go_wp2_with fail
        refine wp_region_steady [] 31 (by kernel_rfl) (by kernel_rfl) (by kernel_rfl) (by rfl) ?_
        repeat (refine wpG_quiet (by rfl) (by rfl) (by rfl) (fun K hK => ?_); go_big_quiet_op; refine hK _ ?_; clear hK K)
        refine wpG_run (by rfl) (by rfl) (.agg (vcells u).toArray) (fun w1 hl => exec_load 24 (.tmp 13) rfl w.heap.size (3 + k * 3) rfl (vcells u) _ (HA.out w1 hl.1) hv24 rfl info_val) ?_
        simp only [Act.put, List.setIfInBounds_toArray, List.set_cons_zero, List.set_cons_succ]
        repeat (refine wpG_quiet (by rfl) (by rfl) (by rfl) (fun K hK => ?_); go_big_quiet_op; refine hK _ ?_; clear hK K)
        refine wpG_run (by rfl) (by rfl) (.agg (vcells v).toArray) (fun w1 hl => exec_load 24 (.tmp 17) rfl (w.heap.size + 1) (3 + k * 3) rfl (vcells v) _ (HBB.out w1 hl.1) hv24 rfl info_val) ?_
        simp only [Act.put, List.setIfInBounds_toArray, List.set_cons_zero, List.set_cons_succ]
        refine wpG_run (by rfl) (by rfl) (.bool (!false)) (fun w1 hl => exec_neq 24 _ (.tmp 14) (.tmp 18) rfl _ _ rfl rfl guard_val false (by rw [← HUV.out]; exact eq_val 9998 u v w1)) ?_
        simp only [Act.put, List.setIfInBounds_toArray, List.set_cons_zero, List.set_cons_succ]
        refine wpG_nil fun w1 hl _ => ?_
        have hb1 := hbr.trans (hl.mono hbr.size)
        have E0 := D0.later hl
        have E1 := D1.later hl
        clear hbr D0 D1 hl HA HBB hv24
        go_wp2_with fail
        refine (HWI.out (by omega) _).mono ?_
        rintro e w2 ⟨rfl, rfl⟩
        go_wp2_with fail
        go_roundw
        case rel => exact ⟨k + 1, by omega, by go_num, ⟨put z k, rfl, Lib.hid (by rw [HSS.out, ofl_snoc, ← HZ.out])⟩, E0, E1, hb1⟩
        case measure => simp [intOf]; omega
    · obtain rfl : k = 8 := by omega
      obtain ⟨c0, c1, c2⟩ := D0.card
      obtain ⟨e0, e1, e2⟩ := D1.card
      clear D0 D1
      cases hll : decide (lab ≠ lab') with
      | true =>
        have bl : (lab != lab') = true := by simpa using hll
        have hz := unl_low f g z HZ.out
        have hm : R = z ||| BitVec.twoPow 32 8 := by rw [HR.out]; unfold dmask mkm; rw [hll, ← HZ.out, hz.1]; rfl
        obtain ⟨s1, s2⟩ := put_add_nat (x := z) (k := 8) (by omega) hz.2
        have hs : (z.toNat : Int) + 256 = (R.toNat : Int) := by rw [hm]; omega
        have hlt : (R.toNat : Int) < 4294967296 := by rw [hm]; omega
        have HSM := Lib.hid hs
        clear hll hz hm s1 s2 hs hlt
        go_wp2_with fail
        go_ret
        refine ⟨?_, hbr⟩
        simp [HSM.out]
        have := R.isLt
        omega
      | false =>
        have bl : (lab != lab') = false := by simpa using hll
        have hz := unl_low f g z HZ.out
        have HRR : Hid (R = z) := Lib.hid (by rw [HR.out]; unfold dmask mkm; rw [hll, ← HZ.out, hz.1]; simp)
        clear hll hz
        go_wp2_with fail
        go_ret
        exact ⟨by rw [HRR.out]; rfl, hbr⟩
end Go.Proofs.Ytgdidamjgaegkaa
