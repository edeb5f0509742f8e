/- Pieces: lists of pieces held against each other: slices.Equal, the document's Pieces. -/
import Derived.Test.YtgoebblcggdlgaaPieI
namespace Go.Proofs.Ytgoebblcggdlgaa
set_option linter.unusedVariables false
set_option linter.unusedSimpArgs false
open Go Go.RowKit OctM SumM

set_option maxRecDepth 100000 in
set_option maxHeartbeats 3200000 in
theorem equal_any (A B : Option Addr) (n c m d : Nat) (l l' : List Pc) (w : World) (hl : l.length = n) (hm : l'.length = m) (hn : n ≤ 1099511627776) (hm2 : m ≤ 1099511627776) (hA : Sees w w.heap.size A (rws pcel l)) (hB : Sees w w.heap.size B (rws pcel l')) :
    Calls Try.prog 33 #[.slice A n c, .slice B m d] w fun e w' => e = .returned (.bool (decide (l = l'))) ∧ Below w.heap.size w w' := by
  have hu := Try.underlying25
  by_cases hnm : n = m
  · subst hnm
    obtain ⟨R, hR⟩ : ∃ R, R = decide (l = l') := ⟨_, rfl⟩
    have HR : Hid (R = true ↔ l = l') := Lib.hid (by rw [hR, decide_eq_true_eq])
    rw [← hR]
    have HLL := Lib.hid hl
    have HML := Lib.hid hm
    clear hR hl hm hm2
    go_enter Try.func33, Try.ntmps33
    go_wp2_with fail
    go_loopw [13] (fun i wr => ∃ k : Nat, k ≤ n ∧ i = .int .i64 k ∧ Hid (∀ i (h1 : i < l.length) (h2 : i < l'.length), i < k → l[i] = l'[i]) ∧ Below w.heap.size w wr) (fun i _ => n - (intOf i).toNat)
    case atStart => exact ⟨0, by omega, rfl, Lib.hid (fun i _ _ h => absurd h (by omega)), Below.refl _ _⟩
    case round =>
      obtain ⟨k, hk, rfl, HK, hbr⟩ := hrel
      by_cases hlt : k < n
      · have dk : (k : Int) < (n : Int) := by omega
        have hkl : k < l.length := by rw [HLL.out]; exact hlt
        have hkm : k < l'.length := by rw [HML.out]; exact hlt
        obtain ⟨b1, o1, rfl, hb1, hr1⟩ := sees_rw (sz := 5) (pc_len _) (hA.below hbr) (by decide) k hkl
        obtain ⟨b2, o2, rfl, hb2, hr2⟩ := sees_rw (sz := 5) (pc_len _) (hB.below hbr) (by decide) k hkm
        have hL1 := (pc_len _) _ (List.getElem_mem hkl)
        have hL2 := (pc_len _) _ (List.getElem_mem hkm)
        obtain ⟨u, hu2⟩ : ∃ u, u = l[k] := ⟨_, rfl⟩
        obtain ⟨v, hv2⟩ : ∃ v, v = l'[k] := ⟨_, rfl⟩
        rw [← hu2] at hr1 hL1
        rw [← hv2] at hr2 hL2
        have HUL := Lib.hid hL1
        have HVL := Lib.hid hL2
        have hbz := hbr.size
        have HA : Hid (∀ w1, Le wr w1 → w1.rangeAt b1 (o1 + k * 5) (pcel u)) := Lib.hid (fun w1 h1 j v hj => (h1.cell (p := ⟨b1, o1 + k * 5 + j, none⟩) (by show b1 < wr.heap.size; omega)).trans (hr1 j v hj))
        have HB : Hid (∀ w1, Le wr w1 → w1.rangeAt b2 (o2 + k * 5) (pcel v)) := Lib.hid (fun w1 h1 j v hj => (h1.cell (p := ⟨b2, o2 + k * 5 + j, none⟩) (by show b2 < wr.heap.size; omega)).trans (hr2 j v hj))
        have HQ := Lib.hid (fun w1 : World => eq_pie 9998 u v w1)
        have HU2 := Lib.hid hu2
        have HV2 := Lib.hid hv2
        clear hr1 hr2 hL1 hL2 hu2 hv2 hb1 hb2
        cases huv : decide (u = v) with
        | true =>
          rw [huv] at HQ
          have HE := Lib.hid (of_decide_eq_true huv)
          clear huv
          go_wp2_with fail
          refine wp_region_steady [] 26 (by kernel_rfl) (by kernel_rfl) (by kernel_rfl) (by rfl) ?_
          iterate 3 (refine wpG_quiet (by rfl) (by rfl) (by rfl) (fun K hK => ?_); go_big_quiet_op; refine hK _ ?_; clear hK K)
          refine wpG_run (by rfl) (by rfl) (.agg (pcel u).toArray) (fun wx hl => exec_load 25 (.tmp 18) rfl b1 (o1 + k * 5) rfl (pcel u) _ (HA.out wx hl.1) hu rfl (by rw [HUL.out]; exact info_pie)) ?_
          simp only [Act.put, List.setIfInBounds_toArray, List.set_cons_zero, List.set_cons_succ]
          iterate 3 (refine wpG_quiet (by rfl) (by rfl) (by rfl) (fun K hK => ?_); go_big_quiet_op; refine hK _ ?_; clear hK K)
          refine wpG_run (by rfl) (by rfl) (.agg (pcel v).toArray) (fun wx hl => exec_load 25 (.tmp 22) rfl b2 (o2 + k * 5) rfl (pcel v) _ (HB.out wx hl.1) hu rfl (by rw [HVL.out]; exact info_pie)) ?_
          simp only [Act.put, List.setIfInBounds_toArray, List.set_cons_zero, List.set_cons_succ]
          refine wpG_run (by rfl) (by rfl) (.bool (!true)) (fun wx hl => exec_neq 25 _ (.tmp 19) (.tmp 23) rfl _ _ rfl rfl guard_pie true (HQ.out wx)) ?_
          simp only [Act.put, List.setIfInBounds_toArray, List.set_cons_zero, List.set_cons_succ]
          refine wpG_nil fun w1 hl _ => ?_
          have hb1 := hbr.trans (hl.mono hbr.size)
          clear hA hB hbr
          go_wp2_with fail
          go_roundw
          case rel => exact ⟨k + 1, by omega, by go_num, Lib.hid (fun i h1 h2 hi => by
            by_cases e : i = k
            · subst e; rw [← HU2.out, ← HV2.out]; exact HE.out
            · exact HK.out i h1 h2 (by omega)), hb1⟩
          case measure => simp [intOf]; omega
        | false =>
          rw [huv] at HQ
          have HRR : Hid (R = false) := Lib.hid (by
            rw [Bool.eq_false_iff]
            intro e
            replace e := HR.out.1 e
            refine of_decide_eq_false huv ?_
            rw [HU2.out, HV2.out]
            subst e
            rfl)
          clear huv
          go_wp2_with fail
          refine wp_region_steady [] 26 (by kernel_rfl) (by kernel_rfl) (by kernel_rfl) (by rfl) ?_
          iterate 3 (refine wpG_quiet (by rfl) (by rfl) (by rfl) (fun K hK => ?_); go_big_quiet_op; refine hK _ ?_; clear hK K)
          refine wpG_run (by rfl) (by rfl) (.agg (pcel u).toArray) (fun wx hl => exec_load 25 (.tmp 18) rfl b1 (o1 + k * 5) rfl (pcel u) _ (HA.out wx hl.1) hu rfl (by rw [HUL.out]; exact info_pie)) ?_
          simp only [Act.put, List.setIfInBounds_toArray, List.set_cons_zero, List.set_cons_succ]
          iterate 3 (refine wpG_quiet (by rfl) (by rfl) (by rfl) (fun K hK => ?_); go_big_quiet_op; refine hK _ ?_; clear hK K)
          refine wpG_run (by rfl) (by rfl) (.agg (pcel v).toArray) (fun wx hl => exec_load 25 (.tmp 22) rfl b2 (o2 + k * 5) rfl (pcel v) _ (HB.out wx hl.1) hu rfl (by rw [HVL.out]; exact info_pie)) ?_
          simp only [Act.put, List.setIfInBounds_toArray, List.set_cons_zero, List.set_cons_succ]
          refine wpG_run (by rfl) (by rfl) (.bool (!false)) (fun wx hl => exec_neq 25 _ (.tmp 19) (.tmp 23) rfl _ _ rfl rfl guard_pie false (HQ.out wx)) ?_
          simp only [Act.put, List.setIfInBounds_toArray, List.set_cons_zero, List.set_cons_succ]
          refine wpG_nil fun w1 hl _ => ?_
          have hb1 := hbr.trans (hl.mono hbr.size)
          clear hA hB hbr
          go_wp2_with fail
          go_ret
          exact ⟨by rw [HRR.out]; rfl, hb1⟩
      · obtain rfl : k = n := by omega
        have HRR : Hid (R = true) := Lib.hid (by
          exact HR.out.2 (List.ext_getElem (by rw [HLL.out, HML.out]) (fun i h1 h2 => HK.out i h1 h2 (by rw [HLL.out] at h1; exact h1))))
        go_wp2_with fail
        go_ret
        exact ⟨by rw [HRR.out]; rfl, hbr⟩
  · have HRR : Hid (decide (l = l') = false) := Lib.hid (decide_eq_false (fun e => hnm (by rw [← hl, ← hm, e])))
    rw [HRR.out]
    have b1 : ((n : Int) != (m : Int)) = true := by rw [bne_iff_ne]; omega
    clear hA hB hl hm
    go_enter Try.func33, Try.ntmps33
    go_wp2_with fail
    go_ret
    exact ⟨rfl, Below.refl _ _⟩

set_option maxRecDepth 100000 in
set_option maxHeartbeats 3200000 in
theorem pieces_any (A B : Option Addr) (n c m d : Nat) (l l' : List Pc) (w : World) (hl : l.length = n) (hm : l'.length = m) (hn : n ≤ 1099511627776) (hm2 : m ≤ 1099511627776) (hA : Sees w w.heap.size A (rws pcel l)) (hB : Sees w w.heap.size B (rws pcel l')) :
    Calls Try.prog 20 #[.slice A n c, .slice B m d] w fun e w' => e = .returned (.bool (decide (l = l'))) ∧ Below w.heap.size w w' := by
  have hu := Try.underlying23
  by_cases hnm : n = m
  · subst hnm
    obtain ⟨R, hR⟩ : ∃ R, R = decide (l = l') := ⟨_, rfl⟩
    have HR : Hid (R = true ↔ l = l') := Lib.hid (by rw [hR, decide_eq_true_eq])
    rw [← hR]
    have HLL := Lib.hid hl
    have HML := Lib.hid hm
    clear hR hl hm hm2
    go_enter Try.func20, Try.ntmps20
    go_wp2_with fail
    go_loopw [5] (fun i wr => ∃ k : Nat, k ≤ n ∧ i = .int .i64 k ∧ Hid (∀ i (h1 : i < l.length) (h2 : i < l'.length), i < k → l[i] = l'[i]) ∧ Below w.heap.size w wr) (fun i _ => n - (intOf i).toNat)
    case atStart => exact ⟨0, by omega, rfl, Lib.hid (fun i _ _ h => absurd h (by omega)), Below.refl _ _⟩
    case round =>
      obtain ⟨k, hk, rfl, HK, hbr⟩ := hrel
      by_cases hlt : k < n
      · have dk : (k : Int) < (n : Int) := by omega
        have hkl : k < l.length := by rw [HLL.out]; exact hlt
        have hkm : k < l'.length := by rw [HML.out]; exact hlt
        obtain ⟨b1, o1, rfl, hb1, hr1⟩ := sees_rw (sz := 5) (pc_len _) (hA.below hbr) (by decide) k hkl
        obtain ⟨b2, o2, rfl, hb2, hr2⟩ := sees_rw (sz := 5) (pc_len _) (hB.below hbr) (by decide) k hkm
        have hL1 := (pc_len _) _ (List.getElem_mem hkl)
        have hL2 := (pc_len _) _ (List.getElem_mem hkm)
        obtain ⟨u, hu2⟩ : ∃ u, u = l[k] := ⟨_, rfl⟩
        obtain ⟨v, hv2⟩ : ∃ v, v = l'[k] := ⟨_, rfl⟩
        rw [← hu2] at hr1 hL1
        rw [← hv2] at hr2 hL2
        have HUL := Lib.hid hL1
        have HVL := Lib.hid hL2
        have hbz := hbr.size
        have HA : Hid (∀ w1, Le wr w1 → w1.rangeAt b1 (o1 + k * 5) (pcel u)) := Lib.hid (fun w1 h1 j v hj => (h1.cell (p := ⟨b1, o1 + k * 5 + j, none⟩) (by show b1 < wr.heap.size; omega)).trans (hr1 j v hj))
        have HB : Hid (∀ w1, Le wr w1 → w1.rangeAt b2 (o2 + k * 5) (pcel v)) := Lib.hid (fun w1 h1 j v hj => (h1.cell (p := ⟨b2, o2 + k * 5 + j, none⟩) (by show b2 < wr.heap.size; omega)).trans (hr2 j v hj))
        have HQ := Lib.hid (fun w1 : World => eq_rpie 9998 u v w1)
        have HU2 := Lib.hid hu2
        have HV2 := Lib.hid hv2
        clear hr1 hr2 hL1 hL2 hu2 hv2 hb1 hb2
        cases huv : decide (u = v) with
        | true =>
          rw [huv] at HQ
          have HE := Lib.hid (of_decide_eq_true huv)
          clear huv
          go_wp2_with fail
          refine wp_region_steady [] 26 (by kernel_rfl) (by kernel_rfl) (by kernel_rfl) (by rfl) ?_
          iterate 3 (refine wpG_quiet (by rfl) (by rfl) (by rfl) (fun K hK => ?_); go_big_quiet_op; refine hK _ ?_; clear hK K)
          refine wpG_run (by rfl) (by rfl) (.agg (pcel u).toArray) (fun wx hl => exec_load 23 (.tmp 19) rfl b1 (o1 + k * 5) rfl (pcel u) _ (HA.out wx hl.1) hu rfl (by rw [HUL.out]; exact info_rpie)) ?_
          simp only [Act.put, List.setIfInBounds_toArray, List.set_cons_zero, List.set_cons_succ]
          iterate 3 (refine wpG_quiet (by rfl) (by rfl) (by rfl) (fun K hK => ?_); go_big_quiet_op; refine hK _ ?_; clear hK K)
          refine wpG_run (by rfl) (by rfl) (.agg (pcel v).toArray) (fun wx hl => exec_load 23 (.tmp 23) rfl b2 (o2 + k * 5) rfl (pcel v) _ (HB.out wx hl.1) hu rfl (by rw [HVL.out]; exact info_rpie)) ?_
          simp only [Act.put, List.setIfInBounds_toArray, List.set_cons_zero, List.set_cons_succ]
          refine wpG_run (by rfl) (by rfl) (.bool (!true)) (fun wx hl => exec_neq 23 _ (.tmp 20) (.tmp 24) rfl _ _ rfl rfl guard_rpie true (HQ.out wx)) ?_
          simp only [Act.put, List.setIfInBounds_toArray, List.set_cons_zero, List.set_cons_succ]
          refine wpG_nil fun w1 hl _ => ?_
          have hb1 := hbr.trans (hl.mono hbr.size)
          clear hA hB hbr
          go_wp2_with fail
          go_roundw
          case rel => exact ⟨k + 1, by omega, by go_num, Lib.hid (fun i h1 h2 hi => by
            by_cases e : i = k
            · subst e; rw [← HU2.out, ← HV2.out]; exact HE.out
            · exact HK.out i h1 h2 (by omega)), hb1⟩
          case measure => simp [intOf]; omega
        | false =>
          rw [huv] at HQ
          have HRR : Hid (R = false) := Lib.hid (by
            rw [Bool.eq_false_iff]
            intro e
            replace e := HR.out.1 e
            refine of_decide_eq_false huv ?_
            rw [HU2.out, HV2.out]
            subst e
            rfl)
          clear huv
          go_wp2_with fail
          refine wp_region_steady [] 26 (by kernel_rfl) (by kernel_rfl) (by kernel_rfl) (by rfl) ?_
          iterate 3 (refine wpG_quiet (by rfl) (by rfl) (by rfl) (fun K hK => ?_); go_big_quiet_op; refine hK _ ?_; clear hK K)
          refine wpG_run (by rfl) (by rfl) (.agg (pcel u).toArray) (fun wx hl => exec_load 23 (.tmp 19) rfl b1 (o1 + k * 5) rfl (pcel u) _ (HA.out wx hl.1) hu rfl (by rw [HUL.out]; exact info_rpie)) ?_
          simp only [Act.put, List.setIfInBounds_toArray, List.set_cons_zero, List.set_cons_succ]
          iterate 3 (refine wpG_quiet (by rfl) (by rfl) (by rfl) (fun K hK => ?_); go_big_quiet_op; refine hK _ ?_; clear hK K)
          refine wpG_run (by rfl) (by rfl) (.agg (pcel v).toArray) (fun wx hl => exec_load 23 (.tmp 23) rfl b2 (o2 + k * 5) rfl (pcel v) _ (HB.out wx hl.1) hu rfl (by rw [HVL.out]; exact info_rpie)) ?_
          simp only [Act.put, List.setIfInBounds_toArray, List.set_cons_zero, List.set_cons_succ]
          refine wpG_run (by rfl) (by rfl) (.bool (!false)) (fun wx hl => exec_neq 23 _ (.tmp 20) (.tmp 24) rfl _ _ rfl rfl guard_rpie false (HQ.out wx)) ?_
          simp only [Act.put, List.setIfInBounds_toArray, List.set_cons_zero, List.set_cons_succ]
          refine wpG_nil fun w1 hl _ => ?_
          have hb1 := hbr.trans (hl.mono hbr.size)
          clear hA hB hbr
          go_wp2_with fail
          go_ret
          exact ⟨by rw [HRR.out]; rfl, hb1⟩
      · obtain rfl : k = n := by omega
        have HRR : Hid (R = true) := Lib.hid (by
          exact HR.out.2 (List.ext_getElem (by rw [HLL.out, HML.out]) (fun i h1 h2 => HK.out i h1 h2 (by rw [HLL.out] at h1; exact h1))))
        go_wp2_with fail
        go_ret
        exact ⟨by rw [HRR.out]; rfl, hbr⟩
  · have HRR : Hid (decide (l = l') = false) := Lib.hid (decide_eq_false (fun e => hnm (by rw [← hl, ← hm, e])))
    rw [HRR.out]
    have b1 : ((n : Int) != (m : Int)) = true := by rw [bne_iff_ne]; omega
    clear hA hB hl hm
    go_enter Try.func20, Try.ntmps20
    go_wp2_with fail
    go_ret
    exact ⟨rfl, Below.refl _ _⟩
end Go.Proofs.Ytgoebblcggdlgaa
