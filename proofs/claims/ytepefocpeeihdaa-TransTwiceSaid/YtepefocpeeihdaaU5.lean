/- Turns, items: are they more, or longer, than are looked at. -/
import Derived.Test.YtepefocpeeihdaaU4
import Derived.Test.YtepefocpeeihdaaU1
import Derived.Test.YtepefocpeeihdaaU3
namespace Go.Proofs.Ytepefocpeeihdaa
set_option linter.unusedVariables false
set_option linter.unusedSimpArgs false
open Go Go.RowKit BitM

def tlarge (l : List Tn) : Bool := decide (100 < l.length) || l.any (fun t => tooLong t.cd.2.2.2)
theorem tlarge_no {l : List Tn} (h1 : l.length ≤ 100) (h2 : ∀ j (hj : j < l.length), tooLong l[j].cd.2.2.2 = false) : tlarge l = false := by
  unfold tlarge
  rw [decide_eq_false (by omega), Bool.false_or, List.any_eq_false]
  intro t ht
  obtain ⟨j, hj, rfl⟩ := List.getElem_of_mem ht
  rw [h2 j hj]
  exact Bool.false_ne_true
theorem tlarge_one {l : List Tn} (j : Nat) (hj : j < l.length) (h : tooLong l[j].cd.2.2.2 = true) : tlarge l = true := by
  unfold tlarge
  rw [Bool.or_eq_true]
  exact .inr (List.any_eq_true.2 ⟨l[j], List.getElem_mem hj, h⟩)
theorem tlarge_len {l : List Tn} (h : tlarge l = false) : l.length ≤ 100 := by
  unfold tlarge at h
  rw [Bool.or_eq_false_iff] at h
  have := of_decide_eq_false h.1
  omega
theorem info_flds : (Try.prog.info? 28).map (·.size) = some 24 := by kernel_rfl
theorem ccl_fields (c : Cd) : ∀ j v, (fcells c.2.2.2)[j]? = some v → (ccl c)[3 + j]? = some v := fun j v h => by
  obtain ⟨a, b, d, f⟩ := c
  show ([Value.int .i64 a, .int .i64 b, .int .u32 d] ++ fcells f)[3 + j]? = some v
  rw [List.getElem?_append_right (by simp)]
  simpa using h
set_option maxRecDepth 100000 in
set_option maxHeartbeats 1600000 in
theorem tlarge_any (A : Option Addr) (n c : Nat) (l : List Tn) (w : World) (h : SeesR tcl w A n c l) (hok : ∀ t ∈ l, okCd t.cd) :
    Calls Try.prog 7 #[.slice A n c] w fun e w' => e = .returned (.bool (tlarge l)) ∧ Below w.heap.size w w' := by
  have hu := Try.underlying28
  have HN := Lib.hid h.len
  have HB0 := Lib.hid (Below.refl w.heap.size w)
  by_cases hbig : 100 < n
  · have d1 : decide (100 < (n : Int)) = true := decide_eq_true (by omega)
    have HR : Hid (tlarge l = true) := Lib.hid (by unfold tlarge; rw [HN.out, decide_eq_true hbig]; rfl)
    clear h hok hbig
    go_enter Try.func7, Try.ntmps7
    go_wp2_with fail
    go_ret
    exact ⟨by rw [HR.out]; rfl, HB0.out⟩
  · have d1 : decide (100 < (n : Int)) = false := decide_eq_false (by omega)
    have hn100 : n ≤ 100 := by omega
    have HRNO := Lib.hid (tlarge_no (l := l) (by rw [HN.out]; omega))
    have HRYES := Lib.hid (fun j hj => tlarge_one (l := l) j hj)
    have HLA := Lib.hid (fun k (hk : k < l.length) wx => large_any l[k].cd.2.2.2 wx (hok _ (List.getElem_mem hk)))
    have HFL := Lib.hid (fun k (hk : k < l.length) => show (fcells l[k].cd.2.2.2).length = 24 by rw [fcells_len, hok _ (List.getElem_mem hk)])
    have HCE : Hid (∀ k (hk : k < l.length), ∃ b o, A = some ⟨b, o, none⟩ ∧ ∀ W, Below w.heap.size w W → W.rangeAt b (o + k * 31 + 4 + 3) (fcells l[k].cd.2.2.2)) := Lib.hid (fun k hk => by
      obtain ⟨b, o, e, _, hc⟩ := turn_cells h hok (by omega)
      refine ⟨b, o, e, fun W hW j v hj => ?_⟩
      have := (hc W hW k hk).2.2.2.2.2 (3 + j) v (ccl_fields _ j v hj)
      rw [show o + k * 31 + 4 + 3 + j = o + k * 31 + 4 + (3 + j) by omega]
      exact this)
    clear h hok hbig
    generalize tlarge l = R at HRNO HRYES ⊢
    go_enter Try.func7, Try.ntmps7
    go_wp2_with fail
    go_loopw [3] (fun i wr => ∃ k : Nat, k ≤ n ∧ i = .int .i64 (k : Int) ∧ Hid (∀ j (hj : j < k) (hj2 : j < l.length), tooLong l[j].cd.2.2.2 = false) ∧ Hid (Below w.heap.size w wr)) (fun i _ => n - (iOf i).toNat)
    case atStart => exact ⟨0, by omega, rfl, Lib.hid (fun j hj => by omega), HB0⟩
    case round =>
      obtain ⟨k, hk, rfl, HF, HB⟩ := hrel
      by_cases hlt : k < n
      · have d0 : decide ((k : Int) < (n : Int)) = true := decide_eq_true (by omega)
        have hkl : k < l.length := by rw [HN.out]; exact hlt
        obtain ⟨b, o, rfl, hcc⟩ := HCE.out k hkl
        have hrg := hcc wr HB.out
        have HL := Lib.hid (HLA.out k hkl wr)
        have HFK := Lib.hid (HFL.out k hkl)
        have HYK := Lib.hid (HRYES.out k hkl)
        have HNX : Hid (tooLong l[k].cd.2.2.2 = false → ∀ j (hj : j < k + 1) (hj2 : j < l.length), tooLong l[j].cd.2.2.2 = false) := Lib.hid (fun e j hj hj2 => by
          by_cases e2 : j = k
          · subst e2; exact e
          · exact HF.out j (by omega) hj2)
        obtain ⟨FC, hFC⟩ : ∃ FC, FC = fcells l[k].cd.2.2.2 := ⟨_, rfl⟩
        rw [← hFC] at hrg HL HFK
        generalize tooLong l[k].cd.2.2.2 = q at HL HYK HNX
        clear hFC hcc HF HRNO HRYES HLA HFL HCE
        go_wp2_with (first
          | (refine wpList_load_mid rfl 28 (.tmp 17) rfl b (o + k * 31 + 4 + 3) rfl FC _ hrg hu rfl (by rw [HFK.out]; exact info_flds) ?_
             simp only [Act.put, List.setIfInBounds_toArray, List.set_cons_zero, List.set_cons_succ])
          | fail)
        refine HL.out.mono ?_
        rintro e w1 ⟨rfl, hb1⟩
        have HB1 := Lib.hid (HB.out.trans (hb1.mono HB.out.size))
        clear hb1 HL hrg
        cases q with
        | true =>
          have HR := Lib.hid (HYK.out rfl)
          clear HYK HNX
          go_wp2_with fail
          go_ret
          exact ⟨by rw [HR.out]; rfl, HB1.out⟩
        | false =>
          have HG := Lib.hid (HNX.out rfl)
          clear HYK HNX
          go_wp2_with fail
          go_roundw
          case rel => exact ⟨k + 1, by omega, by go_num, HG, HB1⟩
          case measure => simp [iOf]; omega
      · obtain rfl : k = n := by omega
        have HR := Lib.hid (HRNO.out (fun j hj => HF.out j (by rw [← HN.out]; exact hj) hj))
        clear HRNO HRYES HLA HFL HCE HF
        go_wp2_with fail
        go_ret
        exact ⟨by rw [HR.out]; rfl, HB.out⟩
end Go.Proofs.Ytepefocpeeihdaa

/- Items held against each other: the program's Same, the document's Same. -/
namespace Go.Proofs.Ytepefocpeeihdaa
set_option linter.unusedVariables false
set_option linter.unusedSimpArgs false
open Go Go.RowKit BitM

instance : DecidableEq Im := fun x y => decidable_of_iff (x.kd = y.kd ∧ x.cd = y.cd) (by cases x; cases y; simp)
instance : DecidableEq Tn := fun x y => decidable_of_iff (x.sq = y.sq ∧ x.id = y.id ∧ x.old = y.old ∧ x.nw = y.nw ∧ x.cd = y.cd) (by cases x; cases y; simp)
theorem fieldsI : Try.prog.underlying 49 = some (.struct (Try.prog.fieldsOf 49)) := by kernel_rfl
theorem guard_item : Try.prog.eqGuardType Try.prog.depth 49 = false := by kernel_rfl
theorem eq_ccl0 (c d : Cd) (hc : okCd c) (hd : okCd d) (w : World) : (Op.equalIn 9999 30 (.agg (ccl c).toArray) (.agg (ccl d).toArray)).run Try.prog w = .ok (decide (c = d)) w := by
  obtain ⟨a1, a2, a3, a4⟩ := c
  obtain ⟨b1, b2, b3, b4⟩ := d
  have := eq_card 9995 a1 a2 a3 b1 b2 b3 a4 b4 hc hd w
  rw [show decide ((a1, a2, a3, a4) = (b1, b2, b3, b4)) = decide (a1 = b1 ∧ a2 = b2 ∧ a3 = b3 ∧ a4 = b4) from by simp only [Prod.mk.injEq]]
  exact this
theorem eq_icl (x y : Im) (hx : okCd x.cd) (hy : okCd y.cd) (w : World) : (Op.equalIn 10000 49 (.agg (icl x).toArray) (.agg (icl y).toArray)).run Try.prog w = .ok (decide (x = y)) w := by
  have hsz : ∀ w, (sizeOf 30).run Try.prog w = .ok 27 w := fun w => by kernel_rfl
  have hag : ∀ w, (isAgg 30).run Try.prog w = .ok true w := fun w => by kernel_rfl
  rw [run_equalIn_agg w 9999 49 _ _ fieldsI (by kernel_rfl)]
  have e : (Try.prog.fieldsOf 49).toList = [⟨"Kind", 3, 0, false, "", "", 0⟩, ⟨"Card", 30, 1, false, "", "", 8⟩] := by kernel_rfl
  rw [e]
  have px : ∀ z : Im, okCd z.cd → (part 30 (icl z).toArray 1).run Try.prog w = .ok (.agg (ccl z.cd).toArray) w := fun z hz => by
    simp only [part, Sem.run_bind, hag, Result.andThen_ok, hsz, if_true, Sem.run_pure]
    have : (icl z).toArray.extract 1 (1 + 27) = (ccl z.cd).toArray := by
      apply Array.toList_inj.1
      have h := icl_drop hz
      rw [ccl_len hz] at h
      simpa using h
    rw [this]
  have p0 : ∀ z : Im, (part 3 (icl z).toArray 0).run Try.prog w = .ok (.int .i64 z.kd) w := fun z => by simp [go_sem, part, isAgg, icl]
  have ec := eq_ccl0 x.cd y.cd hx hy w
  have q0 : ∀ a b : Int, (Op.equalIn 9999 3 (.int .i64 a) (.int .i64 b)).run Try.prog w = .ok (a == b) w := fun a b => run_equalIn_int w 9998 3 .i64 .i64 a b Try.underlying3
  simp only [Op.eqFields, if_pos (show ("Kind" : String) ≠ "_" by decide), if_pos (show ("Card" : String) ≠ "_" by decide)]
  simp only [Sem.run_bind, Sem.run_ite, Sem.run_pure, px x hx, px y hy, p0, q0, ec, Result.andThen_ok]
  obtain ⟨k, c⟩ := x
  obtain ⟨k', c'⟩ := y
  by_cases h1 : k = k' <;> by_cases h2 : c = c' <;> simp [h1, h2]
set_option maxRecDepth 100000 in
set_option maxHeartbeats 3200000 in
theorem equali_any (A B : Option Addr) (n c m d : Nat) (l l' : List Im) (w : World) (hl : l.length = n) (hm : l'.length = m) (hn : n ≤ 1099511627776) (hm2 : m ≤ 1099511627776) (hok : ∀ x ∈ l, okCd x.cd) (hok' : ∀ x ∈ l', okCd x.cd) (hA : Sees w w.heap.size A (rws icl l)) (hB : Sees w w.heap.size B (rws icl l')) :
    Calls Try.prog 28 #[.slice A n c, .slice B m d] w fun e w' => e = .returned (.bool (decide (l = l'))) ∧ Below w.heap.size w w' := by
  have hu := Try.underlying49
  by_cases hnm : n = m
  · subst hnm
    obtain ⟨R, hR⟩ : ∃ R, R = decide (l = l') := ⟨_, rfl⟩
    have HR : Hid (R = true ↔ l = l') := Lib.hid (by rw [hR, decide_eq_true_eq])
    rw [← hR]
    have HLL := Lib.hid hl
    have HOK1 := Lib.hid hok
    have HOK2 := Lib.hid hok'
    clear hok hok'
    have HML := Lib.hid hm
    clear hR hl hm hm2
    go_enter Try.func28, Try.ntmps28
    go_wp2_with fail
    go_loopw [13] (fun i wr => ∃ k : Nat, k ≤ n ∧ i = .int .i64 k ∧ Hid (∀ i (h1 : i < l.length) (h2 : i < l'.length), i < k → l[i] = l'[i]) ∧ Below w.heap.size w wr) (fun i _ => n - (iOf i).toNat)
    case atStart => exact ⟨0, by omega, rfl, Lib.hid (fun i _ _ h => absurd h (by omega)), Below.refl _ _⟩
    case round =>
      obtain ⟨k, hk, rfl, HK, hbr⟩ := hrel
      by_cases hlt : k < n
      · have dk : (k : Int) < (n : Int) := by omega
        have hkl : k < l.length := by rw [HLL.out]; exact hlt
        have hkm : k < l'.length := by rw [HML.out]; exact hlt
        obtain ⟨b1, o1, rfl, hb1, hr1⟩ := sees_rw (sz := 28) (icl_lens HOK1.out) (hA.below hbr) (by decide) k hkl
        obtain ⟨b2, o2, rfl, hb2, hr2⟩ := sees_rw (sz := 28) (icl_lens HOK2.out) (hB.below hbr) (by decide) k hkm
        have hL1 := icl_lens HOK1.out _ (List.getElem_mem hkl)
        have hO1 := HOK1.out _ (List.getElem_mem hkl)
        have hL2 := icl_lens HOK2.out _ (List.getElem_mem hkm)
        have hO2 := HOK2.out _ (List.getElem_mem hkm)
        obtain ⟨u, hu2⟩ : ∃ u, u = l[k] := ⟨_, rfl⟩
        obtain ⟨v, hv2⟩ : ∃ v, v = l'[k] := ⟨_, rfl⟩
        rw [← hu2] at hr1 hL1 hO1
        rw [← hv2] at hr2 hL2 hO2
        have HUL := Lib.hid hL1
        have HVL := Lib.hid hL2
        have hbz := hbr.size
        have HA : Hid (∀ w1, Le wr w1 → w1.rangeAt b1 (o1 + k * 28) (icl u)) := Lib.hid (fun w1 h1 j v hj => (h1.cell (p := ⟨b1, o1 + k * 28 + j, none⟩) (by show b1 < wr.heap.size; omega)).trans (hr1 j v hj))
        have HB : Hid (∀ w1, Le wr w1 → w1.rangeAt b2 (o2 + k * 28) (icl v)) := Lib.hid (fun w1 h1 j v hj => (h1.cell (p := ⟨b2, o2 + k * 28 + j, none⟩) (by show b2 < wr.heap.size; omega)).trans (hr2 j v hj))
        have HQ := Lib.hid (fun w1 : World => eq_icl u v hO1 hO2 w1)
        have HU2 := Lib.hid hu2
        have HV2 := Lib.hid hv2
        clear hr1 hr2 hL1 hL2 hO1 hO2 hu2 hv2 hb1 hb2
        cases huv : decide (u = v) with
        | true =>
          rw [huv] at HQ
          have HE := Lib.hid (of_decide_eq_true huv)
          clear huv
          go_wp2_with fail
          refine wp_region_steady [] 26 (by kernel_rfl) (by kernel_rfl) (by kernel_rfl) (by rfl) ?_
          iterate 3 (refine wpG_quiet (by rfl) (by rfl) (by rfl) (fun K hK => ?_); go_big_quiet_op; refine hK _ ?_; clear hK K)
          refine wpG_run (by rfl) (by rfl) (.agg (icl u).toArray) (fun wx hl => exec_load 49 (.tmp 18) rfl b1 (o1 + k * 28) rfl (icl u) _ (HA.out wx hl.1) hu rfl (by rw [HUL.out]; exact info_item)) ?_
          simp only [Act.put, List.setIfInBounds_toArray, List.set_cons_zero, List.set_cons_succ]
          iterate 3 (refine wpG_quiet (by rfl) (by rfl) (by rfl) (fun K hK => ?_); go_big_quiet_op; refine hK _ ?_; clear hK K)
          refine wpG_run (by rfl) (by rfl) (.agg (icl v).toArray) (fun wx hl => exec_load 49 (.tmp 22) rfl b2 (o2 + k * 28) rfl (icl v) _ (HB.out wx hl.1) hu rfl (by rw [HVL.out]; exact info_item)) ?_
          simp only [Act.put, List.setIfInBounds_toArray, List.set_cons_zero, List.set_cons_succ]
          refine wpG_run (by rfl) (by rfl) (.bool (!true)) (fun wx hl => exec_neq 49 _ (.tmp 19) (.tmp 23) rfl _ _ rfl rfl guard_item true (HQ.out wx)) ?_
          simp only [Act.put, List.setIfInBounds_toArray, List.set_cons_zero, List.set_cons_succ]
          refine wpG_nil fun w1 hl _ => ?_
          have hb1 := hbr.trans (hl.mono hbr.size)
          clear hA hB hbr
          go_wp2_with fail
          go_roundw
          case rel => exact ⟨k + 1, by omega, by go_num, Lib.hid (fun i h1 h2 hi => by
            by_cases e : i = k
            · subst e; rw [← HU2.out, ← HV2.out]; exact HE.out
            · exact HK.out i h1 h2 (by omega)), hb1⟩
          case measure => simp [iOf]; omega
        | false =>
          rw [huv] at HQ
          have HRR : Hid (R = false) := Lib.hid (by
            rw [Bool.eq_false_iff]
            intro e
            replace e := HR.out.1 e
            refine of_decide_eq_false huv ?_
            rw [HU2.out, HV2.out]
            subst e
            rfl)
          clear huv
          go_wp2_with fail
          refine wp_region_steady [] 26 (by kernel_rfl) (by kernel_rfl) (by kernel_rfl) (by rfl) ?_
          iterate 3 (refine wpG_quiet (by rfl) (by rfl) (by rfl) (fun K hK => ?_); go_big_quiet_op; refine hK _ ?_; clear hK K)
          refine wpG_run (by rfl) (by rfl) (.agg (icl u).toArray) (fun wx hl => exec_load 49 (.tmp 18) rfl b1 (o1 + k * 28) rfl (icl u) _ (HA.out wx hl.1) hu rfl (by rw [HUL.out]; exact info_item)) ?_
          simp only [Act.put, List.setIfInBounds_toArray, List.set_cons_zero, List.set_cons_succ]
          iterate 3 (refine wpG_quiet (by rfl) (by rfl) (by rfl) (fun K hK => ?_); go_big_quiet_op; refine hK _ ?_; clear hK K)
          refine wpG_run (by rfl) (by rfl) (.agg (icl v).toArray) (fun wx hl => exec_load 49 (.tmp 22) rfl b2 (o2 + k * 28) rfl (icl v) _ (HB.out wx hl.1) hu rfl (by rw [HVL.out]; exact info_item)) ?_
          simp only [Act.put, List.setIfInBounds_toArray, List.set_cons_zero, List.set_cons_succ]
          refine wpG_run (by rfl) (by rfl) (.bool (!false)) (fun wx hl => exec_neq 49 _ (.tmp 19) (.tmp 23) rfl _ _ rfl rfl guard_item false (HQ.out wx)) ?_
          simp only [Act.put, List.setIfInBounds_toArray, List.set_cons_zero, List.set_cons_succ]
          refine wpG_nil fun w1 hl _ => ?_
          have hb1 := hbr.trans (hl.mono hbr.size)
          clear hA hB hbr
          go_wp2_with fail
          go_ret
          exact ⟨by rw [HRR.out]; rfl, hb1⟩
      · obtain rfl : k = n := by omega
        have HRR : Hid (R = true) := Lib.hid (by
          exact HR.out.2 (List.ext_getElem (by rw [HLL.out, HML.out]) (fun i h1 h2 => HK.out i h1 h2 (by rw [HLL.out] at h1; exact h1))))
        go_wp2_with fail
        go_ret
        exact ⟨by rw [HRR.out]; rfl, hbr⟩
  · have HRR : Hid (decide (l = l') = false) := Lib.hid (decide_eq_false (fun e => hnm (by rw [← hl, ← hm, e])))
    rw [HRR.out]
    have b1 : ((n : Int) != (m : Int)) = true := by rw [bne_iff_ne]; omega
    clear hA hB hl hm hok hok'
    go_enter Try.func28, Try.ntmps28
    go_wp2_with fail
    go_ret
    exact ⟨rfl, Below.refl _ _⟩

set_option maxRecDepth 100000 in
set_option maxHeartbeats 3200000 in
theorem rsamei_any (A B : Option Addr) (n c m d : Nat) (l l' : List Im) (w : World) (hl : l.length = n) (hm : l'.length = m) (hn : n ≤ 1099511627776) (hm2 : m ≤ 1099511627776) (hok : ∀ x ∈ l, okCd x.cd) (hok' : ∀ x ∈ l', okCd x.cd) (hA : Sees w w.heap.size A (rws icl l)) (hB : Sees w w.heap.size B (rws icl l')) :
    Calls Try.prog 16 #[.slice A n c, .slice B m d] w fun e w' => e = .returned (.bool (decide (l = l'))) ∧ Below w.heap.size w w' := by
  have hu := Try.underlying49
  by_cases hnm : n = m
  · subst hnm
    obtain ⟨R, hR⟩ : ∃ R, R = decide (l = l') := ⟨_, rfl⟩
    have HR : Hid (R = true ↔ l = l') := Lib.hid (by rw [hR, decide_eq_true_eq])
    rw [← hR]
    have HLL := Lib.hid hl
    have HOK1 := Lib.hid hok
    have HOK2 := Lib.hid hok'
    clear hok hok'
    have HML := Lib.hid hm
    clear hR hl hm hm2
    go_enter Try.func16, Try.ntmps16
    go_wp2_with fail
    go_loopw [5] (fun i wr => ∃ k : Nat, k ≤ n ∧ i = .int .i64 k ∧ Hid (∀ i (h1 : i < l.length) (h2 : i < l'.length), i < k → l[i] = l'[i]) ∧ Below w.heap.size w wr) (fun i _ => n - (iOf i).toNat)
    case atStart => exact ⟨0, by omega, rfl, Lib.hid (fun i _ _ h => absurd h (by omega)), Below.refl _ _⟩
    case round =>
      obtain ⟨k, hk, rfl, HK, hbr⟩ := hrel
      by_cases hlt : k < n
      · have dk : (k : Int) < (n : Int) := by omega
        have hkl : k < l.length := by rw [HLL.out]; exact hlt
        have hkm : k < l'.length := by rw [HML.out]; exact hlt
        obtain ⟨b1, o1, rfl, hb1, hr1⟩ := sees_rw (sz := 28) (icl_lens HOK1.out) (hA.below hbr) (by decide) k hkl
        obtain ⟨b2, o2, rfl, hb2, hr2⟩ := sees_rw (sz := 28) (icl_lens HOK2.out) (hB.below hbr) (by decide) k hkm
        have hL1 := icl_lens HOK1.out _ (List.getElem_mem hkl)
        have hO1 := HOK1.out _ (List.getElem_mem hkl)
        have hL2 := icl_lens HOK2.out _ (List.getElem_mem hkm)
        have hO2 := HOK2.out _ (List.getElem_mem hkm)
        obtain ⟨u, hu2⟩ : ∃ u, u = l[k] := ⟨_, rfl⟩
        obtain ⟨v, hv2⟩ : ∃ v, v = l'[k] := ⟨_, rfl⟩
        rw [← hu2] at hr1 hL1 hO1
        rw [← hv2] at hr2 hL2 hO2
        have HUL := Lib.hid hL1
        have HVL := Lib.hid hL2
        have hbz := hbr.size
        have HA : Hid (∀ w1, Le wr w1 → w1.rangeAt b1 (o1 + k * 28) (icl u)) := Lib.hid (fun w1 h1 j v hj => (h1.cell (p := ⟨b1, o1 + k * 28 + j, none⟩) (by show b1 < wr.heap.size; omega)).trans (hr1 j v hj))
        have HB : Hid (∀ w1, Le wr w1 → w1.rangeAt b2 (o2 + k * 28) (icl v)) := Lib.hid (fun w1 h1 j v hj => (h1.cell (p := ⟨b2, o2 + k * 28 + j, none⟩) (by show b2 < wr.heap.size; omega)).trans (hr2 j v hj))
        have HQ := Lib.hid (fun w1 : World => eq_icl u v hO1 hO2 w1)
        have HU2 := Lib.hid hu2
        have HV2 := Lib.hid hv2
        clear hr1 hr2 hL1 hL2 hO1 hO2 hu2 hv2 hb1 hb2
        cases huv : decide (u = v) with
        | true =>
          rw [huv] at HQ
          have HE := Lib.hid (of_decide_eq_true huv)
          clear huv
          go_wp2_with fail
          refine wp_region_steady [] 26 (by kernel_rfl) (by kernel_rfl) (by kernel_rfl) (by rfl) ?_
          iterate 3 (refine wpG_quiet (by rfl) (by rfl) (by rfl) (fun K hK => ?_); go_big_quiet_op; refine hK _ ?_; clear hK K)
          refine wpG_run (by rfl) (by rfl) (.agg (icl u).toArray) (fun wx hl => exec_load 49 (.tmp 19) rfl b1 (o1 + k * 28) rfl (icl u) _ (HA.out wx hl.1) hu rfl (by rw [HUL.out]; exact info_item)) ?_
          simp only [Act.put, List.setIfInBounds_toArray, List.set_cons_zero, List.set_cons_succ]
          iterate 3 (refine wpG_quiet (by rfl) (by rfl) (by rfl) (fun K hK => ?_); go_big_quiet_op; refine hK _ ?_; clear hK K)
          refine wpG_run (by rfl) (by rfl) (.agg (icl v).toArray) (fun wx hl => exec_load 49 (.tmp 23) rfl b2 (o2 + k * 28) rfl (icl v) _ (HB.out wx hl.1) hu rfl (by rw [HVL.out]; exact info_item)) ?_
          simp only [Act.put, List.setIfInBounds_toArray, List.set_cons_zero, List.set_cons_succ]
          refine wpG_run (by rfl) (by rfl) (.bool (!true)) (fun wx hl => exec_neq 49 _ (.tmp 20) (.tmp 24) rfl _ _ rfl rfl guard_item true (HQ.out wx)) ?_
          simp only [Act.put, List.setIfInBounds_toArray, List.set_cons_zero, List.set_cons_succ]
          refine wpG_nil fun w1 hl _ => ?_
          have hb1 := hbr.trans (hl.mono hbr.size)
          clear hA hB hbr
          go_wp2_with fail
          go_roundw
          case rel => exact ⟨k + 1, by omega, by go_num, Lib.hid (fun i h1 h2 hi => by
            by_cases e : i = k
            · subst e; rw [← HU2.out, ← HV2.out]; exact HE.out
            · exact HK.out i h1 h2 (by omega)), hb1⟩
          case measure => simp [iOf]; omega
        | false =>
          rw [huv] at HQ
          have HRR : Hid (R = false) := Lib.hid (by
            rw [Bool.eq_false_iff]
            intro e
            replace e := HR.out.1 e
            refine of_decide_eq_false huv ?_
            rw [HU2.out, HV2.out]
            subst e
            rfl)
          clear huv
          go_wp2_with fail
          refine wp_region_steady [] 26 (by kernel_rfl) (by kernel_rfl) (by kernel_rfl) (by rfl) ?_
          iterate 3 (refine wpG_quiet (by rfl) (by rfl) (by rfl) (fun K hK => ?_); go_big_quiet_op; refine hK _ ?_; clear hK K)
          refine wpG_run (by rfl) (by rfl) (.agg (icl u).toArray) (fun wx hl => exec_load 49 (.tmp 19) rfl b1 (o1 + k * 28) rfl (icl u) _ (HA.out wx hl.1) hu rfl (by rw [HUL.out]; exact info_item)) ?_
          simp only [Act.put, List.setIfInBounds_toArray, List.set_cons_zero, List.set_cons_succ]
          iterate 3 (refine wpG_quiet (by rfl) (by rfl) (by rfl) (fun K hK => ?_); go_big_quiet_op; refine hK _ ?_; clear hK K)
          refine wpG_run (by rfl) (by rfl) (.agg (icl v).toArray) (fun wx hl => exec_load 49 (.tmp 23) rfl b2 (o2 + k * 28) rfl (icl v) _ (HB.out wx hl.1) hu rfl (by rw [HVL.out]; exact info_item)) ?_
          simp only [Act.put, List.setIfInBounds_toArray, List.set_cons_zero, List.set_cons_succ]
          refine wpG_run (by rfl) (by rfl) (.bool (!false)) (fun wx hl => exec_neq 49 _ (.tmp 20) (.tmp 24) rfl _ _ rfl rfl guard_item false (HQ.out wx)) ?_
          simp only [Act.put, List.setIfInBounds_toArray, List.set_cons_zero, List.set_cons_succ]
          refine wpG_nil fun w1 hl _ => ?_
          have hb1 := hbr.trans (hl.mono hbr.size)
          clear hA hB hbr
          go_wp2_with fail
          go_ret
          exact ⟨by rw [HRR.out]; rfl, hb1⟩
      · obtain rfl : k = n := by omega
        have HRR : Hid (R = true) := Lib.hid (by
          exact HR.out.2 (List.ext_getElem (by rw [HLL.out, HML.out]) (fun i h1 h2 => HK.out i h1 h2 (by rw [HLL.out] at h1; exact h1))))
        go_wp2_with fail
        go_ret
        exact ⟨by rw [HRR.out]; rfl, hbr⟩
  · have HRR : Hid (decide (l = l') = false) := Lib.hid (decide_eq_false (fun e => hnm (by rw [← hl, ← hm, e])))
    rw [HRR.out]
    have b1 : ((n : Int) != (m : Int)) = true := by rw [bne_iff_ne]; omega
    clear hA hB hl hm hok hok'
    go_enter Try.func16, Try.ntmps16
    go_wp2_with fail
    go_ret
    exact ⟨rfl, Below.refl _ _⟩

theorem samei_any (A B : Option Addr) (n c m d : Nat) (l l' : List Im) (w : World) (hA : SeesR icl w A n c l) (hB : SeesR icl w B m d l') (hn : n ≤ 1099511627776) (hm : m ≤ 1099511627776) (hok : ∀ x ∈ l, okCd x.cd) (hok' : ∀ x ∈ l', okCd x.cd) :
    Calls Try.prog 13 #[.slice A n c, .slice B m d] w fun e w' => e = .returned (.bool (decide (l = l'))) ∧ Below w.heap.size w w' := by
  have HE := Lib.hid (equali_any A B n c m d l l' w hA.len hB.len hn hm hok hok' hA.see hB.see)
  generalize decide (l = l') = R at HE
  clear hA hB
  go_enter Try.func13, Try.ntmps13
  go_wp2_with fail
  refine HE.out.mono ?_
  rintro e w1 ⟨rfl, hb⟩
  go_wp2_with fail
  go_ret
  exact ⟨rfl, hb⟩
end Go.Proofs.Ytepefocpeeihdaa

/- Items: are they more, or longer, than are looked at; two lists of cards held against each other by the document. -/
namespace Go.Proofs.Ytepefocpeeihdaa
set_option linter.unusedVariables false
set_option linter.unusedSimpArgs false
open Go Go.RowKit BitM

def iwide (l : List Im) : Bool := decide (100 < l.length) || l.any (fun t => tooLong t.cd.2.2.2)
theorem iwide_no {l : List Im} (h1 : l.length ≤ 100) (h2 : ∀ j (hj : j < l.length), tooLong l[j].cd.2.2.2 = false) : iwide l = false := by
  unfold iwide
  rw [decide_eq_false (by omega), Bool.false_or, List.any_eq_false]
  intro t ht
  obtain ⟨j, hj, rfl⟩ := List.getElem_of_mem ht
  rw [h2 j hj]
  exact Bool.false_ne_true
theorem iwide_one {l : List Im} (j : Nat) (hj : j < l.length) (h : tooLong l[j].cd.2.2.2 = true) : iwide l = true := by
  unfold iwide
  rw [Bool.or_eq_true]
  exact .inr (List.any_eq_true.2 ⟨l[j], List.getElem_mem hj, h⟩)
theorem iwide_len {l : List Im} (h : iwide l = false) : l.length ≤ 100 := by
  unfold iwide at h
  rw [Bool.or_eq_false_iff] at h
  have := of_decide_eq_false h.1
  omega
set_option maxRecDepth 100000 in
set_option maxHeartbeats 1600000 in
theorem iwide_any (A : Option Addr) (n c : Nat) (l : List Im) (w : World) (h : SeesR icl w A n c l) (hok : ∀ t ∈ l, okCd t.cd) :
    Calls Try.prog 17 #[.slice A n c] w fun e w' => e = .returned (.bool (iwide l)) ∧ Below w.heap.size w w' := by
  have hu := Try.underlying28
  have HN := Lib.hid h.len
  have HB0 := Lib.hid (Below.refl w.heap.size w)
  by_cases hbig : 100 < n
  · have d1 : decide (100 < (n : Int)) = true := decide_eq_true (by omega)
    have HR : Hid (iwide l = true) := Lib.hid (by unfold iwide; rw [HN.out, decide_eq_true hbig]; rfl)
    clear h hok hbig
    go_enter Try.func17, Try.ntmps17
    go_wp2_with fail
    go_ret
    exact ⟨by rw [HR.out]; rfl, HB0.out⟩
  · have d1 : decide (100 < (n : Int)) = false := decide_eq_false (by omega)
    have hn100 : n ≤ 100 := by omega
    have HRNO := Lib.hid (iwide_no (l := l) (by rw [HN.out]; omega))
    have HRYES := Lib.hid (fun j hj => iwide_one (l := l) j hj)
    have HLA := Lib.hid (fun k (hk : k < l.length) wx => large_any l[k].cd.2.2.2 wx (hok _ (List.getElem_mem hk)))
    have HFL := Lib.hid (fun k (hk : k < l.length) => show (fcells l[k].cd.2.2.2).length = 24 by rw [fcells_len, hok _ (List.getElem_mem hk)])
    have HCE : Hid (∀ k (hk : k < l.length), ∃ b o, A = some ⟨b, o, none⟩ ∧ ∀ W, Below w.heap.size w W → W.rangeAt b (o + k * 28 + 1 + 3) (fcells l[k].cd.2.2.2)) := Lib.hid (fun k hk => by
      obtain ⟨b, o, e, _, hc⟩ := item_cells h hok (by omega)
      refine ⟨b, o, e, fun W hW j v hj => ?_⟩
      have := (hc W hW k hk).2.2.2 (3 + j) v (ccl_fields _ j v hj)
      rw [show o + k * 28 + 1 + 3 + j = o + k * 28 + 1 + (3 + j) by omega]
      exact this)
    clear h hok hbig
    generalize iwide l = R at HRNO HRYES ⊢
    go_enter Try.func17, Try.ntmps17
    go_wp2_with fail
    go_loopw [3] (fun i wr => ∃ k : Nat, k ≤ n ∧ i = .int .i64 (k : Int) ∧ Hid (∀ j (hj : j < k) (hj2 : j < l.length), tooLong l[j].cd.2.2.2 = false) ∧ Hid (Below w.heap.size w wr)) (fun i _ => n - (iOf i).toNat)
    case atStart => exact ⟨0, by omega, rfl, Lib.hid (fun j hj => by omega), HB0⟩
    case round =>
      obtain ⟨k, hk, rfl, HF, HB⟩ := hrel
      by_cases hlt : k < n
      · have d0 : decide ((k : Int) < (n : Int)) = true := decide_eq_true (by omega)
        have hkl : k < l.length := by rw [HN.out]; exact hlt
        obtain ⟨b, o, rfl, hcc⟩ := HCE.out k hkl
        have hrg := hcc wr HB.out
        have HL := Lib.hid (HLA.out k hkl wr)
        have HFK := Lib.hid (HFL.out k hkl)
        have HYK := Lib.hid (HRYES.out k hkl)
        have HNX : Hid (tooLong l[k].cd.2.2.2 = false → ∀ j (hj : j < k + 1) (hj2 : j < l.length), tooLong l[j].cd.2.2.2 = false) := Lib.hid (fun e j hj hj2 => by
          by_cases e2 : j = k
          · subst e2; exact e
          · exact HF.out j (by omega) hj2)
        obtain ⟨FC, hFC⟩ : ∃ FC, FC = fcells l[k].cd.2.2.2 := ⟨_, rfl⟩
        rw [← hFC] at hrg HL HFK
        generalize tooLong l[k].cd.2.2.2 = q at HL HYK HNX
        clear hFC hcc HF HRNO HRYES HLA HFL HCE
        go_wp2_with (first
          | (refine wpList_load_mid rfl 28 (.tmp 17) rfl b (o + k * 28 + 1 + 3) rfl FC _ hrg hu rfl (by rw [HFK.out]; exact info_flds) ?_
             simp only [Act.put, List.setIfInBounds_toArray, List.set_cons_zero, List.set_cons_succ])
          | fail)
        refine HL.out.mono ?_
        rintro e w1 ⟨rfl, hb1⟩
        have HB1 := Lib.hid (HB.out.trans (hb1.mono HB.out.size))
        clear hb1 HL hrg
        cases q with
        | true =>
          have HR := Lib.hid (HYK.out rfl)
          clear HYK HNX
          go_wp2_with fail
          go_ret
          exact ⟨by rw [HR.out]; rfl, HB1.out⟩
        | false =>
          have HG := Lib.hid (HNX.out rfl)
          clear HYK HNX
          go_wp2_with fail
          go_roundw
          case rel => exact ⟨k + 1, by omega, by go_num, HG, HB1⟩
          case measure => simp [iOf]; omega
      · obtain rfl : k = n := by omega
        have HR := Lib.hid (HRNO.out (fun j hj => HF.out j (by rw [← HN.out]; exact hj) hj))
        clear HRNO HRYES HLA HFL HCE HF
        go_wp2_with fail
        go_ret
        exact ⟨by rw [HR.out]; rfl, HB.out⟩
instance : DecidableEq Cd := fun c d => inferInstanceAs (Decidable (c = d))
theorem ccl_lens {l : List Cd} (h : ∀ t ∈ l, okCd t) : ∀ x ∈ l, (ccl x).length = 27 := fun x hx => ccl_len (h x hx)
/-- The cells of a card that lies in a slice. -/
theorem card_cells {w : World} {A : Option Addr} {n c : Nat} {l : List Cd} (h : SeesR ccl w A n c l) (hok : ∀ t ∈ l, okCd t) (hl : 0 < l.length) :
    ∃ b o, A = some ⟨b, o, none⟩ ∧ b < w.heap.size ∧ ∀ W, Below w.heap.size w W → ∀ k (hk : k < l.length), W.cell? ⟨b, o + k * 27, none⟩ = some (.int .i64 l[k].1) ∧ W.cell? ⟨b, o + k * 27 + 1, none⟩ = some (.int .i64 l[k].2.1) ∧
      W.rangeAt b (o + k * 27) (ccl l[k]) ∧ W.rangeAt b (o + k * 27 + 3) (fcells l[k].2.2.2) := by
  obtain ⟨b, o, e, hb, hr⟩ := h.gets (ccl_lens hok) (by omega) hl
  refine ⟨b, o, e, hb, fun W hW k hk => ?_⟩
  have r := hr W hW k hk
  refine ⟨r 0 _ rfl, r 1 _ rfl, r, fun j v hj => ?_⟩
  have := r (3 + j) v (ccl_fields _ j v hj)
  rw [show o + k * 27 + 3 + j = o + k * 27 + (3 + j) by omega]
  exact this

set_option maxRecDepth 100000 in
set_option maxHeartbeats 3200000 in
theorem rsamec_any (A B : Option Addr) (n c m d : Nat) (l l' : List Cd) (w : World) (hl : l.length = n) (hm : l'.length = m) (hn : n ≤ 1099511627776) (hm2 : m ≤ 1099511627776) (hok : ∀ x ∈ l, okCd x) (hok' : ∀ x ∈ l', okCd x) (hA : Sees w w.heap.size A (rws ccl l)) (hB : Sees w w.heap.size B (rws ccl l')) :
    Calls Try.prog 23 #[.slice A n c, .slice B m d] w fun e w' => e = .returned (.bool (decide (l = l'))) ∧ Below w.heap.size w w' := by
  have hu := Try.underlying30
  by_cases hnm : n = m
  · subst hnm
    obtain ⟨R, hR⟩ : ∃ R, R = decide (l = l') := ⟨_, rfl⟩
    have HR : Hid (R = true ↔ l = l') := Lib.hid (by rw [hR, decide_eq_true_eq])
    rw [← hR]
    have HLL := Lib.hid hl
    have HOK1 := Lib.hid hok
    have HOK2 := Lib.hid hok'
    clear hok hok'
    have HML := Lib.hid hm
    clear hR hl hm hm2
    go_enter Try.func23, Try.ntmps23
    go_wp2_with fail
    go_loopw [5] (fun i wr => ∃ k : Nat, k ≤ n ∧ i = .int .i64 k ∧ Hid (∀ i (h1 : i < l.length) (h2 : i < l'.length), i < k → l[i] = l'[i]) ∧ Below w.heap.size w wr) (fun i _ => n - (iOf i).toNat)
    case atStart => exact ⟨0, by omega, rfl, Lib.hid (fun i _ _ h => absurd h (by omega)), Below.refl _ _⟩
    case round =>
      obtain ⟨k, hk, rfl, HK, hbr⟩ := hrel
      by_cases hlt : k < n
      · have dk : (k : Int) < (n : Int) := by omega
        have hkl : k < l.length := by rw [HLL.out]; exact hlt
        have hkm : k < l'.length := by rw [HML.out]; exact hlt
        obtain ⟨b1, o1, rfl, hb1, hr1⟩ := sees_rw (sz := 27) (ccl_lens HOK1.out) (hA.below hbr) (by decide) k hkl
        obtain ⟨b2, o2, rfl, hb2, hr2⟩ := sees_rw (sz := 27) (ccl_lens HOK2.out) (hB.below hbr) (by decide) k hkm
        have hL1 := ccl_lens HOK1.out _ (List.getElem_mem hkl)
        have hO1 := HOK1.out _ (List.getElem_mem hkl)
        have hL2 := ccl_lens HOK2.out _ (List.getElem_mem hkm)
        have hO2 := HOK2.out _ (List.getElem_mem hkm)
        obtain ⟨u, hu2⟩ : ∃ u, u = l[k] := ⟨_, rfl⟩
        obtain ⟨v, hv2⟩ : ∃ v, v = l'[k] := ⟨_, rfl⟩
        rw [← hu2] at hr1 hL1 hO1
        rw [← hv2] at hr2 hL2 hO2
        have HUL := Lib.hid hL1
        have HVL := Lib.hid hL2
        have hbz := hbr.size
        have HA : Hid (∀ w1, Le wr w1 → w1.rangeAt b1 (o1 + k * 27) (ccl u)) := Lib.hid (fun w1 h1 j v hj => (h1.cell (p := ⟨b1, o1 + k * 27 + j, none⟩) (by show b1 < wr.heap.size; omega)).trans (hr1 j v hj))
        have HB : Hid (∀ w1, Le wr w1 → w1.rangeAt b2 (o2 + k * 27) (ccl v)) := Lib.hid (fun w1 h1 j v hj => (h1.cell (p := ⟨b2, o2 + k * 27 + j, none⟩) (by show b2 < wr.heap.size; omega)).trans (hr2 j v hj))
        have HQ := Lib.hid (fun w1 : World => eq_ccl u v hO1 hO2 w1)
        have HU2 := Lib.hid hu2
        have HV2 := Lib.hid hv2
        clear hr1 hr2 hL1 hL2 hO1 hO2 hu2 hv2 hb1 hb2
        cases huv : decide (u = v) with
        | true =>
          rw [huv] at HQ
          have HE := Lib.hid (of_decide_eq_true huv)
          clear huv
          go_wp2_with fail
          refine wp_region_steady [] 26 (by kernel_rfl) (by kernel_rfl) (by kernel_rfl) (by rfl) ?_
          iterate 3 (refine wpG_quiet (by rfl) (by rfl) (by rfl) (fun K hK => ?_); go_big_quiet_op; refine hK _ ?_; clear hK K)
          refine wpG_run (by rfl) (by rfl) (.agg (ccl u).toArray) (fun wx hl => exec_load 30 (.tmp 19) rfl b1 (o1 + k * 27) rfl (ccl u) _ (HA.out wx hl.1) hu rfl (by rw [HUL.out]; exact info_card)) ?_
          simp only [Act.put, List.setIfInBounds_toArray, List.set_cons_zero, List.set_cons_succ]
          iterate 3 (refine wpG_quiet (by rfl) (by rfl) (by rfl) (fun K hK => ?_); go_big_quiet_op; refine hK _ ?_; clear hK K)
          refine wpG_run (by rfl) (by rfl) (.agg (ccl v).toArray) (fun wx hl => exec_load 30 (.tmp 23) rfl b2 (o2 + k * 27) rfl (ccl v) _ (HB.out wx hl.1) hu rfl (by rw [HVL.out]; exact info_card)) ?_
          simp only [Act.put, List.setIfInBounds_toArray, List.set_cons_zero, List.set_cons_succ]
          refine wpG_run (by rfl) (by rfl) (.bool (!true)) (fun wx hl => exec_neq 30 _ (.tmp 20) (.tmp 24) rfl _ _ rfl rfl guard_card true (HQ.out wx)) ?_
          simp only [Act.put, List.setIfInBounds_toArray, List.set_cons_zero, List.set_cons_succ]
          refine wpG_nil fun w1 hl _ => ?_
          have hb1 := hbr.trans (hl.mono hbr.size)
          clear hA hB hbr
          go_wp2_with fail
          go_roundw
          case rel => exact ⟨k + 1, by omega, by go_num, Lib.hid (fun i h1 h2 hi => by
            by_cases e : i = k
            · subst e; rw [← HU2.out, ← HV2.out]; exact HE.out
            · exact HK.out i h1 h2 (by omega)), hb1⟩
          case measure => simp [iOf]; omega
        | false =>
          rw [huv] at HQ
          have HRR : Hid (R = false) := Lib.hid (by
            rw [Bool.eq_false_iff]
            intro e
            replace e := HR.out.1 e
            refine of_decide_eq_false huv ?_
            rw [HU2.out, HV2.out]
            subst e
            rfl)
          clear huv
          go_wp2_with fail
          refine wp_region_steady [] 26 (by kernel_rfl) (by kernel_rfl) (by kernel_rfl) (by rfl) ?_
          iterate 3 (refine wpG_quiet (by rfl) (by rfl) (by rfl) (fun K hK => ?_); go_big_quiet_op; refine hK _ ?_; clear hK K)
          refine wpG_run (by rfl) (by rfl) (.agg (ccl u).toArray) (fun wx hl => exec_load 30 (.tmp 19) rfl b1 (o1 + k * 27) rfl (ccl u) _ (HA.out wx hl.1) hu rfl (by rw [HUL.out]; exact info_card)) ?_
          simp only [Act.put, List.setIfInBounds_toArray, List.set_cons_zero, List.set_cons_succ]
          iterate 3 (refine wpG_quiet (by rfl) (by rfl) (by rfl) (fun K hK => ?_); go_big_quiet_op; refine hK _ ?_; clear hK K)
          refine wpG_run (by rfl) (by rfl) (.agg (ccl v).toArray) (fun wx hl => exec_load 30 (.tmp 23) rfl b2 (o2 + k * 27) rfl (ccl v) _ (HB.out wx hl.1) hu rfl (by rw [HVL.out]; exact info_card)) ?_
          simp only [Act.put, List.setIfInBounds_toArray, List.set_cons_zero, List.set_cons_succ]
          refine wpG_run (by rfl) (by rfl) (.bool (!false)) (fun wx hl => exec_neq 30 _ (.tmp 20) (.tmp 24) rfl _ _ rfl rfl guard_card false (HQ.out wx)) ?_
          simp only [Act.put, List.setIfInBounds_toArray, List.set_cons_zero, List.set_cons_succ]
          refine wpG_nil fun w1 hl _ => ?_
          have hb1 := hbr.trans (hl.mono hbr.size)
          clear hA hB hbr
          go_wp2_with fail
          go_ret
          exact ⟨by rw [HRR.out]; rfl, hb1⟩
      · obtain rfl : k = n := by omega
        have HRR : Hid (R = true) := Lib.hid (by
          exact HR.out.2 (List.ext_getElem (by rw [HLL.out, HML.out]) (fun i h1 h2 => HK.out i h1 h2 (by rw [HLL.out] at h1; exact h1))))
        go_wp2_with fail
        go_ret
        exact ⟨by rw [HRR.out]; rfl, hbr⟩
  · have HRR : Hid (decide (l = l') = false) := Lib.hid (decide_eq_false (fun e => hnm (by rw [← hl, ← hm, e])))
    rw [HRR.out]
    have b1 : ((n : Int) != (m : Int)) = true := by rw [bne_iff_ne]; omega
    clear hA hB hl hm hok hok'
    go_enter Try.func23, Try.ntmps23
    go_wp2_with fail
    go_ret
    exact ⟨rfl, Below.refl _ _⟩
end Go.Proofs.Ytepefocpeeihdaa

/- Which turns go on: the document's Check. -/
namespace Go.Proofs.Ytepefocpeeihdaa
set_option linter.unusedVariables false
set_option linter.unusedSimpArgs false
open Go Go.RowKit BitM

theorem go_next {l : List Tn} {k : Nat} (hk : k < l.length) (h : goTo l k = true) (h1 : tmay l[k] = true) (h2 : k = 0 ∨ sqAt l k < l[k].sq) (h3 : ∀ u, lastT (l.take k) l[k].id = some u → u.nw = l[k].old) : goTo l (k + 1) = true := by
  rw [goTo_succ, h, goAt_here hk, h1, decide_eq_true h2]
  cases hl : lastT (l.take k) l[k].id with
  | none => rfl
  | some u => simp [h3 u hl]
theorem no_may {l : List Tn} {k : Nat} (hk : k < l.length) (h : tmay l[k] = false) : goes l = false := goes_no hk (by rw [goAt_here hk, h]; rfl)
theorem no_seq {l : List Tn} {m : Nat} (hk : m + 1 < l.length) (h : l[m + 1].sq ≤ l[m].sq) : goes l = false := goes_no hk (by
  rw [goAt_here hk, decide_eq_false (by
    rintro (e | e)
    · omega
    · unfold sqAt at e
      simp only [List.getElem?_eq_getElem (show m < l.length by omega), Option.map_some, Option.getD_some] at e
      omega), Bool.and_false, Bool.false_and])
theorem no_old {l : List Tn} {k : Nat} (hk : k < l.length) {u : Tn} (h : lastT (l.take k) l[k].id = some u) (h2 : u.nw ≠ l[k].old) : goes l = false := goes_no hk (by
  rw [goAt_here hk, h]
  simp [h2])
theorem sq_prev {l : List Tn} {m : Nat} (hk : m + 1 < l.length) (h : l[m].sq < l[m + 1].sq) : sqAt l (m + 1) < l[m + 1].sq := by
  unfold sqAt
  simp only [List.getElem?_eq_getElem (show m < l.length by omega), Option.map_some, Option.getD_some]
  exact h
set_option maxRecDepth 100000 in
set_option maxHeartbeats 6400000 in
theorem rgoes_any (A : Option Addr) (n c : Nat) (l : List Tn) (w : World) (h : SeesR tcl w A n c l) (hok : ∀ t ∈ l, okCd t.cd) (hz : n ≤ 65536) :
    Calls Try.prog 12 #[.slice A n c] w fun e w' => e = .returned (.bool (goes l)) ∧ Below w.heap.size w w' := by
  have hu := Try.underlying32
  have HS := Lib.hid h
  have HN := Lib.hid h.len
  obtain ⟨R, hR⟩ : ∃ R, R = goes l := ⟨_, rfl⟩
  rw [← hR]
  have HF0 := Lib.hid (fun k (hk : k < l.length) (e : tmay l[k] = false) => show R = false by rw [hR]; exact no_may hk e)
  have HF1 := Lib.hid (fun m (hk : m + 1 < l.length) (e : l[m + 1].sq ≤ l[m].sq) => show R = false by rw [hR]; exact no_seq hk e)
  have HF2 := Lib.hid (fun k (hk : k < l.length) u (e : lastT (l.take k) l[k].id = some u) (e2 : u.nw ≠ l[k].old) => show R = false by rw [hR]; exact no_old hk e e2)
  have HALL := Lib.hid (fun (e : goTo l l.length = true) => show R = true by rw [hR]; exact e)
  have HTU := Lib.hid (fun k (hk : k < l.length) wx => rturn_any l[k] wx (hok _ (List.getElem_mem hk)))
  have HTL := Lib.hid (fun k (hk : k < l.length) => tcl_len (hok _ (List.getElem_mem hk)))
  have HCE : Hid (∀ k, k < l.length → ∃ b o, A = some ⟨b, o, none⟩ ∧ ∀ W, Below w.heap.size w W → ∀ k (hk : k < l.length), W.cell? ⟨b, o + k * 31, none⟩ = some (.int .i64 l[k].sq) ∧ W.cell? ⟨b, o + k * 31 + 1, none⟩ = some (.int .i64 l[k].id) ∧
      W.cell? ⟨b, o + k * 31 + 2, none⟩ = some (.int .i64 l[k].old) ∧ W.cell? ⟨b, o + k * 31 + 3, none⟩ = some (.int .i64 l[k].nw) ∧ W.rangeAt b (o + k * 31) (tcl l[k])) := Lib.hid (fun k hk => by
    obtain ⟨b, o, e, _, hc⟩ := turn_cells h hok (by omega)
    exact ⟨b, o, e, fun W hW k hk => ⟨(hc W hW k hk).1, (hc W hW k hk).2.1, (hc W hW k hk).2.2.1, (hc W hW k hk).2.2.2.1, (hc W hW k hk).2.2.2.2.1⟩⟩)
  clear hR h
  go_enter Try.func12, Try.ntmps12
  go_wp2_with fail
  go_loopw [3] (fun i wr => ∃ k : Nat, k ≤ n ∧ i = .int .i64 (k : Int) ∧ Hid (goTo l k = true) ∧ Hid (Below w.heap.size w wr)) (fun i _ => n - (iOf i).toNat)
  case atStart => exact ⟨0, by omega, rfl, Lib.hid rfl, Lib.hid (Below.refl _ _)⟩
  case round =>
    obtain ⟨k, hk, rfl, HK, HB⟩ := hrel
    by_cases hlt : k < n
    · have d0 : decide ((k : Int) < (n : Int)) = true := decide_eq_true (by omega)
      have hkl : k < l.length := by rw [HN.out]; exact hlt
      obtain ⟨b, o, rfl, hcc⟩ := HCE.out k hkl
      have HCC := Lib.hid hcc
      have HNEXT : Hid (tmay l[k] = true → (k = 0 ∨ sqAt l k < l[k].sq) → (∀ u, lastT (l.take k) l[k].id = some u → u.nw = l[k].old) → goTo l (k + 1) = true) := Lib.hid (go_next hkl HK.out)
      have HNM := Lib.hid (HF0.out k hkl)
      have HNO := Lib.hid (HF2.out k hkl)
      have HNS : Hid (∀ m (hm : k = m + 1), l[k].sq ≤ (l[m]'(by omega)).sq → R = false) := Lib.hid (fun m hm e => by subst hm; exact HF1.out m hkl e)
      have HSQ : Hid (∀ m (hm : k = m + 1), (l[m]'(by omega)).sq < l[k].sq → sqAt l k < l[k].sq) := Lib.hid (fun m hm e => by subst hm; exact sq_prev hkl e)
      have HT := Lib.hid (HTU.out k hkl)
      have HTT := Lib.hid (HTL.out k hkl)
      have HBW : Hid (∀ W, Le wr W → Below w.heap.size w W) := Lib.hid (fun W hl => HB.out.trans (hl.mono HB.out.size))
      have HRG := Lib.hid (fun W hW => (hcc W hW k hkl).2.2.2.2)
      have cq : ∀ kk : LW wr, kk.val.cell? ⟨b, o + k * 31, none⟩ = some (.int .i64 l[k].sq) := fun kk => (HCC.out _ (HBW.out _ kk.le) k hkl).1
      obtain ⟨TT, hTT⟩ : ∃ TT, TT = tcl l[k] := ⟨_, rfl⟩
      rw [← hTT] at HT HTT HRG
      have HX : Hid (∃ x, x = l[k].id) := Lib.hid ⟨_, rfl⟩
      obtain ⟨q, hq⟩ : ∃ q, q = l[k].sq := ⟨_, rfl⟩
      rw [← hq] at cq HNEXT HNS HSQ
      obtain ⟨tm, htm⟩ : ∃ tm, tm = tmay l[k] := ⟨_, rfl⟩
      rw [← htm] at HT HNEXT HNM
      clear hcc hTT hq htm HF0 HF1 HF2 HTU HTL HALL HS HX
      cases tm with
      | false =>
        have HR := Lib.hid (HNM.out rfl)
        go_wp2_with fail
        refine wp_region_steady [] 63 (by kernel_rfl) (by kernel_rfl) (by kernel_rfl) (by rfl) ?_
        iterate 3 (refine wpG_quiet (by rfl) (by rfl) (by rfl) (fun K hK => ?_); go_big_quiet_op; refine hK _ ?_; clear hK K)
        refine wpG_run (by rfl) (by rfl) (.agg TT.toArray) (fun wx hl => exec_load 32 (.tmp 13) rfl b (o + k * 31) rfl TT _ (HRG.out wx (HBW.out wx hl.1)) hu rfl (by rw [HTT.out]; exact info_turn)) ?_
        simp only [Act.put, List.setIfInBounds_toArray, List.set_cons_zero, List.set_cons_succ]
        refine wpG_call (by rfl) (by rfl) 27 #[.agg TT.toArray] (.bool false) (by intro _; simp [go_sem]) (by kernel_rfl) (fun wx hl => HT.out wx) ?_
        simp only [Act.put, List.setIfInBounds_toArray, List.set_cons_zero, List.set_cons_succ]
        iterate 2 (refine wpG_quiet (by rfl) (by rfl) (by rfl) (fun K hK => ?_); go_big_quiet_op; refine hK _ ?_; clear hK K)
        iterate 16 (refine wpG_skip (by rfl) ?_; simp only [Act.put, List.setIfInBounds_toArray, List.set_cons_zero, List.set_cons_succ])
        iterate 1 (refine wpG_quiet (by rfl) (by rfl) (by rfl) (fun K hK => ?_); go_big_quiet_op; refine hK _ ?_; clear hK K)
        refine wpG_nil fun w1 hl _ => ?_
        have HB1 := Lib.hid (HBW.out w1 hl)
        clear HBW
        go_wp2_with fail
        go_ret
        exact ⟨by rw [HR.out]; rfl, HB1.out⟩
      | true =>
        by_cases h0 : k = 0
        · have d1 : decide ((0 : Int) < (k : Int)) = false := decide_eq_false (by omega)
          have d1' : decide (0 < k) = false := decide_eq_false (by omega)
          have H0 := Lib.hid h0
          clear h0
          go_wp2_with fail
          refine wp_region_steady [] 63 (by kernel_rfl) (by kernel_rfl) (by kernel_rfl) (by rfl) ?_
          iterate 3 (refine wpG_quiet (by rfl) (by rfl) (by rfl) (fun K hK => ?_); go_big_quiet_op; refine hK _ ?_; clear hK K)
          refine wpG_run (by rfl) (by rfl) (.agg TT.toArray) (fun wx hl => exec_load 32 (.tmp 13) rfl b (o + k * 31) rfl TT _ (HRG.out wx (HBW.out wx hl.1)) hu rfl (by rw [HTT.out]; exact info_turn)) ?_
          simp only [Act.put, List.setIfInBounds_toArray, List.set_cons_zero, List.set_cons_succ]
          refine wpG_call (by rfl) (by rfl) 27 #[.agg TT.toArray] (.bool true) (by intro _; simp [go_sem]) (by kernel_rfl) (fun wx hl => HT.out wx) ?_
          simp only [Act.put, List.setIfInBounds_toArray, List.set_cons_zero, List.set_cons_succ]
          iterate 5 (refine wpG_quiet (by rfl) (by rfl) (by rfl) (fun K hK => ?_); go_big_quiet_op; refine hK _ ?_; clear hK K)
          iterate 12 (refine wpG_skip (by rfl) ?_; simp only [Act.put, List.setIfInBounds_toArray, List.set_cons_zero, List.set_cons_succ])
          iterate 2 (refine wpG_quiet (by rfl) (by rfl) (by rfl) (fun K hK => ?_); go_big_quiet_op; refine hK _ ?_; clear hK K)
          refine wpG_nil fun w1 hl _ => ?_
          have HB1 := Lib.hid (HBW.out w1 hl)
          clear HBW
          have HSTEP : Hid ((∀ u, lastT (l.take k) l[k].id = some u → u.nw = l[k].old) → goTo l (k + 1) = true) := Lib.hid (HNEXT.out (by trivial) (.inl H0.out))
          have HBC : Hid (∀ W, Below w.heap.size w W → ∀ j (hj : j < l.length), W.cell? ⟨b, o + j * 31 + 1, none⟩ = some (.int .i64 l[j].id) ∧ W.cell? ⟨b, o + j * 31 + 2, none⟩ = some (.int .i64 l[j].old) ∧ W.cell? ⟨b, o + j * 31 + 3, none⟩ = some (.int .i64 l[j].nw)) := Lib.hid (fun W hW j hj => ⟨(HCC.out W hW j hj).2.1, (HCC.out W hW j hj).2.2.1, (HCC.out W hW j hj).2.2.2.1⟩)
          have HIK : Hid (∀ W, Below w.heap.size w W → W.cell? ⟨b, o + k * 31 + 1, none⟩ = some (.int .i64 l[k].id) ∧ W.cell? ⟨b, o + k * 31 + 2, none⟩ = some (.int .i64 l[k].old)) := Lib.hid (fun W hW => ⟨(HBC.out W hW k hkl).1, (HBC.out W hW k hkl).2.1⟩)
          generalize l[k].id = x at HSTEP HNO HIK
          generalize l[k].old = y at HSTEP HNO HIK
          clear HNEXT HNS HSQ HT HTT HRG HCC HCE HNM cq d1 d1'
          go_wp2_with fail
          go_loopw [4] (fun v wr => ∃ j : Nat, j ≤ k ∧ v = .int .i64 ((j : Int) - 1) ∧ Hid (lastT (l.take k) x = lastT (l.take j) x) ∧ Hid (Below w.heap.size w wr)) (fun v _ => (iOf v + 1).toNat)
          case atStart => exact ⟨k, by omega, rfl, Lib.hid rfl, HB1⟩
          case round =>
            obtain ⟨j, hj, rfl, HLJ, HBJ⟩ := hrel
            cases j with
            | zero =>
              have HG := Lib.hid (HSTEP.out (fun u hu => by rw [HLJ.out] at hu; cases hu))
              rw [show ((0 : Nat) : Int) - 1 = -1 by rfl]
              clear HSTEP HNO HBC HIK HLJ
              go_wp2_with fail
              go_roundw
              case rel => exact ⟨k + 1, by omega, by go_num, HG, HBJ⟩
              case measure => simp [iOf]; omega
            | succ m =>
              rw [show ((m + 1 : Nat) : Int) - 1 = (m : Int) by omega]
              have dm : decide (0 ≤ (m : Int)) = true := decide_eq_true (by omega)
              have hml : m < l.length := by omega
              have hmn : m < n := by omega
              have HBW : Hid (∀ W, Le wr W → Below w.heap.size w W) := Lib.hid (fun W hl => HBJ.out.trans (hl.mono HBJ.out.size))
              have ca : ∀ kk : LW wr, kk.val.cell? ⟨b, o + m * 31 + 1, none⟩ = some (.int .i64 l[m].id) := fun kk => (HBC.out _ (HBW.out _ kk.le) m hml).1
              have cb : ∀ kk : LW wr, kk.val.cell? ⟨b, o + k * 31 + 1, none⟩ = some (.int .i64 x) := fun kk => (HIK.out _ (HBW.out _ kk.le)).1
              have HLB : Hid (lastT (l.take (m + 1)) x = if l[m].id = x then some l[m] else lastT (l.take m) x) := Lib.hid (last_back hml x)
              have HNW : Hid (∀ W, Below w.heap.size w W → W.cell? ⟨b, o + m * 31 + 3, none⟩ = some (.int .i64 l[m].nw)) := Lib.hid (fun W hW => (HBC.out W hW m hml).2.2)
              have HNOM : Hid (l[m].id = x → l[m].nw ≠ y → R = false) := Lib.hid (fun e1 e2 => HNO.out l[m] (by rw [HLJ.out, HLB.out, if_pos e1]) e2)
              have HOKM : Hid (l[m].id = x → l[m].nw = y → goTo l (k + 1) = true) := Lib.hid (fun e1 e2 => HSTEP.out (fun u hu => by
                rw [HLJ.out, HLB.out, if_pos e1] at hu
                cases hu
                exact e2))
              have HGO : Hid (l[m].id ≠ x → lastT (l.take k) x = lastT (l.take m) x) := Lib.hid (fun e1 => by rw [HLJ.out, HLB.out, if_neg e1])
              generalize l[m].id = xm at ca HNOM HOKM HGO
              generalize l[m].nw = ym at HNW HNOM HOKM
              clear HSTEP HNO HBC HLB HLJ
              by_cases hx : xm = x
              · have dx : decide (xm = x) = true := decide_eq_true hx
                have dx' : (xm == x) = true := by simpa using hx
                have HNOM2 := Lib.hid (HNOM.out hx)
                have HOKM2 := Lib.hid (HOKM.out hx)
                clear HNOM HOKM HGO hx
                go_wp2_with fail
                refine wp_region_steady [] 63 (by kernel_rfl) (by kernel_rfl) (by kernel_rfl) (by rfl) ?_
                iterate 11 (refine wpG_quiet (by rfl) (by rfl) (by rfl) (fun K hK => ?_); go_big_quiet_op; refine hK _ ?_; clear hK K)
                refine wpG_nil fun w2 hl _ => ?_
                have HB2 := Lib.hid (HBW.out w2 hl)
                have HBW2 : Hid (∀ W, Le w2 W → Below w.heap.size w W) := Lib.hid (fun W hl => HB2.out.trans (hl.mono HB2.out.size))
                have cc : ∀ kk : LW w2, kk.val.cell? ⟨b, o + m * 31 + 3, none⟩ = some (.int .i64 ym) := fun kk => HNW.out _ (HBW2.out _ kk.le)
                have cd : ∀ kk : LW w2, kk.val.cell? ⟨b, o + k * 31 + 2, none⟩ = some (.int .i64 y) := fun kk => (HIK.out _ (HBW2.out _ kk.le)).2
                clear HBW ca cb HIK HNW hl
                by_cases hy : ym = y
                · have dy : decide (ym = y) = true := decide_eq_true hy
                  have dy' : (ym != y) = false := by simpa using hy
                  have HG := Lib.hid (HOKM2.out hy)
                  clear hy
                  go_wp2_with fail
                  refine wp_region_steady [] 63 (by kernel_rfl) (by kernel_rfl) (by kernel_rfl) (by rfl) ?_
                  iterate 11 (refine wpG_quiet (by rfl) (by rfl) (by rfl) (fun K hK => ?_); go_big_quiet_op; refine hK _ ?_; clear hK K)
                  refine wpG_nil fun w3 hl _ => ?_
                  have HB3 := Lib.hid (HBW2.out w3 hl)
                  clear HBW2
                  go_wp2_with fail
                  go_roundw
                  case rel => exact ⟨k + 1, by omega, by go_num, HG, HB3⟩
                  case measure => simp [iOf]; omega
                · have dy : decide (ym = y) = false := decide_eq_false hy
                  have dy' : (ym != y) = true := by simpa using hy
                  have HR := Lib.hid (HNOM2.out hy)
                  clear hy
                  go_wp2_with fail
                  refine wp_region_steady [] 63 (by kernel_rfl) (by kernel_rfl) (by kernel_rfl) (by rfl) ?_
                  iterate 11 (refine wpG_quiet (by rfl) (by rfl) (by rfl) (fun K hK => ?_); go_big_quiet_op; refine hK _ ?_; clear hK K)
                  refine wpG_nil fun w3 hl _ => ?_
                  have HB3 := Lib.hid (HBW2.out w3 hl)
                  clear HBW2
                  go_wp2_with fail
                  go_ret
                  exact ⟨by rw [HR.out]; rfl, HB3.out⟩
              · have dx : decide (xm = x) = false := decide_eq_false hx
                have dx' : (xm == x) = false := by simpa using hx
                have HGO2 := Lib.hid (HGO.out hx)
                clear HNOM HOKM HGO hx HNW
                go_wp2_with fail
                refine wp_region_steady [] 63 (by kernel_rfl) (by kernel_rfl) (by kernel_rfl) (by rfl) ?_
                iterate 11 (refine wpG_quiet (by rfl) (by rfl) (by rfl) (fun K hK => ?_); go_big_quiet_op; refine hK _ ?_; clear hK K)
                refine wpG_nil fun w2 hl _ => ?_
                have HB2 := Lib.hid (HBW.out w2 hl)
                clear HBW
                go_wp2_with fail
                go_roundw
                case rel => exact ⟨m, by omega, by go_num, HGO2, HB2⟩
                case measure => simp [iOf]
        · obtain ⟨m, hm⟩ : ∃ m, k = m + 1 := ⟨k - 1, by omega⟩
          have d1 : decide ((0 : Int) < (k : Int)) = true := decide_eq_true (by omega)
          have d1' : decide (0 < k) = true := decide_eq_true (by omega)
          obtain ⟨p, hp⟩ : ∃ p, p = (l[m]'(by omega)).sq := ⟨_, rfl⟩
          have cp : ∀ kk : LW wr, kk.val.cell? ⟨b, o + m * 31, none⟩ = some (.int .i64 p) := fun kk => by rw [hp]; exact (HCC.out _ (HBW.out _ kk.le) m (by omega)).1
          have HNS2 : Hid (q ≤ p → R = false) := Lib.hid (fun e => HNS.out m hm (by rw [← hp]; exact e))
          have HSQ2 : Hid (p < q → sqAt l k < q) := Lib.hid (fun e => HSQ.out m hm (by rw [← hp]; exact e))
          have km : (k : Int) - 1 = (m : Int) := by omega
          have hmn : m < n := by omega
          clear hp hm h0
          by_cases h4 : q ≤ p
          · have d4 : decide (q ≤ p) = true := decide_eq_true h4
            have HR := Lib.hid (HNS2.out h4)
            clear h4
            go_wp2_with fail
            refine wp_region_steady [] 63 (by kernel_rfl) (by kernel_rfl) (by kernel_rfl) (by rfl) ?_
            iterate 3 (refine wpG_quiet (by rfl) (by rfl) (by rfl) (fun K hK => ?_); go_big_quiet_op; refine hK _ ?_; clear hK K)
            refine wpG_run (by rfl) (by rfl) (.agg TT.toArray) (fun wx hl => exec_load 32 (.tmp 13) rfl b (o + k * 31) rfl TT _ (HRG.out wx (HBW.out wx hl.1)) hu rfl (by rw [HTT.out]; exact info_turn)) ?_
            simp only [Act.put, List.setIfInBounds_toArray, List.set_cons_zero, List.set_cons_succ]
            refine wpG_call (by rfl) (by rfl) 27 #[.agg TT.toArray] (.bool true) (by intro _; simp [go_sem]) (by kernel_rfl) (fun wx hl => HT.out wx) ?_
            simp only [Act.put, List.setIfInBounds_toArray, List.set_cons_zero, List.set_cons_succ]
            iterate 19 (refine wpG_quiet (by rfl) (by rfl) (by rfl) (fun K hK => ?_); go_big_quiet_op; refine hK _ ?_; clear hK K)
            refine wpG_nil fun w1 hl _ => ?_
            have HB1 := Lib.hid (HBW.out w1 hl)
            clear HBW
            go_wp2_with fail
            go_ret
            exact ⟨by rw [HR.out]; rfl, HB1.out⟩
          · have d4 : decide (q ≤ p) = false := decide_eq_false h4
            have HQP := Lib.hid (HSQ2.out (by omega))
            clear h4
            go_wp2_with fail
            refine wp_region_steady [] 63 (by kernel_rfl) (by kernel_rfl) (by kernel_rfl) (by rfl) ?_
            iterate 3 (refine wpG_quiet (by rfl) (by rfl) (by rfl) (fun K hK => ?_); go_big_quiet_op; refine hK _ ?_; clear hK K)
            refine wpG_run (by rfl) (by rfl) (.agg TT.toArray) (fun wx hl => exec_load 32 (.tmp 13) rfl b (o + k * 31) rfl TT _ (HRG.out wx (HBW.out wx hl.1)) hu rfl (by rw [HTT.out]; exact info_turn)) ?_
            simp only [Act.put, List.setIfInBounds_toArray, List.set_cons_zero, List.set_cons_succ]
            refine wpG_call (by rfl) (by rfl) 27 #[.agg TT.toArray] (.bool true) (by intro _; simp [go_sem]) (by kernel_rfl) (fun wx hl => HT.out wx) ?_
            simp only [Act.put, List.setIfInBounds_toArray, List.set_cons_zero, List.set_cons_succ]
            iterate 19 (refine wpG_quiet (by rfl) (by rfl) (by rfl) (fun K hK => ?_); go_big_quiet_op; refine hK _ ?_; clear hK K)
            refine wpG_nil fun w1 hl _ => ?_
            have HB1 := Lib.hid (HBW.out w1 hl)
            clear HBW
            have HSTEP : Hid ((∀ u, lastT (l.take k) l[k].id = some u → u.nw = l[k].old) → goTo l (k + 1) = true) := Lib.hid (HNEXT.out (by trivial) (.inr HQP.out))
            have HBC : Hid (∀ W, Below w.heap.size w W → ∀ j (hj : j < l.length), W.cell? ⟨b, o + j * 31 + 1, none⟩ = some (.int .i64 l[j].id) ∧ W.cell? ⟨b, o + j * 31 + 2, none⟩ = some (.int .i64 l[j].old) ∧ W.cell? ⟨b, o + j * 31 + 3, none⟩ = some (.int .i64 l[j].nw)) := Lib.hid (fun W hW j hj => ⟨(HCC.out W hW j hj).2.1, (HCC.out W hW j hj).2.2.1, (HCC.out W hW j hj).2.2.2.1⟩)
            have HIK : Hid (∀ W, Below w.heap.size w W → W.cell? ⟨b, o + k * 31 + 1, none⟩ = some (.int .i64 l[k].id) ∧ W.cell? ⟨b, o + k * 31 + 2, none⟩ = some (.int .i64 l[k].old)) := Lib.hid (fun W hW => ⟨(HBC.out W hW k hkl).1, (HBC.out W hW k hkl).2.1⟩)
            generalize l[k].id = x at HSTEP HNO HIK
            generalize l[k].old = y at HSTEP HNO HIK
            clear HNEXT HNS HSQ HT HTT HRG HCC HCE HNM cq cp d1 d1' d4 km hmn HNS2 HSQ2
            go_wp2_with fail
            go_loopw [4] (fun v wr => ∃ j : Nat, j ≤ k ∧ v = .int .i64 ((j : Int) - 1) ∧ Hid (lastT (l.take k) x = lastT (l.take j) x) ∧ Hid (Below w.heap.size w wr)) (fun v _ => (iOf v + 1).toNat)
            case atStart => exact ⟨k, by omega, rfl, Lib.hid rfl, HB1⟩
            case round =>
              obtain ⟨j, hj, rfl, HLJ, HBJ⟩ := hrel
              cases j with
              | zero =>
                have HG := Lib.hid (HSTEP.out (fun u hu => by rw [HLJ.out] at hu; cases hu))
                rw [show ((0 : Nat) : Int) - 1 = -1 by rfl]
                clear HSTEP HNO HBC HIK HLJ
                go_wp2_with fail
                go_roundw
                case rel => exact ⟨k + 1, by omega, by go_num, HG, HBJ⟩
                case measure => simp [iOf]; omega
              | succ m =>
                rw [show ((m + 1 : Nat) : Int) - 1 = (m : Int) by omega]
                have dm : decide (0 ≤ (m : Int)) = true := decide_eq_true (by omega)
                have hml : m < l.length := by omega
                have hmn : m < n := by omega
                have HBW : Hid (∀ W, Le wr W → Below w.heap.size w W) := Lib.hid (fun W hl => HBJ.out.trans (hl.mono HBJ.out.size))
                have ca : ∀ kk : LW wr, kk.val.cell? ⟨b, o + m * 31 + 1, none⟩ = some (.int .i64 l[m].id) := fun kk => (HBC.out _ (HBW.out _ kk.le) m hml).1
                have cb : ∀ kk : LW wr, kk.val.cell? ⟨b, o + k * 31 + 1, none⟩ = some (.int .i64 x) := fun kk => (HIK.out _ (HBW.out _ kk.le)).1
                have HLB : Hid (lastT (l.take (m + 1)) x = if l[m].id = x then some l[m] else lastT (l.take m) x) := Lib.hid (last_back hml x)
                have HNW : Hid (∀ W, Below w.heap.size w W → W.cell? ⟨b, o + m * 31 + 3, none⟩ = some (.int .i64 l[m].nw)) := Lib.hid (fun W hW => (HBC.out W hW m hml).2.2)
                have HNOM : Hid (l[m].id = x → l[m].nw ≠ y → R = false) := Lib.hid (fun e1 e2 => HNO.out l[m] (by rw [HLJ.out, HLB.out, if_pos e1]) e2)
                have HOKM : Hid (l[m].id = x → l[m].nw = y → goTo l (k + 1) = true) := Lib.hid (fun e1 e2 => HSTEP.out (fun u hu => by
                  rw [HLJ.out, HLB.out, if_pos e1] at hu
                  cases hu
                  exact e2))
                have HGO : Hid (l[m].id ≠ x → lastT (l.take k) x = lastT (l.take m) x) := Lib.hid (fun e1 => by rw [HLJ.out, HLB.out, if_neg e1])
                generalize l[m].id = xm at ca HNOM HOKM HGO
                generalize l[m].nw = ym at HNW HNOM HOKM
                clear HSTEP HNO HBC HLB HLJ
                by_cases hx : xm = x
                · have dx : decide (xm = x) = true := decide_eq_true hx
                  have dx' : (xm == x) = true := by simpa using hx
                  have HNOM2 := Lib.hid (HNOM.out hx)
                  have HOKM2 := Lib.hid (HOKM.out hx)
                  clear HNOM HOKM HGO hx
                  go_wp2_with fail
                  refine wp_region_steady [] 63 (by kernel_rfl) (by kernel_rfl) (by kernel_rfl) (by rfl) ?_
                  iterate 11 (refine wpG_quiet (by rfl) (by rfl) (by rfl) (fun K hK => ?_); go_big_quiet_op; refine hK _ ?_; clear hK K)
                  refine wpG_nil fun w2 hl _ => ?_
                  have HB2 := Lib.hid (HBW.out w2 hl)
                  have HBW2 : Hid (∀ W, Le w2 W → Below w.heap.size w W) := Lib.hid (fun W hl => HB2.out.trans (hl.mono HB2.out.size))
                  have cc : ∀ kk : LW w2, kk.val.cell? ⟨b, o + m * 31 + 3, none⟩ = some (.int .i64 ym) := fun kk => HNW.out _ (HBW2.out _ kk.le)
                  have cd : ∀ kk : LW w2, kk.val.cell? ⟨b, o + k * 31 + 2, none⟩ = some (.int .i64 y) := fun kk => (HIK.out _ (HBW2.out _ kk.le)).2
                  clear HBW ca cb HIK HNW hl
                  by_cases hy : ym = y
                  · have dy : decide (ym = y) = true := decide_eq_true hy
                    have dy' : (ym != y) = false := by simpa using hy
                    have HG := Lib.hid (HOKM2.out hy)
                    clear hy
                    go_wp2_with fail
                    refine wp_region_steady [] 63 (by kernel_rfl) (by kernel_rfl) (by kernel_rfl) (by rfl) ?_
                    iterate 11 (refine wpG_quiet (by rfl) (by rfl) (by rfl) (fun K hK => ?_); go_big_quiet_op; refine hK _ ?_; clear hK K)
                    refine wpG_nil fun w3 hl _ => ?_
                    have HB3 := Lib.hid (HBW2.out w3 hl)
                    clear HBW2
                    go_wp2_with fail
                    go_roundw
                    case rel => exact ⟨k + 1, by omega, by go_num, HG, HB3⟩
                    case measure => simp [iOf]; omega
                  · have dy : decide (ym = y) = false := decide_eq_false hy
                    have dy' : (ym != y) = true := by simpa using hy
                    have HR := Lib.hid (HNOM2.out hy)
                    clear hy
                    go_wp2_with fail
                    refine wp_region_steady [] 63 (by kernel_rfl) (by kernel_rfl) (by kernel_rfl) (by rfl) ?_
                    iterate 11 (refine wpG_quiet (by rfl) (by rfl) (by rfl) (fun K hK => ?_); go_big_quiet_op; refine hK _ ?_; clear hK K)
                    refine wpG_nil fun w3 hl _ => ?_
                    have HB3 := Lib.hid (HBW2.out w3 hl)
                    clear HBW2
                    go_wp2_with fail
                    go_ret
                    exact ⟨by rw [HR.out]; rfl, HB3.out⟩
                · have dx : decide (xm = x) = false := decide_eq_false hx
                  have dx' : (xm == x) = false := by simpa using hx
                  have HGO2 := Lib.hid (HGO.out hx)
                  clear HNOM HOKM HGO hx HNW
                  go_wp2_with fail
                  refine wp_region_steady [] 63 (by kernel_rfl) (by kernel_rfl) (by kernel_rfl) (by rfl) ?_
                  iterate 11 (refine wpG_quiet (by rfl) (by rfl) (by rfl) (fun K hK => ?_); go_big_quiet_op; refine hK _ ?_; clear hK K)
                  refine wpG_nil fun w2 hl _ => ?_
                  have HB2 := Lib.hid (HBW.out w2 hl)
                  clear HBW
                  go_wp2_with fail
                  go_roundw
                  case rel => exact ⟨m, by omega, by go_num, HGO2, HB2⟩
                  case measure => simp [iOf]
    · obtain rfl : k = n := by omega
      have HR := Lib.hid (HALL.out (by rw [HN.out]; exact HK.out))
      clear HF0 HF1 HF2 HALL HTU HTL HCE HS
      go_wp2_with fail
      go_ret
      exact ⟨by rw [HR.out]; rfl, HB.out⟩
end Go.Proofs.Ytepefocpeeihdaa

/- What turns come to: the document's Net. -/
namespace Go.Proofs.Ytepefocpeeihdaa
set_option linter.unusedVariables false
set_option linter.unusedSimpArgs false
open Go Go.RowKit BitM

theorem okCd_itm {t : Tn} (h : okCd t.cd) : okCd (itm t).cd := by
  unfold itm
  split
  · exact h
  · split
    · rfl
    · exact h
/-- A slice of items that is seen is given back. -/
def GivesS (w : World) (L : List Im) (e : Ending) (w' : World) : Prop :=
  ∃ A' c', e = .returned (.slice A' L.length c') ∧ SeesR icl w' A' L.length c' L ∧ Below w.heap.size w w'
theorem row_capi {w : World} {base : Nat} {e : TypeId} {size n c : Nat} {A : Option Addr} {xs : List Value} (h : w.ownsRow base e size (.slice A n c) n xs) : n ≤ c ∧ c ≤ maxLen := by
  rcases h.2 with ⟨e, h0⟩ | ⟨g, cap, cur, e, hx⟩
  · cases e; exact ⟨by omega, by simp [maxLen]⟩
  · cases e; exact ⟨hx.2.2.1, hx.2.2.2.1⟩
/-- The items so far, as they lie amid Net. -/
def NetIn (w : World) (g m c : Nat) (L : List Im) : Prop := SeesR icl w (some ⟨g, 0, none⟩) m c L
theorem NetIn.later {w w' : World} {g m c : Nat} {L : List Im} (h : NetIn w g m c L) (hb : Below w.heap.size w w') : NetIn w' g m c L := SeesR.later h hb
end Go.Proofs.Ytepefocpeeihdaa
