/- Turns and cards that fit: the law's Fits. -/
import Derived.Test.YtcdmbidggikmfaaD8
import Derived.Test.YtcdmbidggikmfaaD4
import Derived.Test.YtcdmbidggikmfaaD5
import Derived.Test.YtcdmbidggikmfaaD9
import Derived.Test.YtcdmbidggikmfaaD7
namespace Go.Proofs.Ytcdmbidggikmfaa
set_option linter.unusedVariables false
set_option linter.unusedSimpArgs false
open Go Go.RowKit BitM

set_option maxRecDepth 100000 in
set_option maxHeartbeats 12800000 in
theorem fits_any (A : Option Addr) (n c : Nat) (cs : List Cd) (B : Option Addr) (m d : Nat) (l : List Tn) (w : World) (h : SeesR ccl w A n c cs) (hokc : ∀ y ∈ cs, okCd y) (hri : CRise cs) (h2 : SeesR tcl w B m d l) (hok : ∀ t ∈ l, okCd t.cd) (hz : n ≤ 60000) (hz2 : m ≤ 60000) :
    Calls Try.prog 17 #[.slice A n c, .slice B m d] w fun e w' => ∃ R : Bool, e = .returned (.bool R) ∧ (R = true → ∀ i (hi : i < l.length), FitAt cs l i hi) ∧ Below w.heap.size w w' := by
  have huc := Try.underlying43
  have HN := Lib.hid h.len
  have HM := Lib.hid h2.len
  have HVER := Lib.hid (fun k (hk : k < cs.length) i => ver_take hri hk i)
  have HTE : Hid (∀ k, k < l.length → ∃ b o, B = some ⟨b, o, none⟩ ∧ ∀ W, Below w.heap.size w W → ∀ k (hk : k < l.length), W.cell? ⟨b, o + k * 31 + 1, none⟩ = some (.int .i64 l[k].id) ∧ W.cell? ⟨b, o + k * 31 + 2, none⟩ = some (.int .i64 l[k].old) ∧ W.cell? ⟨b, o + k * 31 + 3, none⟩ = some (.int .i64 l[k].nw) ∧ W.rangeAt b (o + k * 31 + 4) (ccl l[k].cd)) := Lib.hid (fun k hk => by
    obtain ⟨b, o, e, _, hc⟩ := turn_cells h2 hok (by omega)
    exact ⟨b, o, e, fun W hW k hk => ⟨(hc W hW k hk).2.1, (hc W hW k hk).2.2.1, (hc W hW k hk).2.2.2.1, (hc W hW k hk).2.2.2.2.2⟩⟩)
  have HCE : Hid (∀ k, k < cs.length → ∃ b o, A = some ⟨b, o, none⟩ ∧ ∀ W, Below w.heap.size w W → ∀ k (hk : k < cs.length), W.cell? ⟨b, o + k * 27, none⟩ = some (.int .i64 cs[k].1) ∧ W.cell? ⟨b, o + k * 27 + 1, none⟩ = some (.int .i64 cs[k].2.1) ∧ W.rangeAt b (o + k * 27) (ccl cs[k])) := Lib.hid (fun k hk => by
    obtain ⟨b, o, e, _, hc⟩ := card_cells h hokc (by omega)
    exact ⟨b, o, e, fun W hW k hk => ⟨(hc W hW k hk).1, (hc W hW k hk).2.1, (hc W hW k hk).2.2.1⟩⟩)
  have HOK := Lib.hid hok
  have HOKC := Lib.hid hokc
  clear h h2 hok hokc hri
  go_enter Try.func17, Try.ntmps17
  go_wp2_with fail
  go_loopw [5] (fun i wr => ∃ k : Nat, k ≤ m ∧ i = .int .i64 (k : Int) ∧ Hid (∀ j (hj : j < k) (hj2 : j < l.length), FitAt cs l j hj2) ∧ Hid (Below w.heap.size w wr)) (fun i _ => m - (iOf i).toNat)
  case atStart => exact ⟨0, by omega, rfl, Lib.hid (fun j hj => by omega), Lib.hid (Below.refl _ _)⟩
  case round =>
    obtain ⟨k, hk, rfl, HF, HB⟩ := hrel
    by_cases hlt : k < m
    · have d0 : decide ((k : Int) < (m : Int)) = true := decide_eq_true (by omega)
      have hkl : k < l.length := by rw [HM.out]; exact hlt
      obtain ⟨b, o, rfl, hcc⟩ := HTE.out k hkl
      have HCC := Lib.hid hcc
      have HCK : Hid (∀ W, Below w.heap.size w W → W.cell? ⟨b, o + k * 31 + 1, none⟩ = some (.int .i64 l[k].id) ∧ W.cell? ⟨b, o + k * 31 + 2, none⟩ = some (.int .i64 l[k].old) ∧ W.cell? ⟨b, o + k * 31 + 3, none⟩ = some (.int .i64 l[k].nw) ∧ W.rangeAt b (o + k * 31 + 4) (ccl l[k].cd)) := Lib.hid (fun W hW => hcc W hW k hkl)
      have HOKK := Lib.hid (HOK.out _ (List.getElem_mem hkl))
      have HEND : Hid (∀ (x y z : Int) (u : Cd), x = l[k].id → y = l[k].old → z = l[k].nw → u = l[k].cd → (∀ j (hj : j < k), (l[j]'(by omega)).id = x → (l[j]'(by omega)).nw = z → (l[j]'(by omega)).cd = u) → (∀ c ∈ cs, c.1 = x → c.2.1 = z → c = u) → ((∀ j (hj : j < k), (l[j]'(by omega)).id ≠ x) → verOf (kget (toKV cs) x) = y) → ∀ j (hj : j < k + 1) (hj2 : j < l.length), FitAt cs l j hj2) := Lib.hid (fun x y z u ex ey ez eu h1 h2 h3 j hj hj2 => by
        by_cases e : j = k
        · subst e ex ey ez eu
          exact ⟨fun k hk => h1 k hk, h2, h3⟩
        · exact HF.out j (by omega) hj2)
      have HE := Lib.hid (HEND.out _ _ _ _ rfl rfl rfl rfl)
      generalize l[k].id = x at HCK HE
      generalize l[k].old = y at HCK HE
      generalize l[k].nw = z at HCK HE
      generalize l[k].cd = u at HCK HOKK HE
      have HUL := Lib.hid (ccl_len HOKK.out)
      clear hcc HEND HF
      go_wp2_with fail
      go_loopw [6, 7] (fun kn i wr => ∃ (q : Nat) (kb : Bool), q ≤ k ∧ kn = .bool kb ∧ i = .int .i64 (q : Int) ∧ Hid (kb = true → ∃ j, ∃ (hj : j < q) (hj2 : j < l.length), l[j].id = x) ∧ Hid (∀ j (hj : j < q) (hj2 : j < l.length), l[j].id = x → l[j].nw = z → l[j].cd = u) ∧ Hid (Below w.heap.size w wr)) (fun _ i _ => k - (iOf i).toNat)
      case atStart => exact ⟨0, false, by omega, rfl, rfl, Lib.hid (fun e => by cases e), Lib.hid (fun j hj => by omega), HB⟩
      case round =>
        clear HB
        obtain ⟨q, kb, hq, rfl, rfl, HKB, HQA, HB⟩ := hrel
        by_cases hqk : q < k
        · have d1 : decide ((q : Int) < (k : Int)) = true := decide_eq_true (by omega)
          have hql : q < l.length := by omega
          have hqm : q < m := by omega
          have HQ4 : Hid (∀ W, Below w.heap.size w W → W.cell? ⟨b, o + q * 31 + 1, none⟩ = some (.int .i64 l[q].id) ∧ W.cell? ⟨b, o + q * 31 + 2, none⟩ = some (.int .i64 l[q].old) ∧ W.cell? ⟨b, o + q * 31 + 3, none⟩ = some (.int .i64 l[q].nw) ∧ W.rangeAt b (o + q * 31 + 4) (ccl l[q].cd)) := Lib.hid (fun W hW => HCC.out W hW q hql)
          have HOKQ := Lib.hid (HOK.out _ (List.getElem_mem hql))
          have HEQ := Lib.hid (fun wx : World => eq_ccl l[q].cd u HOKQ.out HOKK.out wx)
          have HVL := Lib.hid (ccl_len HOKQ.out)
          have HK1 : Hid (l[q].id = x → ∃ j, ∃ (hj : j < q + 1) (hj2 : j < l.length), l[j].id = x) := Lib.hid (fun e => ⟨q, by omega, hql, e⟩)
          have HK2 : Hid (kb = true → ∃ j, ∃ (hj : j < q + 1) (hj2 : j < l.length), l[j].id = x) := Lib.hid (fun e => by
            obtain ⟨j, h1, h2, h3⟩ := HKB.out e
            exact ⟨j, by omega, h2, h3⟩)
          have HA1 : Hid ((l[q].id = x → l[q].nw = z → l[q].cd = u) → ∀ j (hj : j < q + 1) (hj2 : j < l.length), l[j].id = x → l[j].nw = z → l[j].cd = u) := Lib.hid (fun e j hj hj2 => by
            by_cases e2 : j = q
            · subst e2; exact e
            · exact HQA.out j (by omega) hj2)
          generalize l[q].id = x1 at HQ4 HK1 HA1
          generalize l[q].nw = z1 at HQ4 HA1
          generalize l[q].cd = u1 at HQ4 HEQ HVL HOKQ HA1
          have HBW : Hid (∀ W, Le wr W → Below w.heap.size w W) := Lib.hid (fun W hl => HB.out.trans (hl.mono HB.out.size))
          have ca : ∀ kk : LW wr, kk.val.cell? ⟨b, o + q * 31 + 1, none⟩ = some (.int .i64 x1) := fun kk => (HQ4.out _ (HBW.out _ kk.le)).1
          have cb : ∀ kk : LW wr, kk.val.cell? ⟨b, o + k * 31 + 1, none⟩ = some (.int .i64 x) := fun kk => (HCK.out _ (HBW.out _ kk.le)).1
          clear HKB HQA HCC HTE HE HVER HCE
          cases kb with
          | true =>
            by_cases hx : x1 = x
            · have dx : decide (x1 = x) = true := decide_eq_true hx
              have dx' : (x1 == x) = true := by simpa using hx
              have HKX := Lib.hid (HK1.out hx)
              have HA2 : Hid ((z1 = z → u1 = u) → ∀ j (hj : j < q + 1) (hj2 : j < l.length), l[j].id = x → l[j].nw = z → l[j].cd = u) := Lib.hid (fun e => HA1.out (fun _ => e))
              clear hx HA1 HK1
              by_cases hy : z1 = z
              · have dy : decide (z1 = z) = true := decide_eq_true hy
                have dy' : (z1 == z) = true := by simpa using hy
                clear hy
                cases hce : decide (u1 = u) with
                | true =>
                  rw [hce] at HEQ
                  have HG := Lib.hid (HA2.out (fun _ => of_decide_eq_true hce))
                  clear hce HA2
                  go_wp2_with fail
                  refine wp_region_steady [] 124 (by kernel_rfl) (by kernel_rfl) (by kernel_rfl) (by rfl) ?_
                  iterate 2 (refine wpG_quiet (by rfl) (by rfl) (by rfl) (fun K hK => ?_); go_big_quiet_op; refine hK _ ?_; clear hK K)
                  iterate 11 (refine wpG_skip (by rfl) ?_; simp only [Act.put, List.setIfInBounds_toArray, List.set_cons_zero, List.set_cons_succ])
                  iterate 2 (refine wpG_quiet (by rfl) (by rfl) (by rfl) (fun K hK => ?_); go_big_quiet_op; refine hK _ ?_; clear hK K)
                  refine wpG_nil fun w2 hl _ => ?_
                  have HB2 := Lib.hid (HBW.out w2 hl)
                  have HBW2 : Hid (∀ W, Le w2 W → Below w.heap.size w W) := Lib.hid (fun W hl => HB2.out.trans (hl.mono HB2.out.size))
                  clear HBW ca cb hl
                  have ca : ∀ kk : LW w2, kk.val.cell? ⟨b, o + q * 31 + 1, none⟩ = some (.int .i64 x1) := fun kk => (HQ4.out _ (HBW2.out _ kk.le)).1
                  have cb : ∀ kk : LW w2, kk.val.cell? ⟨b, o + k * 31 + 1, none⟩ = some (.int .i64 x) := fun kk => (HCK.out _ (HBW2.out _ kk.le)).1
                  have cc : ∀ kk : LW w2, kk.val.cell? ⟨b, o + q * 31 + 3, none⟩ = some (.int .i64 z1) := fun kk => (HQ4.out _ (HBW2.out _ kk.le)).2.2.1
                  have cd : ∀ kk : LW w2, kk.val.cell? ⟨b, o + k * 31 + 3, none⟩ = some (.int .i64 z) := fun kk => (HCK.out _ (HBW2.out _ kk.le)).2.2.1
                  go_wp2_with fail
                  refine wp_region_steady [] 124 (by kernel_rfl) (by kernel_rfl) (by kernel_rfl) (by rfl) ?_
                  iterate 29 (refine wpG_quiet (by rfl) (by rfl) (by rfl) (fun K hK => ?_); go_big_quiet_op; refine hK _ ?_; clear hK K)
                  refine wpG_run (by rfl) (by rfl) (.agg (ccl u1).toArray) (fun wx hl => exec_load 43 (.tmp 63) rfl b (o + q * 31 + 4) rfl (ccl u1) _ (HQ4.out wx (HBW2.out wx hl.1)).2.2.2 huc rfl (by rw [HVL.out]; exact info_card)) ?_
                  simp only [Act.put, List.setIfInBounds_toArray, List.set_cons_zero, List.set_cons_succ]
                  iterate 4 (refine wpG_quiet (by rfl) (by rfl) (by rfl) (fun K hK => ?_); go_big_quiet_op; refine hK _ ?_; clear hK K)
                  refine wpG_run (by rfl) (by rfl) (.agg (ccl u).toArray) (fun wx hl => exec_load 43 (.tmp 68) rfl b (o + k * 31 + 4) rfl (ccl u) _ (HCK.out wx (HBW2.out wx hl.1)).2.2.2 huc rfl (by rw [HUL.out]; exact info_card)) ?_
                  simp only [Act.put, List.setIfInBounds_toArray, List.set_cons_zero, List.set_cons_succ]
                  refine wpG_run (by rfl) (by rfl) (.bool (!true)) (fun wx hl => exec_neq 43 _ (.tmp 64) (.tmp 69) rfl _ _ rfl rfl guard_card true (HEQ.out wx)) ?_
                  simp only [Act.put, List.setIfInBounds_toArray, List.set_cons_zero, List.set_cons_succ]
                  simp only [Bool.not_true, Bool.not_false]
                  iterate 1 (refine wpG_quiet (by rfl) (by rfl) (by rfl) (fun K hK => ?_); go_big_quiet_op; refine hK _ ?_; clear hK K)
                  refine wpG_nil fun w3 hl _ => ?_
                  have HB3 := Lib.hid (HBW2.out w3 hl)
                  clear ca cb cc cd hl
                  clear HBW2
                  go_wp2_with fail
                  go_roundw
                  case rel => exact ⟨q + 1, true, by omega, rfl, by go_num, Lib.hid (fun _ => HK2.out (by trivial)), HG, HB3⟩
                  case measure => simp [iOf]; omega
                | false =>
                  rw [hce] at HEQ
                  clear hce HA2
                  go_wp2_with fail
                  refine wp_region_steady [] 124 (by kernel_rfl) (by kernel_rfl) (by kernel_rfl) (by rfl) ?_
                  iterate 2 (refine wpG_quiet (by rfl) (by rfl) (by rfl) (fun K hK => ?_); go_big_quiet_op; refine hK _ ?_; clear hK K)
                  iterate 11 (refine wpG_skip (by rfl) ?_; simp only [Act.put, List.setIfInBounds_toArray, List.set_cons_zero, List.set_cons_succ])
                  iterate 2 (refine wpG_quiet (by rfl) (by rfl) (by rfl) (fun K hK => ?_); go_big_quiet_op; refine hK _ ?_; clear hK K)
                  refine wpG_nil fun w2 hl _ => ?_
                  have HB2 := Lib.hid (HBW.out w2 hl)
                  have HBW2 : Hid (∀ W, Le w2 W → Below w.heap.size w W) := Lib.hid (fun W hl => HB2.out.trans (hl.mono HB2.out.size))
                  clear HBW ca cb hl
                  have ca : ∀ kk : LW w2, kk.val.cell? ⟨b, o + q * 31 + 1, none⟩ = some (.int .i64 x1) := fun kk => (HQ4.out _ (HBW2.out _ kk.le)).1
                  have cb : ∀ kk : LW w2, kk.val.cell? ⟨b, o + k * 31 + 1, none⟩ = some (.int .i64 x) := fun kk => (HCK.out _ (HBW2.out _ kk.le)).1
                  have cc : ∀ kk : LW w2, kk.val.cell? ⟨b, o + q * 31 + 3, none⟩ = some (.int .i64 z1) := fun kk => (HQ4.out _ (HBW2.out _ kk.le)).2.2.1
                  have cd : ∀ kk : LW w2, kk.val.cell? ⟨b, o + k * 31 + 3, none⟩ = some (.int .i64 z) := fun kk => (HCK.out _ (HBW2.out _ kk.le)).2.2.1
                  go_wp2_with fail
                  refine wp_region_steady [] 124 (by kernel_rfl) (by kernel_rfl) (by kernel_rfl) (by rfl) ?_
                  iterate 29 (refine wpG_quiet (by rfl) (by rfl) (by rfl) (fun K hK => ?_); go_big_quiet_op; refine hK _ ?_; clear hK K)
                  refine wpG_run (by rfl) (by rfl) (.agg (ccl u1).toArray) (fun wx hl => exec_load 43 (.tmp 63) rfl b (o + q * 31 + 4) rfl (ccl u1) _ (HQ4.out wx (HBW2.out wx hl.1)).2.2.2 huc rfl (by rw [HVL.out]; exact info_card)) ?_
                  simp only [Act.put, List.setIfInBounds_toArray, List.set_cons_zero, List.set_cons_succ]
                  iterate 4 (refine wpG_quiet (by rfl) (by rfl) (by rfl) (fun K hK => ?_); go_big_quiet_op; refine hK _ ?_; clear hK K)
                  refine wpG_run (by rfl) (by rfl) (.agg (ccl u).toArray) (fun wx hl => exec_load 43 (.tmp 68) rfl b (o + k * 31 + 4) rfl (ccl u) _ (HCK.out wx (HBW2.out wx hl.1)).2.2.2 huc rfl (by rw [HUL.out]; exact info_card)) ?_
                  simp only [Act.put, List.setIfInBounds_toArray, List.set_cons_zero, List.set_cons_succ]
                  refine wpG_run (by rfl) (by rfl) (.bool (!false)) (fun wx hl => exec_neq 43 _ (.tmp 64) (.tmp 69) rfl _ _ rfl rfl guard_card false (HEQ.out wx)) ?_
                  simp only [Act.put, List.setIfInBounds_toArray, List.set_cons_zero, List.set_cons_succ]
                  simp only [Bool.not_true, Bool.not_false]
                  iterate 1 (refine wpG_quiet (by rfl) (by rfl) (by rfl) (fun K hK => ?_); go_big_quiet_op; refine hK _ ?_; clear hK K)
                  refine wpG_nil fun w3 hl _ => ?_
                  have HB3 := Lib.hid (HBW2.out w3 hl)
                  clear ca cb cc cd hl
                  clear HBW2
                  go_wp2_with fail
                  go_ret
                  exact ⟨false, rfl, (fun e => by cases e), HB3.out⟩
              · have dy : decide (z1 = z) = false := decide_eq_false hy
                have dy' : (z1 == z) = false := by simpa using hy
                have HG := Lib.hid (HA2.out (fun e => absurd e hy))
                clear hy HA2
                go_wp2_with fail
                refine wp_region_steady [] 124 (by kernel_rfl) (by kernel_rfl) (by kernel_rfl) (by rfl) ?_
                iterate 2 (refine wpG_quiet (by rfl) (by rfl) (by rfl) (fun K hK => ?_); go_big_quiet_op; refine hK _ ?_; clear hK K)
                iterate 11 (refine wpG_skip (by rfl) ?_; simp only [Act.put, List.setIfInBounds_toArray, List.set_cons_zero, List.set_cons_succ])
                iterate 2 (refine wpG_quiet (by rfl) (by rfl) (by rfl) (fun K hK => ?_); go_big_quiet_op; refine hK _ ?_; clear hK K)
                refine wpG_nil fun w2 hl _ => ?_
                have HB2 := Lib.hid (HBW.out w2 hl)
                have HBW2 : Hid (∀ W, Le w2 W → Below w.heap.size w W) := Lib.hid (fun W hl => HB2.out.trans (hl.mono HB2.out.size))
                clear HBW ca cb hl
                have ca : ∀ kk : LW w2, kk.val.cell? ⟨b, o + q * 31 + 1, none⟩ = some (.int .i64 x1) := fun kk => (HQ4.out _ (HBW2.out _ kk.le)).1
                have cb : ∀ kk : LW w2, kk.val.cell? ⟨b, o + k * 31 + 1, none⟩ = some (.int .i64 x) := fun kk => (HCK.out _ (HBW2.out _ kk.le)).1
                have cc : ∀ kk : LW w2, kk.val.cell? ⟨b, o + q * 31 + 3, none⟩ = some (.int .i64 z1) := fun kk => (HQ4.out _ (HBW2.out _ kk.le)).2.2.1
                have cd : ∀ kk : LW w2, kk.val.cell? ⟨b, o + k * 31 + 3, none⟩ = some (.int .i64 z) := fun kk => (HCK.out _ (HBW2.out _ kk.le)).2.2.1
                go_wp2_with fail
                refine wp_region_steady [] 124 (by kernel_rfl) (by kernel_rfl) (by kernel_rfl) (by rfl) ?_
                iterate 25 (refine wpG_quiet (by rfl) (by rfl) (by rfl) (fun K hK => ?_); go_big_quiet_op; refine hK _ ?_; clear hK K)
                iterate 11 (refine wpG_skip (by rfl) ?_; simp only [Act.put, List.setIfInBounds_toArray, List.set_cons_zero, List.set_cons_succ])
                iterate 1 (refine wpG_quiet (by rfl) (by rfl) (by rfl) (fun K hK => ?_); go_big_quiet_op; refine hK _ ?_; clear hK K)
                refine wpG_nil fun w3 hl _ => ?_
                have HB3 := Lib.hid (HBW2.out w3 hl)
                clear ca cb cc cd hl
                clear HBW2
                go_wp2_with fail
                go_roundw
                case rel => exact ⟨q + 1, true, by omega, rfl, by go_num, Lib.hid (fun _ => HK2.out (by trivial)), HG, HB3⟩
                case measure => simp [iOf]; omega
            · have dx : decide (x1 = x) = false := decide_eq_false hx
              have dx' : (x1 == x) = false := by simpa using hx
              have HG := Lib.hid (HA1.out (fun e => absurd e hx))
              clear hx HA1 HK1
              go_wp2_with fail
              refine wp_region_steady [] 124 (by kernel_rfl) (by kernel_rfl) (by kernel_rfl) (by rfl) ?_
              iterate 2 (refine wpG_quiet (by rfl) (by rfl) (by rfl) (fun K hK => ?_); go_big_quiet_op; refine hK _ ?_; clear hK K)
              iterate 11 (refine wpG_skip (by rfl) ?_; simp only [Act.put, List.setIfInBounds_toArray, List.set_cons_zero, List.set_cons_succ])
              iterate 2 (refine wpG_quiet (by rfl) (by rfl) (by rfl) (fun K hK => ?_); go_big_quiet_op; refine hK _ ?_; clear hK K)
              refine wpG_nil fun w2 hl _ => ?_
              have HB2 := Lib.hid (HBW.out w2 hl)
              have HBW2 : Hid (∀ W, Le w2 W → Below w.heap.size w W) := Lib.hid (fun W hl => HB2.out.trans (hl.mono HB2.out.size))
              clear HBW ca cb hl
              have ca : ∀ kk : LW w2, kk.val.cell? ⟨b, o + q * 31 + 1, none⟩ = some (.int .i64 x1) := fun kk => (HQ4.out _ (HBW2.out _ kk.le)).1
              have cb : ∀ kk : LW w2, kk.val.cell? ⟨b, o + k * 31 + 1, none⟩ = some (.int .i64 x) := fun kk => (HCK.out _ (HBW2.out _ kk.le)).1
              have cc : ∀ kk : LW w2, kk.val.cell? ⟨b, o + q * 31 + 3, none⟩ = some (.int .i64 z1) := fun kk => (HQ4.out _ (HBW2.out _ kk.le)).2.2.1
              have cd : ∀ kk : LW w2, kk.val.cell? ⟨b, o + k * 31 + 3, none⟩ = some (.int .i64 z) := fun kk => (HCK.out _ (HBW2.out _ kk.le)).2.2.1
              go_wp2_with fail
              refine wp_region_steady [] 124 (by kernel_rfl) (by kernel_rfl) (by kernel_rfl) (by rfl) ?_
              iterate 12 (refine wpG_quiet (by rfl) (by rfl) (by rfl) (fun K hK => ?_); go_big_quiet_op; refine hK _ ?_; clear hK K)
              iterate 11 (refine wpG_skip (by rfl) ?_; simp only [Act.put, List.setIfInBounds_toArray, List.set_cons_zero, List.set_cons_succ])
              iterate 2 (refine wpG_quiet (by rfl) (by rfl) (by rfl) (fun K hK => ?_); go_big_quiet_op; refine hK _ ?_; clear hK K)
              iterate 11 (refine wpG_skip (by rfl) ?_; simp only [Act.put, List.setIfInBounds_toArray, List.set_cons_zero, List.set_cons_succ])
              iterate 1 (refine wpG_quiet (by rfl) (by rfl) (by rfl) (fun K hK => ?_); go_big_quiet_op; refine hK _ ?_; clear hK K)
              refine wpG_nil fun w3 hl _ => ?_
              have HB3 := Lib.hid (HBW2.out w3 hl)
              clear ca cb cc cd hl
              clear HBW2
              go_wp2_with fail
              go_roundw
              case rel => exact ⟨q + 1, true, by omega, rfl, by go_num, Lib.hid (fun _ => HK2.out (by trivial)), HG, HB3⟩
              case measure => simp [iOf]; omega
          | false =>
            by_cases hx : x1 = x
            · have dx : decide (x1 = x) = true := decide_eq_true hx
              have dx' : (x1 == x) = true := by simpa using hx
              have HKX := Lib.hid (HK1.out hx)
              have HA2 : Hid ((z1 = z → u1 = u) → ∀ j (hj : j < q + 1) (hj2 : j < l.length), l[j].id = x → l[j].nw = z → l[j].cd = u) := Lib.hid (fun e => HA1.out (fun _ => e))
              clear hx HA1 HK1
              by_cases hy : z1 = z
              · have dy : decide (z1 = z) = true := decide_eq_true hy
                have dy' : (z1 == z) = true := by simpa using hy
                clear hy
                cases hce : decide (u1 = u) with
                | true =>
                  rw [hce] at HEQ
                  have HG := Lib.hid (HA2.out (fun _ => of_decide_eq_true hce))
                  clear hce HA2
                  go_wp2_with fail
                  refine wp_region_steady [] 124 (by kernel_rfl) (by kernel_rfl) (by kernel_rfl) (by rfl) ?_
                  iterate 15 (refine wpG_quiet (by rfl) (by rfl) (by rfl) (fun K hK => ?_); go_big_quiet_op; refine hK _ ?_; clear hK K)
                  refine wpG_nil fun w2 hl _ => ?_
                  have HB2 := Lib.hid (HBW.out w2 hl)
                  have HBW2 : Hid (∀ W, Le w2 W → Below w.heap.size w W) := Lib.hid (fun W hl => HB2.out.trans (hl.mono HB2.out.size))
                  clear HBW ca cb hl
                  have ca : ∀ kk : LW w2, kk.val.cell? ⟨b, o + q * 31 + 1, none⟩ = some (.int .i64 x1) := fun kk => (HQ4.out _ (HBW2.out _ kk.le)).1
                  have cb : ∀ kk : LW w2, kk.val.cell? ⟨b, o + k * 31 + 1, none⟩ = some (.int .i64 x) := fun kk => (HCK.out _ (HBW2.out _ kk.le)).1
                  have cc : ∀ kk : LW w2, kk.val.cell? ⟨b, o + q * 31 + 3, none⟩ = some (.int .i64 z1) := fun kk => (HQ4.out _ (HBW2.out _ kk.le)).2.2.1
                  have cd : ∀ kk : LW w2, kk.val.cell? ⟨b, o + k * 31 + 3, none⟩ = some (.int .i64 z) := fun kk => (HCK.out _ (HBW2.out _ kk.le)).2.2.1
                  go_wp2_with fail
                  refine wp_region_steady [] 124 (by kernel_rfl) (by kernel_rfl) (by kernel_rfl) (by rfl) ?_
                  iterate 29 (refine wpG_quiet (by rfl) (by rfl) (by rfl) (fun K hK => ?_); go_big_quiet_op; refine hK _ ?_; clear hK K)
                  refine wpG_run (by rfl) (by rfl) (.agg (ccl u1).toArray) (fun wx hl => exec_load 43 (.tmp 63) rfl b (o + q * 31 + 4) rfl (ccl u1) _ (HQ4.out wx (HBW2.out wx hl.1)).2.2.2 huc rfl (by rw [HVL.out]; exact info_card)) ?_
                  simp only [Act.put, List.setIfInBounds_toArray, List.set_cons_zero, List.set_cons_succ]
                  iterate 4 (refine wpG_quiet (by rfl) (by rfl) (by rfl) (fun K hK => ?_); go_big_quiet_op; refine hK _ ?_; clear hK K)
                  refine wpG_run (by rfl) (by rfl) (.agg (ccl u).toArray) (fun wx hl => exec_load 43 (.tmp 68) rfl b (o + k * 31 + 4) rfl (ccl u) _ (HCK.out wx (HBW2.out wx hl.1)).2.2.2 huc rfl (by rw [HUL.out]; exact info_card)) ?_
                  simp only [Act.put, List.setIfInBounds_toArray, List.set_cons_zero, List.set_cons_succ]
                  refine wpG_run (by rfl) (by rfl) (.bool (!true)) (fun wx hl => exec_neq 43 _ (.tmp 64) (.tmp 69) rfl _ _ rfl rfl guard_card true (HEQ.out wx)) ?_
                  simp only [Act.put, List.setIfInBounds_toArray, List.set_cons_zero, List.set_cons_succ]
                  simp only [Bool.not_true, Bool.not_false]
                  iterate 1 (refine wpG_quiet (by rfl) (by rfl) (by rfl) (fun K hK => ?_); go_big_quiet_op; refine hK _ ?_; clear hK K)
                  refine wpG_nil fun w3 hl _ => ?_
                  have HB3 := Lib.hid (HBW2.out w3 hl)
                  clear ca cb cc cd hl
                  clear HBW2
                  go_wp2_with fail
                  go_roundw
                  case rel => exact ⟨q + 1, true, by omega, rfl, by go_num, Lib.hid (fun _ => HKX.out), HG, HB3⟩
                  case measure => simp [iOf]; omega
                | false =>
                  rw [hce] at HEQ
                  clear hce HA2
                  go_wp2_with fail
                  refine wp_region_steady [] 124 (by kernel_rfl) (by kernel_rfl) (by kernel_rfl) (by rfl) ?_
                  iterate 15 (refine wpG_quiet (by rfl) (by rfl) (by rfl) (fun K hK => ?_); go_big_quiet_op; refine hK _ ?_; clear hK K)
                  refine wpG_nil fun w2 hl _ => ?_
                  have HB2 := Lib.hid (HBW.out w2 hl)
                  have HBW2 : Hid (∀ W, Le w2 W → Below w.heap.size w W) := Lib.hid (fun W hl => HB2.out.trans (hl.mono HB2.out.size))
                  clear HBW ca cb hl
                  have ca : ∀ kk : LW w2, kk.val.cell? ⟨b, o + q * 31 + 1, none⟩ = some (.int .i64 x1) := fun kk => (HQ4.out _ (HBW2.out _ kk.le)).1
                  have cb : ∀ kk : LW w2, kk.val.cell? ⟨b, o + k * 31 + 1, none⟩ = some (.int .i64 x) := fun kk => (HCK.out _ (HBW2.out _ kk.le)).1
                  have cc : ∀ kk : LW w2, kk.val.cell? ⟨b, o + q * 31 + 3, none⟩ = some (.int .i64 z1) := fun kk => (HQ4.out _ (HBW2.out _ kk.le)).2.2.1
                  have cd : ∀ kk : LW w2, kk.val.cell? ⟨b, o + k * 31 + 3, none⟩ = some (.int .i64 z) := fun kk => (HCK.out _ (HBW2.out _ kk.le)).2.2.1
                  go_wp2_with fail
                  refine wp_region_steady [] 124 (by kernel_rfl) (by kernel_rfl) (by kernel_rfl) (by rfl) ?_
                  iterate 29 (refine wpG_quiet (by rfl) (by rfl) (by rfl) (fun K hK => ?_); go_big_quiet_op; refine hK _ ?_; clear hK K)
                  refine wpG_run (by rfl) (by rfl) (.agg (ccl u1).toArray) (fun wx hl => exec_load 43 (.tmp 63) rfl b (o + q * 31 + 4) rfl (ccl u1) _ (HQ4.out wx (HBW2.out wx hl.1)).2.2.2 huc rfl (by rw [HVL.out]; exact info_card)) ?_
                  simp only [Act.put, List.setIfInBounds_toArray, List.set_cons_zero, List.set_cons_succ]
                  iterate 4 (refine wpG_quiet (by rfl) (by rfl) (by rfl) (fun K hK => ?_); go_big_quiet_op; refine hK _ ?_; clear hK K)
                  refine wpG_run (by rfl) (by rfl) (.agg (ccl u).toArray) (fun wx hl => exec_load 43 (.tmp 68) rfl b (o + k * 31 + 4) rfl (ccl u) _ (HCK.out wx (HBW2.out wx hl.1)).2.2.2 huc rfl (by rw [HUL.out]; exact info_card)) ?_
                  simp only [Act.put, List.setIfInBounds_toArray, List.set_cons_zero, List.set_cons_succ]
                  refine wpG_run (by rfl) (by rfl) (.bool (!false)) (fun wx hl => exec_neq 43 _ (.tmp 64) (.tmp 69) rfl _ _ rfl rfl guard_card false (HEQ.out wx)) ?_
                  simp only [Act.put, List.setIfInBounds_toArray, List.set_cons_zero, List.set_cons_succ]
                  simp only [Bool.not_true, Bool.not_false]
                  iterate 1 (refine wpG_quiet (by rfl) (by rfl) (by rfl) (fun K hK => ?_); go_big_quiet_op; refine hK _ ?_; clear hK K)
                  refine wpG_nil fun w3 hl _ => ?_
                  have HB3 := Lib.hid (HBW2.out w3 hl)
                  clear ca cb cc cd hl
                  clear HBW2
                  go_wp2_with fail
                  go_ret
                  exact ⟨false, rfl, (fun e => by cases e), HB3.out⟩
              · have dy : decide (z1 = z) = false := decide_eq_false hy
                have dy' : (z1 == z) = false := by simpa using hy
                have HG := Lib.hid (HA2.out (fun e => absurd e hy))
                clear hy HA2
                go_wp2_with fail
                refine wp_region_steady [] 124 (by kernel_rfl) (by kernel_rfl) (by kernel_rfl) (by rfl) ?_
                iterate 15 (refine wpG_quiet (by rfl) (by rfl) (by rfl) (fun K hK => ?_); go_big_quiet_op; refine hK _ ?_; clear hK K)
                refine wpG_nil fun w2 hl _ => ?_
                have HB2 := Lib.hid (HBW.out w2 hl)
                have HBW2 : Hid (∀ W, Le w2 W → Below w.heap.size w W) := Lib.hid (fun W hl => HB2.out.trans (hl.mono HB2.out.size))
                clear HBW ca cb hl
                have ca : ∀ kk : LW w2, kk.val.cell? ⟨b, o + q * 31 + 1, none⟩ = some (.int .i64 x1) := fun kk => (HQ4.out _ (HBW2.out _ kk.le)).1
                have cb : ∀ kk : LW w2, kk.val.cell? ⟨b, o + k * 31 + 1, none⟩ = some (.int .i64 x) := fun kk => (HCK.out _ (HBW2.out _ kk.le)).1
                have cc : ∀ kk : LW w2, kk.val.cell? ⟨b, o + q * 31 + 3, none⟩ = some (.int .i64 z1) := fun kk => (HQ4.out _ (HBW2.out _ kk.le)).2.2.1
                have cd : ∀ kk : LW w2, kk.val.cell? ⟨b, o + k * 31 + 3, none⟩ = some (.int .i64 z) := fun kk => (HCK.out _ (HBW2.out _ kk.le)).2.2.1
                go_wp2_with fail
                refine wp_region_steady [] 124 (by kernel_rfl) (by kernel_rfl) (by kernel_rfl) (by rfl) ?_
                iterate 25 (refine wpG_quiet (by rfl) (by rfl) (by rfl) (fun K hK => ?_); go_big_quiet_op; refine hK _ ?_; clear hK K)
                iterate 11 (refine wpG_skip (by rfl) ?_; simp only [Act.put, List.setIfInBounds_toArray, List.set_cons_zero, List.set_cons_succ])
                iterate 1 (refine wpG_quiet (by rfl) (by rfl) (by rfl) (fun K hK => ?_); go_big_quiet_op; refine hK _ ?_; clear hK K)
                refine wpG_nil fun w3 hl _ => ?_
                have HB3 := Lib.hid (HBW2.out w3 hl)
                clear ca cb cc cd hl
                clear HBW2
                go_wp2_with fail
                go_roundw
                case rel => exact ⟨q + 1, true, by omega, rfl, by go_num, Lib.hid (fun _ => HKX.out), HG, HB3⟩
                case measure => simp [iOf]; omega
            · have dx : decide (x1 = x) = false := decide_eq_false hx
              have dx' : (x1 == x) = false := by simpa using hx
              have HG := Lib.hid (HA1.out (fun e => absurd e hx))
              clear hx HA1 HK1
              go_wp2_with fail
              refine wp_region_steady [] 124 (by kernel_rfl) (by kernel_rfl) (by kernel_rfl) (by rfl) ?_
              iterate 15 (refine wpG_quiet (by rfl) (by rfl) (by rfl) (fun K hK => ?_); go_big_quiet_op; refine hK _ ?_; clear hK K)
              refine wpG_nil fun w2 hl _ => ?_
              have HB2 := Lib.hid (HBW.out w2 hl)
              have HBW2 : Hid (∀ W, Le w2 W → Below w.heap.size w W) := Lib.hid (fun W hl => HB2.out.trans (hl.mono HB2.out.size))
              clear HBW ca cb hl
              have ca : ∀ kk : LW w2, kk.val.cell? ⟨b, o + q * 31 + 1, none⟩ = some (.int .i64 x1) := fun kk => (HQ4.out _ (HBW2.out _ kk.le)).1
              have cb : ∀ kk : LW w2, kk.val.cell? ⟨b, o + k * 31 + 1, none⟩ = some (.int .i64 x) := fun kk => (HCK.out _ (HBW2.out _ kk.le)).1
              have cc : ∀ kk : LW w2, kk.val.cell? ⟨b, o + q * 31 + 3, none⟩ = some (.int .i64 z1) := fun kk => (HQ4.out _ (HBW2.out _ kk.le)).2.2.1
              have cd : ∀ kk : LW w2, kk.val.cell? ⟨b, o + k * 31 + 3, none⟩ = some (.int .i64 z) := fun kk => (HCK.out _ (HBW2.out _ kk.le)).2.2.1
              go_wp2_with fail
              refine wp_region_steady [] 124 (by kernel_rfl) (by kernel_rfl) (by kernel_rfl) (by rfl) ?_
              iterate 12 (refine wpG_quiet (by rfl) (by rfl) (by rfl) (fun K hK => ?_); go_big_quiet_op; refine hK _ ?_; clear hK K)
              iterate 11 (refine wpG_skip (by rfl) ?_; simp only [Act.put, List.setIfInBounds_toArray, List.set_cons_zero, List.set_cons_succ])
              iterate 2 (refine wpG_quiet (by rfl) (by rfl) (by rfl) (fun K hK => ?_); go_big_quiet_op; refine hK _ ?_; clear hK K)
              iterate 11 (refine wpG_skip (by rfl) ?_; simp only [Act.put, List.setIfInBounds_toArray, List.set_cons_zero, List.set_cons_succ])
              iterate 1 (refine wpG_quiet (by rfl) (by rfl) (by rfl) (fun K hK => ?_); go_big_quiet_op; refine hK _ ?_; clear hK K)
              refine wpG_nil fun w3 hl _ => ?_
              have HB3 := Lib.hid (HBW2.out w3 hl)
              clear ca cb cc cd hl
              clear HBW2
              go_wp2_with fail
              go_roundw
              case rel => exact ⟨q + 1, false, by omega, rfl, by go_num, Lib.hid (fun e => by cases e), HG, HB3⟩
              case measure => simp [iOf]; omega
        · obtain rfl : q = k := by omega
          have HA : Hid (∀ j (hj : j < q), (l[j]'(by omega)).id = x → (l[j]'(by omega)).nw = z → (l[j]'(by omega)).cd = u) := Lib.hid (fun j hj => HQA.out j hj (by omega))
          have HKN : Hid (kb = true → ¬ ∀ j (hj : j < q), (l[j]'(by omega)).id ≠ x) := Lib.hid (fun e h => by
            obtain ⟨j, h1, h2, h3⟩ := HKB.out e
            exact h j h1 h3)
          have HE2 := Lib.hid (HE.out HA.out)
          clear HKB HQA HCC HTE HE HA
          go_wp2_with fail
          go_loopw [8, 9] (fun v i wr => ∃ (t : Nat), t ≤ n ∧ v = .int .i64 (verOf (kget (toKV (cs.take t)) x)) ∧ i = .int .i64 (t : Int) ∧ Hid (∀ j (hj : j < t) (hj2 : j < cs.length), cs[j].1 = x → cs[j].2.1 = z → cs[j] = u) ∧ Hid (Below w.heap.size w wr)) (fun _ i _ => n - (iOf i).toNat)
          case atStart => exact ⟨0, by omega, rfl, rfl, Lib.hid (fun j hj => by omega), HB⟩
          case round =>
            clear HB
            obtain ⟨t, ht, rfl, rfl, HQB, HB⟩ := hrel
            by_cases htn : t < n
            · have d1 : decide ((t : Int) < (n : Int)) = true := decide_eq_true (by omega)
              have htl : t < cs.length := by rw [HN.out]; exact htn
              obtain ⟨b2, o2, rfl, hc2⟩ := HCE.out t htl
              have HT3 : Hid (∀ W, Below w.heap.size w W → W.cell? ⟨b2, o2 + t * 27, none⟩ = some (.int .i64 cs[t].1) ∧ W.cell? ⟨b2, o2 + t * 27 + 1, none⟩ = some (.int .i64 cs[t].2.1) ∧ W.rangeAt b2 (o2 + t * 27) (ccl cs[t])) := Lib.hid (fun W hW => hc2 W hW t htl)
              have HVT := Lib.hid (HVER.out t htl x)
              have HOKT := Lib.hid (HOKC.out _ (List.getElem_mem htl))
              have HEQ := Lib.hid (fun wx : World => eq_ccl cs[t] u HOKT.out HOKK.out wx)
              have HVL := Lib.hid (ccl_len HOKT.out)
              have HA1 : Hid ((cs[t].1 = x → cs[t].2.1 = z → cs[t] = u) → ∀ j (hj : j < t + 1) (hj2 : j < cs.length), cs[j].1 = x → cs[j].2.1 = z → cs[j] = u) := Lib.hid (fun e j hj hj2 => by
                by_cases e2 : j = t
                · subst e2; exact e
                · exact HQB.out j (by omega) hj2)
              obtain ⟨vn, hvn⟩ : ∃ vn, vn = verOf (kget (toKV (cs.take (t + 1))) x) := ⟨_, rfl⟩
              rw [← hvn] at HVT
              generalize verOf (kget (toKV (cs.take t)) x) = vo at HVT
              have HVN := Lib.hid hvn
              obtain ⟨XX, hXX⟩ : ∃ XX, XX = ccl cs[t] := ⟨_, rfl⟩
              rw [← hXX] at HT3 HEQ HVL
              generalize cs[t].1 = x1 at HT3 HVT HA1
              generalize cs[t].2.1 = z1 at HT3 HVT HA1
              generalize hcm : decide (cs[t] = u) = ce at HEQ
              have HCM : Hid (ce = true → cs[t] = u) := Lib.hid (fun e => of_decide_eq_true (hcm.trans e))
              have HBW : Hid (∀ W, Le wr W → Below w.heap.size w W) := Lib.hid (fun W hl => HB.out.trans (hl.mono HB.out.size))
              have ca : ∀ kk : LW wr, kk.val.cell? ⟨b2, o2 + t * 27, none⟩ = some (.int .i64 x1) := fun kk => (HT3.out _ (HBW.out _ kk.le)).1
              have cb : ∀ kk : LW wr, kk.val.cell? ⟨b, o + q * 31 + 1, none⟩ = some (.int .i64 x) := fun kk => (HCK.out _ (HBW.out _ kk.le)).1
              clear hc2 HQB HCE HVER hXX HOKC HE2 HKN hvn hcm
              by_cases hx : x1 = x
              · have dx : decide (x1 = x) = true := decide_eq_true hx
                have dx' : (x1 == x) = true := by simpa using hx
                have HVE : Hid (vn = z1) := Lib.hid (by rw [HVT.out, if_pos hx])
                have HA2 : Hid ((z1 = z → cs[t] = u) → ∀ j (hj : j < t + 1) (hj2 : j < cs.length), cs[j].1 = x → cs[j].2.1 = z → cs[j] = u) := Lib.hid (fun e => HA1.out (fun _ => e))
                clear hx HA1 HVT
                go_wp2_with fail
                refine wp_region_steady [] 124 (by kernel_rfl) (by kernel_rfl) (by kernel_rfl) (by rfl) ?_
                iterate 11 (refine wpG_quiet (by rfl) (by rfl) (by rfl) (fun K hK => ?_); go_big_quiet_op; refine hK _ ?_; clear hK K)
                refine wpG_nil fun w2 hl _ => ?_
                have HB2 := Lib.hid (HBW.out w2 hl)
                by_cases hy : z1 = z
                · have dy : decide (z1 = z) = true := decide_eq_true hy
                  have dy' : (z1 == z) = true := by simpa using hy
                  clear hy
                  cases ce with
                  | true =>
                    have HG := Lib.hid (HA2.out (fun _ => HCM.out rfl))
                    clear HA2 HCM
                    have HBW2 : Hid (∀ W, Le w2 W → Below w.heap.size w W) := Lib.hid (fun W hl => HB2.out.trans (hl.mono HB2.out.size))
                    have cv := (HT3.out w2 HB2.out).2.1
                    have cc : ∀ kk : LW w2, kk.val.cell? ⟨b, o + q * 31 + 3, none⟩ = some (.int .i64 z) := fun kk => (HCK.out _ (HBW2.out _ kk.le)).2.2.1
                    clear HBW ca cb hl
                    go_wp2_with fail
                    refine wp_region_steady [] 124 (by kernel_rfl) (by kernel_rfl) (by kernel_rfl) (by rfl) ?_
                    iterate 11 (refine wpG_quiet (by rfl) (by rfl) (by rfl) (fun K hK => ?_); go_big_quiet_op; refine hK _ ?_; clear hK K)
                    refine wpG_run (by rfl) (by rfl) (.agg XX.toArray) (fun wx hl => exec_load 43 (.tmp 104) rfl b2 (o2 + t * 27) rfl XX _ (HT3.out wx (HBW2.out wx hl.1)).2.2 huc rfl (by rw [HVL.out]; exact info_card)) ?_
                    simp only [Act.put, List.setIfInBounds_toArray, List.set_cons_zero, List.set_cons_succ]
                    iterate 4 (refine wpG_quiet (by rfl) (by rfl) (by rfl) (fun K hK => ?_); go_big_quiet_op; refine hK _ ?_; clear hK K)
                    refine wpG_run (by rfl) (by rfl) (.agg (ccl u).toArray) (fun wx hl => exec_load 43 (.tmp 109) rfl b (o + q * 31 + 4) rfl (ccl u) _ (HCK.out wx (HBW2.out wx hl.1)).2.2.2 huc rfl (by rw [HUL.out]; exact info_card)) ?_
                    simp only [Act.put, List.setIfInBounds_toArray, List.set_cons_zero, List.set_cons_succ]
                    refine wpG_run (by rfl) (by rfl) (.bool (!true)) (fun wx hl => exec_neq 43 _ (.tmp 105) (.tmp 110) rfl _ _ rfl rfl guard_card true (HEQ.out wx)) ?_
                    simp only [Act.put, List.setIfInBounds_toArray, List.set_cons_zero, List.set_cons_succ]
                    simp only [Bool.not_true, Bool.not_false]
                    iterate 1 (refine wpG_quiet (by rfl) (by rfl) (by rfl) (fun K hK => ?_); go_big_quiet_op; refine hK _ ?_; clear hK K)
                    refine wpG_nil fun w3 hl _ => ?_
                    have HB3 := Lib.hid (HBW2.out w3 hl)
                    clear cc cv hl HBW2
                    go_wp2_with fail
                    go_roundw
                    case rel => exact ⟨t + 1, by omega, by rw [← HVN.out, HVE.out], by go_num, HG, HB3⟩
                    case measure => simp [iOf]; omega
                  | false =>
                    clear HA2 HCM
                    have HBW2 : Hid (∀ W, Le w2 W → Below w.heap.size w W) := Lib.hid (fun W hl => HB2.out.trans (hl.mono HB2.out.size))
                    have cv := (HT3.out w2 HB2.out).2.1
                    have cc : ∀ kk : LW w2, kk.val.cell? ⟨b, o + q * 31 + 3, none⟩ = some (.int .i64 z) := fun kk => (HCK.out _ (HBW2.out _ kk.le)).2.2.1
                    clear HBW ca cb hl
                    go_wp2_with fail
                    refine wp_region_steady [] 124 (by kernel_rfl) (by kernel_rfl) (by kernel_rfl) (by rfl) ?_
                    iterate 11 (refine wpG_quiet (by rfl) (by rfl) (by rfl) (fun K hK => ?_); go_big_quiet_op; refine hK _ ?_; clear hK K)
                    refine wpG_run (by rfl) (by rfl) (.agg XX.toArray) (fun wx hl => exec_load 43 (.tmp 104) rfl b2 (o2 + t * 27) rfl XX _ (HT3.out wx (HBW2.out wx hl.1)).2.2 huc rfl (by rw [HVL.out]; exact info_card)) ?_
                    simp only [Act.put, List.setIfInBounds_toArray, List.set_cons_zero, List.set_cons_succ]
                    iterate 4 (refine wpG_quiet (by rfl) (by rfl) (by rfl) (fun K hK => ?_); go_big_quiet_op; refine hK _ ?_; clear hK K)
                    refine wpG_run (by rfl) (by rfl) (.agg (ccl u).toArray) (fun wx hl => exec_load 43 (.tmp 109) rfl b (o + q * 31 + 4) rfl (ccl u) _ (HCK.out wx (HBW2.out wx hl.1)).2.2.2 huc rfl (by rw [HUL.out]; exact info_card)) ?_
                    simp only [Act.put, List.setIfInBounds_toArray, List.set_cons_zero, List.set_cons_succ]
                    refine wpG_run (by rfl) (by rfl) (.bool (!false)) (fun wx hl => exec_neq 43 _ (.tmp 105) (.tmp 110) rfl _ _ rfl rfl guard_card false (HEQ.out wx)) ?_
                    simp only [Act.put, List.setIfInBounds_toArray, List.set_cons_zero, List.set_cons_succ]
                    simp only [Bool.not_true, Bool.not_false]
                    iterate 1 (refine wpG_quiet (by rfl) (by rfl) (by rfl) (fun K hK => ?_); go_big_quiet_op; refine hK _ ?_; clear hK K)
                    refine wpG_nil fun w3 hl _ => ?_
                    have HB3 := Lib.hid (HBW2.out w3 hl)
                    clear cc cv hl HBW2
                    go_wp2_with fail
                    go_ret
                    exact ⟨false, rfl, (fun e => by cases e), HB3.out⟩
                · have dy : decide (z1 = z) = false := decide_eq_false hy
                  have dy' : (z1 == z) = false := by simpa using hy
                  have HG := Lib.hid (HA2.out (fun e => absurd e hy))
                  clear hy HA2 HCM
                  have HBW2 : Hid (∀ W, Le w2 W → Below w.heap.size w W) := Lib.hid (fun W hl => HB2.out.trans (hl.mono HB2.out.size))
                  have cv := (HT3.out w2 HB2.out).2.1
                  have cc : ∀ kk : LW w2, kk.val.cell? ⟨b, o + q * 31 + 3, none⟩ = some (.int .i64 z) := fun kk => (HCK.out _ (HBW2.out _ kk.le)).2.2.1
                  clear HBW ca cb hl
                  go_wp2_with fail
                  refine wp_region_steady [] 124 (by kernel_rfl) (by kernel_rfl) (by kernel_rfl) (by rfl) ?_
                  iterate 8 (refine wpG_quiet (by rfl) (by rfl) (by rfl) (fun K hK => ?_); go_big_quiet_op; refine hK _ ?_; clear hK K)
                  iterate 10 (refine wpG_skip (by rfl) ?_; simp only [Act.put, List.setIfInBounds_toArray, List.set_cons_zero, List.set_cons_succ])
                  iterate 1 (refine wpG_quiet (by rfl) (by rfl) (by rfl) (fun K hK => ?_); go_big_quiet_op; refine hK _ ?_; clear hK K)
                  refine wpG_nil fun w3 hl _ => ?_
                  have HB3 := Lib.hid (HBW2.out w3 hl)
                  clear cc cv hl HBW2
                  go_wp2_with fail
                  go_roundw
                  case rel => exact ⟨t + 1, by omega, by rw [← HVN.out, HVE.out], by go_num, HG, HB3⟩
                  case measure => simp [iOf]; omega
              · have dx : decide (x1 = x) = false := decide_eq_false hx
                have dx' : (x1 == x) = false := by simpa using hx
                have HVE : Hid (vn = vo) := Lib.hid (by rw [HVT.out, if_neg hx])
                have HG := Lib.hid (HA1.out (fun e => absurd e hx))
                clear hx HA1 HVT HCM
                go_wp2_with fail
                refine wp_region_steady [] 124 (by kernel_rfl) (by kernel_rfl) (by kernel_rfl) (by rfl) ?_
                iterate 11 (refine wpG_quiet (by rfl) (by rfl) (by rfl) (fun K hK => ?_); go_big_quiet_op; refine hK _ ?_; clear hK K)
                refine wpG_nil fun w2 hl _ => ?_
                have HB2 := Lib.hid (HBW.out w2 hl)
                clear HBW ca cb hl
                go_wp2_with fail
                go_roundw
                case rel => exact ⟨t + 1, by omega, by rw [← HVN.out, HVE.out], by go_num, HG, HB2⟩
                case measure => simp [iOf]; omega
            · obtain rfl : t = n := by omega
              have HQC : Hid (∀ c ∈ cs, c.1 = x → c.2.1 = z → c = u) := Lib.hid (fun c hc => by
                obtain ⟨j, hj, rfl⟩ := List.getElem_of_mem hc
                exact HQB.out j (by rw [← HN.out]; exact hj) hj)
              have HE3 := Lib.hid (HE2.out HQC.out)
              have e9 : cs.take t = cs := List.take_of_length_le (by rw [HN.out]; exact Nat.le_refl _)
              rw [e9]
              have co := (HCK.out wr HB.out).2.1
              clear e9 HE2 HQB HQC HCE HVER HOKC
              generalize verOf (kget (toKV cs) x) = ve at HE3
              cases kb with
              | true =>
                have HG := Lib.hid (HE3.out (fun hh => absurd hh (HKN.out rfl)))
                clear HE3 HKN
                go_wp2_with fail
                go_roundw
                case rel => exact ⟨q + 1, by omega, by go_num, HG, HB⟩
                case measure => simp [iOf]; omega
              | false =>
                by_cases hv : ve = y
                · have dv : decide (ve = y) = true := decide_eq_true hv
                  have dv' : (ve != y) = false := by simpa using hv
                  have HG := Lib.hid (HE3.out (fun _ => hv))
                  clear HE3 HKN hv
                  go_wp2_with fail
                  go_roundw
                  case rel => exact ⟨q + 1, by omega, by go_num, HG, HB⟩
                  case measure => simp [iOf]; omega
                · have dv : decide (ve = y) = false := decide_eq_false hv
                  have dv' : (ve != y) = true := by simpa using hv
                  clear HE3 HKN hv
                  go_wp2_with fail
                  go_ret
                  exact ⟨false, rfl, (fun e => by cases e), HB.out⟩
    · obtain rfl : k = m := by omega
      clear HTE HCE HVER
      go_wp2_with fail
      go_ret
      exact ⟨true, rfl, fun _ i hi => HF.out i (by rw [← HM.out]; exact hi) hi, HB.out⟩
end Go.Proofs.Ytcdmbidggikmfaa

/- TransTwice: the law's walk. -/
namespace Go.Proofs.Ytcdmbidggikmfaa
set_option linter.unusedVariables false
set_option linter.unusedSimpArgs false
open Go Go.RowKit BitM

theorem app_in {Qp : Int × Cd → Prop} : ∀ {L : List Im} {m m' : KV Cd}, app m L = some m' → (∀ p ∈ m, Qp p) → (∀ x ∈ L, Qp (rkey x, x.cd)) → (∀ p ∈ m', Qp p) ∧ m'.length ≤ m.length + L.length
  | [], m, m', h, h1, _ => by cases h; exact ⟨h1, by simp⟩
  | x :: L, m, m', h, h1, h2 => by
    unfold app at h
    cases hx : aput m x with
    | none => rw [hx] at h; cases h
    | some n =>
      rw [hx] at h
      obtain ⟨a, b⟩ := aput_all h1 (h2 x List.mem_cons_self) hx
      obtain ⟨c, d⟩ := app_in h a (fun z hz => h2 z (List.mem_cons_of_mem _ hz))
      exact ⟨c, by simp only [List.length_cons]; omega⟩
theorem apOut_in {cs ds : List Cd} {L : List Im} (h : apOut cs L = some ds) (h1 : ∀ y ∈ cs, okCd y ∧ (Lit.int .i64 y.1).wf = true) (h2 : ∀ x ∈ L, okCd x.cd ∧ (Lit.int .i64 x.cd.1).wf = true) :
    (∀ y ∈ ds, okCd y ∧ (Lit.int .i64 y.1).wf = true) ∧ ds.length ≤ cs.length + L.length := by
  unfold apOut at h
  cases hm : app (toKV cs) L with
  | none => rw [hm] at h; cases h
  | some m =>
    rw [hm] at h
    cases h
    obtain ⟨a, b⟩ := app_in (Qp := fun p => okCd p.2 ∧ (Lit.int .i64 p.2.1).wf = true) hm (fun p hp => by
      obtain ⟨c, hc, rfl⟩ := List.mem_map.1 hp
      exact h1 c hc) h2
    refine ⟨fun y hy => ?_, by simpa [toKV] using b⟩
    obtain ⟨p, hp, rfl⟩ := List.mem_map.1 hy
    exact a p hp
theorem net_okw {l : List Tn} (hok : ∀ t ∈ l, okT t) : ∀ x ∈ net l, okCd x.cd ∧ (Lit.int .i64 x.cd.1).wf = true := fun x hx => by
  obtain ⟨i, t, hw, _, rfl⟩ := net_mem.1 hx
  obtain ⟨u, hu, e1, e2, e3⟩ := whole_mem hw
  have ok := hok u hu
  unfold itm
  split
  · show okCd t.cd ∧ _
    rw [show t.cd = u.cd from e2]
    exact ⟨ok.cd.len, ok.cd.id⟩
  · split
    · refine ⟨rfl, ?_⟩
      show (Lit.int .i64 t.id).wf = true
      rw [e3, ← e1]
      exact ok.id
    · show okCd t.cd ∧ _
      rw [show t.cd = u.cd from e2]
      exact ⟨ok.cd.len, ok.cd.id⟩
end Go.Proofs.Ytcdmbidggikmfaa

/- Cut after cut, as the walk wants it: mathematics; a quotient of two numbers. -/
namespace Go.Proofs.Ytcdmbidggikmfaa
set_option linter.unusedVariables false
set_option linter.unusedSimpArgs false
open Go Go.RowKit BitM

theorem net_kd (l : List Tn) : ∀ x ∈ net l, x.kd = 1 ∨ x.kd = 2 ∨ x.kd = 3 := fun x hx => by
  obtain ⟨i, t, _, _, rfl⟩ := net_mem.1 hx
  unfold itm
  split
  · exact .inl rfl
  · split
    · exact .inr (.inl rfl)
    · exact .inr (.inr rfl)
theorem comes_rise {l : List Tn} {cs : List Cd} {u0 : List Tn} {page : Nat} {now c at' : Int} {i : Nat} {hv : List Cd} (hr : CRise cs) (h : CutAt l cs u0 page now c i at' hv) : CRise hv := by
  obtain ⟨p, _, _, p3, _⟩ := h.at_
  exact (apOut_rise hr p3).1
theorem comes_in {l : List Tn} {cs : List Cd} {u0 : List Tn} {page : Nat} {now c at' : Int} {i : Nat} {hv : List Cd} (hokc : ∀ y ∈ cs, okC y) (hok : ∀ t ∈ u0, okT t) (h : CutAt l cs u0 page now c i at' hv) :
    (∀ y ∈ hv, okCd y) ∧ hv.length ≤ cs.length + u0.length := by
  obtain ⟨p, p1, _, p3, _⟩ := h.at_
  have := apOut_in p3 (fun y hy => ⟨(hokc y hy).len, (hokc y hy).id⟩) (net_okw (fun t ht => hok t (List.mem_of_mem_take ht)))
  refine ⟨fun y hy => (this.1 y hy).1, ?_⟩
  have h2 := this.2
  have h3 := net_len (u0.take p)
  rw [List.length_take] at h3
  omega
theorem comes_step {l : List Tn} {cs : List Cd} {page : Nat} {now c a at' : Int} {i : Nat} {hv : List Cd} (hg : goes l = true) (hr : CRise cs) (hc : ∀ x ∈ cs, ckc x = true)
    (hf : FitsT (toKV cs) (upl l a now c)) (h : CutAt l cs (upl l a now c) page now c i at' hv) :
    ∃ hv', rapp hv (net (cutL l at' now c page)) = some hv' ∧ at' ≤ cutTo l at' now c page ∧ CutAt l cs (upl l a now c) page now c (i + 1) (cutTo l at' now c page) hv' := by
  obtain ⟨hv', h1, h2, h3⟩ := h.step hg hr hc hf
  refine ⟨hv', ?_, h2, h3⟩
  rw [← apOut_rapp (comes_rise hr h) (net_kd _)]
  exact h1
theorem comes_all {l : List Tn} {cs : List Cd} {page : Nat} {now c a : Int} (hg : goes l = true) (hr : CRise cs) (hc : ∀ x ∈ cs, ckc x = true)
    (hf : FitsT (toKV cs) (upl l a now c)) (ha : a ≤ now) : ∀ i, ∃ at' hv, CutAt l cs (upl l a now c) page now c i at' hv
  | 0 => ⟨a, cs, CutAt.start ha⟩
  | i + 1 => by
    obtain ⟨at', hv, h⟩ := comes_all (page := page) hg hr hc hf ha i
    obtain ⟨hv', _, _, h3⟩ := comes_step hg hr hc hf h
    exact ⟨_, hv', h3⟩
theorem comes_ends {l : List Tn} {cs : List Cd} {u0 : List Tn} {page : Nat} {now c at' : Int} {hv : List Cd} (hr : CRise cs) (hp : 1 ≤ page) (h : CutAt l cs u0 page now c (u0.length / page + 1) at' hv) :
    at' = now ∧ rapp cs (net u0) = some hv := by
  obtain ⟨h1, h2⟩ := h.ends hp
  exact ⟨h1, by rw [← apOut_rapp hr (net_kd _)]; exact h2⟩
theorem comes_some {l : List Tn} {cs : List Cd} {now c a : Int} (hg : goes l = true) (hr : CRise cs) (hc : ∀ x ∈ cs, ckc x = true)
    (hf : FitsT (toKV cs) (upl l a now c)) (ha : a ≤ now) : ∃ ds, rapp cs (net (upl l a now c)) = some ds := by
  obtain ⟨at', hv, h⟩ := comes_all (page := 1) hg hr hc hf ha ((upl l a now c).length / 1 + 1)
  exact ⟨hv, (comes_ends hr (Nat.le_refl _) h).2⟩
theorem exec_quoP {o : Oper} {a : Act} {w : World} (x y : Operand) (u : TypeId) (ho : o.op = .binOp .quo 3 x y u) (n P : Nat) (hP : 1 ≤ P) (hn : n ≤ 100) (hx : a.eval x = .int .i64 (n : Int)) (hy : a.eval y = .int .i64 (P : Int)) :
    (execOp a.eval o).run Try.prog w = .ok (.value (.int .i64 ((n / P : Nat) : Int))) w := by
  have t1 : Int.tdiv (n : Int) (P : Int) = ((n / P : Nat) : Int) := (Int.ofNat_tdiv n P).symm
  have t2 : n / P ≤ n := Nat.div_le_self _ _
  have t3 : P ≠ 0 := by omega
  unfold execOp
  generalize a.eval = ρ at hx hy
  generalize n / P = q at t1 t2 ⊢
  have t4 : IntKind.i64.wrap (q : Int) = (q : Int) := by rw [IntKind.wrap_i64]; omega
  simp [go_sem, ho, hx, hy, t1, t3, t4]
end Go.Proofs.Ytcdmbidggikmfaa
