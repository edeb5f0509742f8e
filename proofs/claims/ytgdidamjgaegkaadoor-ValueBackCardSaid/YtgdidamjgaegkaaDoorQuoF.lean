/- A value that may be is read of its text: the walk of ValueBack. -/
import Derived.Test.YtgdidamjgaegkaaDoorQuoE
import Derived.Test.YtgdidamjgaegkaaDoorValE
namespace Go.Proofs.YtgdidamjgaegkaaDoor
set_option linter.unusedVariables false
open Go Go.RowKit BitM ValM

set_option maxRecDepth 100000 in
set_option maxHeartbeats 6400000 in
theorem walk_vback (a b : V3) (mm : Int) (w : World) (hmm : MaxV mm w) (ht : Tab w) :
    Calls Tryd.prog 8 #[.agg (vcells a).toArray, .agg (vcells b).toArray] w fun e w' => e = .returned (.bool true) ∧ Below w.heap.size w w' := by
  have hu := Tryd.underlying43
  have HAW := Lib.hid (fun (wx : World) (hb : Below w.heap.size w wx) => vaw_any mm wx (hmm.later hb))
  have HK0 := Lib.hid (fun wx : World => (show Calls Tryd.prog 36 #[.agg (vcells a).toArray] wx fun e w' => e = .returned (.bool (vchk a)) ∧ Below wx.heap.size wx w' from rvcheck_any a.1 a.2.1 a.2.2 wx))
  have HK1 := Lib.hid (fun wx : World => (show Calls Tryd.prog 36 #[.agg (vcells b).toArray] wx fun e w' => e = .returned (.bool (vchk b)) ∧ Below wx.heap.size wx w' from rvcheck_any b.1 b.2.1 b.2.2 wx))
  have HS0 := Lib.hid (fun (wx : World) (hb : Below w.heap.size w wx) => vshow_any a wx (ht.later hb))
  have HS1 := Lib.hid (fun (wx : World) (hb : Below w.heap.size w wx) => vshow_any b wx (ht.later hb))
  have HRB := fun (hc : vchk a = true) => Lib.hid (fun (wx : World) (hb : Below w.heap.size w wx) => vread_back a (str (vshow a)) wx hc (ht.later hb) rfl)
  have HE0 := Lib.hid (fun wx : World => eq_val 9998 a a wx)
  rw [decide_eq_true (show a = a from rfl)] at HE0
  have HE1 := Lib.hid (fun wx : World => eq_val 9998 a b wx)
  have HZ := fun (ha : vchk a = true) (hb : vchk b = true) => Lib.hid (vshow_eq a b ha hb)
  obtain ⟨ez, hez⟩ : ∃ x, x = decide (a = b) := ⟨_, rfl⟩
  rw [← hez] at HZ HE1
  obtain ⟨ta, hta⟩ : ∃ x, x = str (vshow a) := ⟨_, rfl⟩
  obtain ⟨tb, htb⟩ : ∃ x, x = str (vshow b) := ⟨_, rfl⟩
  rw [← hta] at HS0 HRB HZ
  rw [← htb] at HS1 HZ
  obtain ⟨W, hW, B0, B1, hb⟩ := two_boxes a b w
  have R0 : Hid (∀ wx, Le W wx → wx.rangeAt w.heap.size 0 (vcells a)) := Lib.hid (fun wx hl => (B0.later hl).valR)
  have R1 : Hid (∀ wx, Le W wx → wx.rangeAt (w.heap.size + 1) 0 (vcells b)) := Lib.hid (fun wx hl => (B1.later hl).valR)
  have G0 := R0.out W (Le.refl _)
  have G1 := R1.out W (Le.refl _)
  clear B0 B1 hta htb hez ht hmm
  obtain ⟨ca, hca⟩ : ∃ ca, ca = (vcells a).toArray := ⟨_, rfl⟩
  obtain ⟨cb, hcb⟩ : ∃ cb, cb = (vcells b).toArray := ⟨_, rfl⟩
  rw [← hca, ← hcb] at hW
  rw [← hca, ← hcb]
  rw [hW] at R0 R1 G0 G1 hb
  have hb2 := Lib.hid hb
  clear hb hW hca hcb
  cases hc0 : vchk a
  · rw [hc0] at HK0
    clear hc0 HRB HZ
    go_enter Tryd.func8, Tryd.ntmps8
    go_wp2_with (first
      | (refine wpList_load_g (by rfl) 43 (.tmp 2) rfl w.heap.size 0 rfl (vcells a) _ G0 hu rfl info_val ?_)
      | (refine wpList_load_g (by rfl) 43 (.tmp 3) rfl (w.heap.size + 1) 0 rfl (vcells b) _ G1 hu rfl info_val ?_)
      | fail)
    refine (HK0.out _).mono ?_
    rintro e w1 ⟨rfl, hb1⟩
    replace hb2 := Lib.hid (hb2.out.trans (hb1.mono hb2.out.size))
    clear hb1 R0 R1 G0 G1
    go_wp2_with fail
    refine (HAW.out _ hb2.out).mono ?_
    rintro e w9 ⟨rfl, hb1⟩
    replace hb2 := Lib.hid (hb2.out.trans (hb1.mono hb2.out.size))
    go_wp2_with fail
    go_ret
    exact ⟨rfl, hb2.out⟩
  · rw [hc0] at HK0
    replace HRB := HRB hc0
    cases hc1 : vchk b
    · rw [hc1] at HK1
      clear hc0 hc1 HZ
      go_enter Tryd.func8, Tryd.ntmps8
      go_wp2_with (first
        | (refine wpList_load_g (by rfl) 43 (.tmp 2) rfl w.heap.size 0 rfl (vcells a) _ G0 hu rfl info_val ?_)
        | (refine wpList_load_g (by rfl) 43 (.tmp 3) rfl (w.heap.size + 1) 0 rfl (vcells b) _ G1 hu rfl info_val ?_)
        | fail)
      refine (HK0.out _).mono ?_
      rintro e w1 ⟨rfl, hb1⟩
      replace hb2 := Lib.hid (hb2.out.trans (hb1.mono hb2.out.size))
      replace R0 := Lib.hid (fun (wx : World) (h2 : Le w1 wx) => R0.out wx (Le.trans hb1 h2))
      replace R1 := Lib.hid (fun (wx : World) (h2 : Le w1 wx) => R1.out wx (Le.trans hb1 h2))
      clear hb1 G0 G1
      have G0 := R0.out w1 (Le.refl _)
      have G1 := R1.out w1 (Le.refl _)
      go_wp2_with (first
        | (refine wpList_load_g (by rfl) 43 (.tmp 2) rfl w.heap.size 0 rfl (vcells a) _ G0 hu rfl info_val ?_)
        | (refine wpList_load_g (by rfl) 43 (.tmp 3) rfl (w.heap.size + 1) 0 rfl (vcells b) _ G1 hu rfl info_val ?_)
        | fail)
      refine (HK1.out _).mono ?_
      rintro e w2 ⟨rfl, hb1⟩
      replace hb2 := Lib.hid (hb2.out.trans (hb1.mono hb2.out.size))
      clear hb1 R0 R1 G0 G1
      go_wp2_with fail
      refine (HAW.out _ hb2.out).mono ?_
      rintro e w9 ⟨rfl, hb1⟩
      replace hb2 := Lib.hid (hb2.out.trans (hb1.mono hb2.out.size))
      go_wp2_with fail
      go_ret
      exact ⟨rfl, hb2.out⟩
    · rw [hc1] at HK1
      replace HZ := HZ hc0 hc1
      clear hc0 hc1
      go_enter Tryd.func8, Tryd.ntmps8
      go_wp2_with (first
        | (refine wpList_load_g (by rfl) 43 (.tmp 2) rfl w.heap.size 0 rfl (vcells a) _ G0 hu rfl info_val ?_)
        | (refine wpList_load_g (by rfl) 43 (.tmp 3) rfl (w.heap.size + 1) 0 rfl (vcells b) _ G1 hu rfl info_val ?_)
        | fail)
      refine (HK0.out _).mono ?_
      rintro e w1 ⟨rfl, hb1⟩
      replace hb2 := Lib.hid (hb2.out.trans (hb1.mono hb2.out.size))
      replace R0 := Lib.hid (fun (wx : World) (h2 : Le w1 wx) => R0.out wx (Le.trans hb1 h2))
      replace R1 := Lib.hid (fun (wx : World) (h2 : Le w1 wx) => R1.out wx (Le.trans hb1 h2))
      clear hb1 G0 G1
      have G0 := R0.out w1 (Le.refl _)
      have G1 := R1.out w1 (Le.refl _)
      go_wp2_with (first
        | (refine wpList_load_g (by rfl) 43 (.tmp 2) rfl w.heap.size 0 rfl (vcells a) _ G0 hu rfl info_val ?_)
        | (refine wpList_load_g (by rfl) 43 (.tmp 3) rfl (w.heap.size + 1) 0 rfl (vcells b) _ G1 hu rfl info_val ?_)
        | fail)
      refine (HK1.out _).mono ?_
      rintro e w2 ⟨rfl, hb1⟩
      replace hb2 := Lib.hid (hb2.out.trans (hb1.mono hb2.out.size))
      replace R0 := Lib.hid (fun (wx : World) (h2 : Le w2 wx) => R0.out wx (Le.trans hb1 h2))
      replace R1 := Lib.hid (fun (wx : World) (h2 : Le w2 wx) => R1.out wx (Le.trans hb1 h2))
      clear hb1 G0 G1
      have G0 := R0.out w2 (Le.refl _)
      have G1 := R1.out w2 (Le.refl _)
      go_wp2_with (first
        | (refine wpList_load_g (by rfl) 43 (.tmp 2) rfl w.heap.size 0 rfl (vcells a) _ G0 hu rfl info_val ?_)
        | (refine wpList_load_g (by rfl) 43 (.tmp 3) rfl (w.heap.size + 1) 0 rfl (vcells b) _ G1 hu rfl info_val ?_)
        | fail)
      refine (HS0.out _ hb2.out).mono ?_
      rintro e w3 ⟨rfl, hb1⟩
      replace hb2 := Lib.hid (hb2.out.trans (hb1.mono hb2.out.size))
      replace R0 := Lib.hid (fun (wx : World) (h2 : Le w3 wx) => R0.out wx (Le.trans hb1 h2))
      replace R1 := Lib.hid (fun (wx : World) (h2 : Le w3 wx) => R1.out wx (Le.trans hb1 h2))
      clear hb1 G0 G1
      go_wp2_with fail
      refine (HRB.out _ hb2.out).mono ?_
      rintro e w4 ⟨rfl, hb1⟩
      replace hb2 := Lib.hid (hb2.out.trans (hb1.mono hb2.out.size))
      replace R0 := Lib.hid (fun (wx : World) (h2 : Le w4 wx) => R0.out wx (Le.trans hb1 h2))
      replace R1 := Lib.hid (fun (wx : World) (h2 : Le w4 wx) => R1.out wx (Le.trans hb1 h2))
      clear hb1
      have B5 := Blk.new w4 (vcells zval) 43
      have T5 := B5.there 0 3 (Nat.le_refl _)
      have HO : (vcells a).toArray.all (·.oneCell') = true := all_oneCell_toArray (by intro v hv; simp only [vcells, List.mem_cons, List.not_mem_nil, or_false] at hv; rcases hv with rfl | rfl | rfl <;> rfl)
      have S5 := B5.whole (ds := vcells a) rfl
      have LE5 : Le w4 (World.setCells (w4.alloc (.cells (vcells zval).toArray 43)) w4.heap.size 0 (vcells a)) := below_sets (Nat.le_refl _) (vcells a) 0 ((Below.refl w4.heap.size w4).alloc (Nat.le_refl _) _)
      clear B5
      go_wp2_with (first
        | (refine wpList_store_mid rfl 43 (.tmp 5) (.tmp 20) rfl w4.heap.size 0 (vcells a).toArray rfl rfl T5 info_val HO ?_
           simp only [Act.put]
           generalize hw6 : World.setCells _ w4.heap.size 0 (vcells a).toArray.toList = w6
           have S6 : Blk w6 w4.heap.size (vcells a) := hw6 ▸ S5
           have LE6 : Le w4 w6 := hw6 ▸ LE5
           clear hw6 T5 S5 LE5)
        | fail)
      obtain ⟨g5, hg5⟩ : ∃ g5, g5 = w4.heap.size := ⟨_, rfl⟩
      rw [← hg5] at S6 ⊢
      replace hb2 := Lib.hid (hb2.out.trans (LE6.mono hb2.out.size))
      have Q0 : Hid (∀ wx, Le w6 wx → wx.rangeAt w.heap.size 0 (vcells a)) := Lib.hid (fun wx h2 => R0.out wx (Le.trans LE6 h2))
      have Q1 : Hid (∀ wx, Le w6 wx → wx.rangeAt (w.heap.size + 1) 0 (vcells b)) := Lib.hid (fun wx h2 => R1.out wx (Le.trans LE6 h2))
      have Q2 : Hid (∀ wx, Le w6 wx → wx.rangeAt g5 0 (vcells a)) := Lib.hid (fun wx h2 => (S6.later h2).valR)
      clear R0 R1 LE6 hg5 S6 HO
      refine wp_region_steady [] 42 (by kernel_rfl) (by kernel_rfl) (by kernel_rfl) (by rfl) ?_
      iterate 2 (refine wpG_quiet (by rfl) (by rfl) (by rfl) (fun K hK => ?_); go_big_quiet_op; refine hK _ ?_; clear hK K)
      refine wpG_run (by rfl) (by rfl) (.agg (vcells a).toArray) (fun w1 hl => exec_load 43 (.tmp 5) rfl g5 0 rfl (vcells a) _ (Q2.out w1 hl.1) hu rfl info_val) ?_
      simp only [Act.put, List.setIfInBounds_toArray, List.set_cons_zero, List.set_cons_succ]
      refine wpG_run (by rfl) (by rfl) (.agg (vcells a).toArray) (fun w1 hl => exec_load 43 (.tmp 2) rfl w.heap.size 0 rfl (vcells a) _ (Q0.out w1 hl.1) hu rfl info_val) ?_
      simp only [Act.put, List.setIfInBounds_toArray, List.set_cons_zero, List.set_cons_succ]
      refine wpG_run (by rfl) (by rfl) (.bool true) (fun w1 hl => exec_eql 43 _ (.tmp 24) (.tmp 25) rfl _ _ rfl rfl guard_val true (HE0.out w1)) ?_
      simp only [Act.put, List.setIfInBounds_toArray, List.set_cons_zero, List.set_cons_succ]
      iterate 2 (refine wpG_quiet (by rfl) (by rfl) (by rfl) (fun K hK => ?_); go_big_quiet_op; refine hK _ ?_; clear hK K)
      refine wpG_run (by rfl) (by rfl) (.agg (vcells a).toArray) (fun w1 hl => exec_load 43 (.tmp 2) rfl w.heap.size 0 rfl (vcells a) _ (Q0.out w1 hl.1) hu rfl info_val) ?_
      simp only [Act.put, List.setIfInBounds_toArray, List.set_cons_zero, List.set_cons_succ]
      refine wpG_call (by rfl) (by rfl) 49 #[.agg (vcells a).toArray] (.string ta) (by intro _; simp [go_sem]) (by kernel_rfl) (fun w1 hl => (HS0.out w1 (hb2.out.trans (hl.1.mono hb2.out.size)))) ?_
      simp only [Act.put, List.setIfInBounds_toArray, List.set_cons_zero, List.set_cons_succ]
      refine wpG_run (by rfl) (by rfl) (.agg (vcells b).toArray) (fun w1 hl => exec_load 43 (.tmp 3) rfl (w.heap.size + 1) 0 rfl (vcells b) _ (Q1.out w1 hl.1) hu rfl info_val) ?_
      simp only [Act.put, List.setIfInBounds_toArray, List.set_cons_zero, List.set_cons_succ]
      refine wpG_call (by rfl) (by rfl) 49 #[.agg (vcells b).toArray] (.string tb) (by intro _; simp [go_sem]) (by kernel_rfl) (fun w1 hl => (HS1.out w1 (hb2.out.trans (hl.1.mono hb2.out.size)))) ?_
      simp only [Act.put, List.setIfInBounds_toArray, List.set_cons_zero, List.set_cons_succ]
      refine wpG_run (by rfl) (by rfl) (.bool ez) (fun w1 hl => by simp [go_sem, HZ.out]) ?_
      simp only [Act.put, List.setIfInBounds_toArray, List.set_cons_zero, List.set_cons_succ]
      refine wpG_run (by rfl) (by rfl) (.agg (vcells a).toArray) (fun w1 hl => exec_load 43 (.tmp 2) rfl w.heap.size 0 rfl (vcells a) _ (Q0.out w1 hl.1) hu rfl info_val) ?_
      simp only [Act.put, List.setIfInBounds_toArray, List.set_cons_zero, List.set_cons_succ]
      refine wpG_run (by rfl) (by rfl) (.agg (vcells b).toArray) (fun w1 hl => exec_load 43 (.tmp 3) rfl (w.heap.size + 1) 0 rfl (vcells b) _ (Q1.out w1 hl.1) hu rfl info_val) ?_
      simp only [Act.put, List.setIfInBounds_toArray, List.set_cons_zero, List.set_cons_succ]
      refine wpG_run (by rfl) (by rfl) (.bool ez) (fun w1 hl => exec_eql 43 _ (.tmp 34) (.tmp 35) rfl _ _ rfl rfl guard_val ez (HE1.out w1)) ?_
      simp only [Act.put, List.setIfInBounds_toArray, List.set_cons_zero, List.set_cons_succ]
      refine wpG_run (by rfl) (by rfl) (.bool true) (fun w1 hl => by simp [go_sem]) ?_
      simp only [Act.put, List.setIfInBounds_toArray, List.set_cons_zero, List.set_cons_succ]
      iterate 2 (refine wpG_quiet (by rfl) (by rfl) (by rfl) (fun K hK => ?_); go_big_quiet_op; refine hK _ ?_; clear hK K)
      refine wpG_call (by rfl) (by rfl) 34 #[] (.bool true) (by intro _; simp [go_sem]) (by kernel_rfl) (fun w1 hl => (HAW.out w1 (hb2.out.trans (hl.1.mono hb2.out.size)))) ?_
      simp only [Act.put, List.setIfInBounds_toArray, List.set_cons_zero, List.set_cons_succ]
      iterate 2 (refine wpG_quiet (by rfl) (by rfl) (by rfl) (fun K hK => ?_); go_big_quiet_op; refine hK _ ?_; clear hK K)
      refine wpG_nil fun w1 hl _ => ?_
      replace hb2 := Lib.hid (hb2.out.trans (hl.mono hb2.out.size))
      clear hl Q0 Q1 Q2 HAW
      go_wp2_with fail
      go_ret
      exact ⟨rfl, hb2.out⟩
end Go.Proofs.YtgdidamjgaegkaaDoor
