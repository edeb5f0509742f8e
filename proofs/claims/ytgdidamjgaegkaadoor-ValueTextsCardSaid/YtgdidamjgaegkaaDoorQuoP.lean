/- Texts of values, and what any text is read as: the walk of ValueTexts. -/
import Derived.Test.YtgdidamjgaegkaaDoorQuoO
import Derived.Test.YtgdidamjgaegkaaDoorValE
namespace Go.Proofs.YtgdidamjgaegkaaDoor
set_option linter.unusedVariables false
open Go Go.RowKit BitM ValM

set_option maxRecDepth 100000 in
set_option maxHeartbeats 6400000 in
theorem walk_vtexts (a : V3) (t : ByteArray) (mm : Int) (w : World) (hmm : MaxV mm w) (ht : Tab w) :
    Calls Tryd.prog 7 #[.agg (vcells a).toArray, .string t] w fun e w' => e = .returned (.bool true) ∧ Below w.heap.size w w' := by
  have hu := Tryd.underlying43
  have HAW := Lib.hid (fun (wx : World) (hb : Below w.heap.size w wx) => vaw_any mm wx (hmm.later hb))
  have B0 := Blk.new w (vcells a) 43
  have hb := (Below.refl w.heap.size w).alloc (Nat.le_refl _) (.cells (vcells a).toArray 43)
  have p2 : (w.alloc (.cells (vcells a).toArray 43)).cell? ⟨w.heap.size, 2, none⟩ = some (.string a.2.2) := B0.val.2.2
  have R0 : Hid (∀ wx, Le (w.alloc (.cells (vcells a).toArray 43)) wx → wx.rangeAt w.heap.size 0 (vcells a) ∧ wx.cell? ⟨w.heap.size, 2, none⟩ = some (.string a.2.2)) := Lib.hid (fun wx hl => ⟨(B0.later hl).valR, (B0.later hl).val.2.2⟩)
  have hb2 := Lib.hid hb
  clear B0 hb hmm
  obtain ⟨ca, hca⟩ : ∃ ca, ca = (vcells a).toArray := ⟨_, rfl⟩
  rw [← hca] at p2 R0 hb2 ⊢
  clear hca
  obtain ⟨g1, hg1⟩ : ∃ x, decide (500 < (a.2.2.size : Int)) = x := ⟨_, rfl⟩
  obtain ⟨g2, hg2⟩ : ∃ x, decide (500 < (t.size : Int)) = x := ⟨_, rfl⟩
  cases g1
  · cases g2
    · have hsa : a.2.2.size ≤ 1000 := by have := of_decide_eq_false hg1; omega
      have hst : t.size ≤ 1000 := by have := of_decide_eq_false hg2; omega
      have HQ1 := Lib.hid (fun wx : World => quote_any a.2.2 wx hsa)
      have HQ2 := Lib.hid (fun wx : World => (rquote_any a.2.2 wx hsa).mono fun e w' (h : e = .returned (.string (str (quo a.2.2.data.toList))) ∧ wx = w') => (show e = .returned (.string (str (quo a.2.2.data.toList))) ∧ Below wx.heap.size wx w' from ⟨h.1, h.2 ▸ Below.refl _ _⟩))
      have HS1 := Lib.hid (fun (wx : World) (hb : Below w.heap.size w wx) => vshow_any a wx (ht.later hb))
      have HS2 := Lib.hid (fun wx : World => rvshow_any a wx)
      have HR1 := Lib.hid (fun (wx : World) (hb : Below w.heap.size w wx) => vread_any t wx hst (ht.later hb))
      have HR2 := Lib.hid (fun wx : World => rread_any t wx hst)
      obtain ⟨q, hq⟩ : ∃ z, z = str (quo a.2.2.data.toList) := ⟨_, rfl⟩
      obtain ⟨sh, hsh⟩ : ∃ z, z = str (vshow a) := ⟨_, rfl⟩
      obtain ⟨vr, hvr⟩ : ∃ z, z = vrd t := ⟨_, rfl⟩
      rw [← hq] at HQ1 HQ2
      rw [← hsh] at HS1 HS2
      rw [← hvr] at HR1 HR2
      clear hq hsh hvr hsa hst ht
      obtain ⟨x, ok⟩ := vr
      simp only at HR1 HR2
      have HE0 := Lib.hid (fun wx : World => eq_val 9998 x x wx)
      rw [decide_eq_true (show x = x from rfl)] at HE0
      have HO : (vcells x).toArray.all (·.oneCell') = true := all_oneCell_toArray (by intro v hv; simp only [vcells, List.mem_cons, List.not_mem_nil, or_false] at hv; rcases hv with rfl | rfl | rfl <;> rfl)
      go_enter Tryd.func7, Tryd.ntmps7
      go_wp2_with fail
      refine (HR1.out _ hb2.out).mono ?_
      rintro e w3 ⟨rfl, hb1⟩
      replace hb2 := Lib.hid (hb2.out.trans (hb1.mono hb2.out.size))
      replace R0 := Lib.hid (fun (wx : World) (h2 : Le w3 wx) => R0.out wx (Le.trans hb1 h2))
      clear hb1 p2
      have B5 := Blk.new w3 (vcells zval) 43
      have T5 := B5.there 0 3 (Nat.le_refl _)
      have S5 := B5.whole (ds := vcells x) rfl
      have LE5 : Le w3 (World.setCells (w3.alloc (.cells (vcells zval).toArray 43)) w3.heap.size 0 (vcells x)) := below_sets (Nat.le_refl _) (vcells x) 0 ((Below.refl w3.heap.size w3).alloc (Nat.le_refl _) _)
      clear B5
      go_wp2_with (first
        | (refine wpList_store_mid rfl 43 (.tmp 5) (.tmp 22) rfl w3.heap.size 0 (vcells x).toArray rfl rfl T5 info_val HO ?_
           simp only [Act.put]
           generalize hw6 : World.setCells _ w3.heap.size 0 (vcells x).toArray.toList = w4
           have S5' : Blk w4 w3.heap.size (vcells x) := hw6 ▸ S5
           have LE5' : Le w3 w4 := hw6 ▸ LE5
           clear hw6 T5 S5 LE5)
        | fail)
      obtain ⟨g5, hg5⟩ : ∃ g, g = w3.heap.size := ⟨_, rfl⟩
      rw [← hg5] at S5' ⊢
      replace hb2 := Lib.hid (hb2.out.trans (LE5'.mono hb2.out.size))
      replace R0 := Lib.hid (fun (wx : World) (h2 : Le w4 wx) => R0.out wx (Le.trans LE5' h2))
      clear hg5 LE5'
      refine (HR2.out _).mono ?_
      rintro e w5 ⟨rfl, hb1⟩
      replace hb2 := Lib.hid (hb2.out.trans (hb1.mono hb2.out.size))
      replace R0 := Lib.hid (fun (wx : World) (h2 : Le w5 wx) => R0.out wx (Le.trans hb1 h2))
      replace S5' := S5'.later hb1
      clear hb1
      have B7 := Blk.new w5 (vcells zval) 43
      have T7 := B7.there 0 3 (Nat.le_refl _)
      have S7 := B7.whole (ds := vcells x) rfl
      have LE7 : Le w5 (World.setCells (w5.alloc (.cells (vcells zval).toArray 43)) w5.heap.size 0 (vcells x)) := below_sets (Nat.le_refl _) (vcells x) 0 ((Below.refl w5.heap.size w5).alloc (Nat.le_refl _) _)
      clear B7
      go_wp2_with (first
        | (refine wpList_store_mid rfl 43 (.tmp 7) (.tmp 27) rfl w5.heap.size 0 (vcells x).toArray rfl rfl T7 info_val HO ?_
           simp only [Act.put]
           generalize hw6 : World.setCells _ w5.heap.size 0 (vcells x).toArray.toList = w6
           have S7' : Blk w6 w5.heap.size (vcells x) := hw6 ▸ S7
           have LE7' : Le w5 w6 := hw6 ▸ LE7
           clear hw6 T7 S7 LE7)
        | fail)
      obtain ⟨g7, hg7⟩ : ∃ g, g = w5.heap.size := ⟨_, rfl⟩
      rw [← hg7] at S7' ⊢
      replace hb2 := Lib.hid (hb2.out.trans (LE7'.mono hb2.out.size))
      have P0 := fun (wx : World) (h2 : Le w6 wx) => R0.out wx (Le.trans LE7' h2)
      replace S5' := S5'.later LE7'
      have Q0 : Hid (∀ wx, Le w6 wx → wx.rangeAt w.heap.size 0 (vcells a)) := Lib.hid fun wx h2 => (P0 wx h2).1
      have Q1 : Hid (∀ wx, Le w6 wx → wx.rangeAt g5 0 (vcells x)) := Lib.hid (fun wx h2 => (S5'.later h2).valR)
      have Q2 : Hid (∀ wx, Le w6 wx → wx.rangeAt g7 0 (vcells x)) := Lib.hid (fun wx h2 => (S7'.later h2).valR)
      have P2 : ∀ kk : LW w6, kk.val.cell? ⟨w.heap.size, 2, none⟩ = some (.string a.2.2) := fun kk => (P0 kk.val kk.le).2
      clear R0 P0 LE7' hg7 S5' S7' HO
      refine wp_region_steady [] 56 (by kernel_rfl) (by kernel_rfl) (by kernel_rfl) (by rfl) ?_
      iterate 2 (refine wpG_quiet (by rfl) (by rfl) (by rfl) (fun K hK => ?_); go_big_quiet_op; refine hK _ ?_; clear hK K)
      refine wpG_call (by rfl) (by rfl) 47 #[.string a.2.2] (.string q) (by intro _; simp [go_sem]) (by kernel_rfl) (fun w1 hl => (HQ1.out w1)) ?_
      simp only [Act.put, List.setIfInBounds_toArray, List.set_cons_zero, List.set_cons_succ]
      iterate 2 (refine wpG_quiet (by rfl) (by rfl) (by rfl) (fun K hK => ?_); go_big_quiet_op; refine hK _ ?_; clear hK K)
      refine wpG_call (by rfl) (by rfl) 48 #[.string a.2.2] (.string q) (by intro _; simp [go_sem]) (by kernel_rfl) (fun w1 hl => (HQ2.out w1)) ?_
      simp only [Act.put, List.setIfInBounds_toArray, List.set_cons_zero, List.set_cons_succ]
      refine wpG_run (by rfl) (by rfl) (.bool true) (fun w1 hl => by simp [go_sem]) ?_
      simp only [Act.put, List.setIfInBounds_toArray, List.set_cons_zero, List.set_cons_succ]
      iterate 1 (refine wpG_quiet (by rfl) (by rfl) (by rfl) (fun K hK => ?_); go_big_quiet_op; refine hK _ ?_; clear hK K)
      refine wpG_run (by rfl) (by rfl) (.agg (vcells a).toArray) (fun w1 hl => exec_load 43 (.tmp 2) rfl w.heap.size 0 rfl (vcells a) _ (Q0.out w1 hl.1) hu rfl info_val) ?_
      simp only [Act.put, List.setIfInBounds_toArray, List.set_cons_zero, List.set_cons_succ]
      refine wpG_call (by rfl) (by rfl) 49 #[.agg (vcells a).toArray] (.string sh) (by intro _; simp [go_sem]) (by kernel_rfl) (fun w1 hl => (HS1.out w1 (hb2.out.trans (hl.1.mono hb2.out.size)))) ?_
      simp only [Act.put, List.setIfInBounds_toArray, List.set_cons_zero, List.set_cons_succ]
      refine wpG_run (by rfl) (by rfl) (.agg (vcells a).toArray) (fun w1 hl => exec_load 43 (.tmp 2) rfl w.heap.size 0 rfl (vcells a) _ (Q0.out w1 hl.1) hu rfl info_val) ?_
      simp only [Act.put, List.setIfInBounds_toArray, List.set_cons_zero, List.set_cons_succ]
      refine wpG_call (by rfl) (by rfl) 50 #[.agg (vcells a).toArray] (.string sh) (by intro _; simp [go_sem]) (by kernel_rfl) (fun w1 hl => (HS2.out w1)) ?_
      simp only [Act.put, List.setIfInBounds_toArray, List.set_cons_zero, List.set_cons_succ]
      refine wpG_run (by rfl) (by rfl) (.bool true) (fun w1 hl => by simp [go_sem]) ?_
      simp only [Act.put, List.setIfInBounds_toArray, List.set_cons_zero, List.set_cons_succ]
      iterate 2 (refine wpG_quiet (by rfl) (by rfl) (by rfl) (fun K hK => ?_); go_big_quiet_op; refine hK _ ?_; clear hK K)
      refine wpG_run (by rfl) (by rfl) (.agg (vcells x).toArray) (fun w1 hl => exec_load 43 (.tmp 5) rfl g5 0 rfl (vcells x) _ (Q1.out w1 hl.1) hu rfl info_val) ?_
      simp only [Act.put, List.setIfInBounds_toArray, List.set_cons_zero, List.set_cons_succ]
      refine wpG_run (by rfl) (by rfl) (.agg (vcells x).toArray) (fun w1 hl => exec_load 43 (.tmp 7) rfl g7 0 rfl (vcells x) _ (Q2.out w1 hl.1) hu rfl info_val) ?_
      simp only [Act.put, List.setIfInBounds_toArray, List.set_cons_zero, List.set_cons_succ]
      refine wpG_run (by rfl) (by rfl) (.bool true) (fun w1 hl => exec_eql 43 _ (.tmp 44) (.tmp 45) rfl _ _ rfl rfl guard_val true (HE0.out w1)) ?_
      simp only [Act.put, List.setIfInBounds_toArray, List.set_cons_zero, List.set_cons_succ]
      iterate 2 (refine wpG_quiet (by rfl) (by rfl) (by rfl) (fun K hK => ?_); go_big_quiet_op; refine hK _ ?_; clear hK K)
      iterate 2 (refine wpG_quiet (by rfl) (by rfl) (by rfl) (fun K hK => ?_); go_big_quiet_op; refine hK _ ?_; clear hK K)
      refine wpG_run (by rfl) (by rfl) (.bool true) (fun w1 hl => by simp [go_sem]) ?_
      simp only [Act.put, List.setIfInBounds_toArray, List.set_cons_zero, List.set_cons_succ]
      iterate 2 (refine wpG_quiet (by rfl) (by rfl) (by rfl) (fun K hK => ?_); go_big_quiet_op; refine hK _ ?_; clear hK K)
      refine wpG_call (by rfl) (by rfl) 34 #[] (.bool true) (by intro _; simp [go_sem]) (by kernel_rfl) (fun w1 hl => (HAW.out w1 (hb2.out.trans (hl.1.mono hb2.out.size)))) ?_
      simp only [Act.put, List.setIfInBounds_toArray, List.set_cons_zero, List.set_cons_succ]
      iterate 2 (refine wpG_quiet (by rfl) (by rfl) (by rfl) (fun K hK => ?_); go_big_quiet_op; refine hK _ ?_; clear hK K)
      refine wpG_nil fun w1 hl _ => ?_
      replace hb2 := Lib.hid (hb2.out.trans (hl.mono hb2.out.size))
      clear hl Q0 Q1 Q2 P2 HAW
      go_wp2_with fail
      go_ret
      exact ⟨rfl, hb2.out⟩
    · go_enter Tryd.func7, Tryd.ntmps7
      go_wp2_with fail
      refine (HAW.out _ hb2.out).mono ?_
      rintro e w1 ⟨rfl, hb1⟩
      replace hb2 := Lib.hid (hb2.out.trans (hb1.mono hb2.out.size))
      go_wp2_with fail
      go_ret
      exact ⟨rfl, hb2.out⟩
  · go_enter Tryd.func7, Tryd.ntmps7
    go_wp2_with fail
    refine (HAW.out _ hb2.out).mono ?_
    rintro e w1 ⟨rfl, hb1⟩
    replace hb2 := Lib.hid (hb2.out.trans (hb1.mono hb2.out.size))
    go_wp2_with fail
    go_ret
    exact ⟨rfl, hb2.out⟩
end Go.Proofs.YtgdidamjgaegkaaDoor
