/- Disks: a write that comes to its outcome: settle: what it returns. -/
import Derived.Test.YtjnfdhjnfginpaaDkC
namespace Go.Proofs.Ytjnfdhjnfginpaa
set_option linter.unusedVariables false
set_option linter.unusedSimpArgs false
open Go Go.RowKit

set_option maxRecDepth 100000 in
set_option maxHeartbeats 3200000 in
theorem settle_any (L g b : Nat) (r : Option Nat) (D : Dk) (x : Wr) (o : Int) (w : World) (h : DkAt w L g b r D) (hx : dhas D x.1 = true) :
    Calls Try.prog 28 #[.pointer (some ⟨g, 0, none⟩), .agg (wcell x).toArray, .int .i64 o] w fun e w' => e = .returned (.tuple #[]) ∧ DkAt w' L g b r { D with s := dsettle D.s x o } ∧ Turn3 w w' b b none := by
  obtain ⟨xa, bb⟩ := x
  unfold dhas at hx
  rw [decide_eq_true_eq] at hx
  obtain ⟨k, rfl⟩ : ∃ k : Nat, xa = (k : Int) := ⟨xa.toNat, by omega⟩
  have hk : k < D.s.length := by omega
  have hub := Try.underlying57
  have BW := Blk.new w (wcell ((k : Int), bb)) 59
  have hW := (Below.refl w.heap.size w).alloc (Nat.le_refl _) (.cells (wcell ((k : Int), bb)).toArray 59)
  have H1 := h.later hW
  have HT1 := Lib.hid (Turn3.of_below hW b b none)
  have HBR : Hid (((wcell ((k : Int), bb)).drop 1).take (bvs bb.1).length = bvs bb.1) := Lib.hid (by
    show (bvs bb.1).take (bvs bb.1).length = _
    exact List.take_length)
  have hat := BW.cell (j := 0) (v := .int .i64 (k : Int)) rfl
  obtain ⟨wc, hwc⟩ : ∃ wc, wc = wcell ((k : Int), bb) := ⟨_, rfl⟩
  rw [← hwc] at BW hW H1 HT1 HBR hat ⊢
  obtain ⟨W, hWW⟩ : ∃ W, W = w.alloc (.cells wc.toArray 59) := ⟨_, rfl⟩
  rw [← hWW] at BW hW H1 HT1 hat
  have HWW := Lib.hid hWW
  obtain ⟨n, hn⟩ : ∃ n, n = D.s.length := ⟨_, rfl⟩
  have HN := Lib.hid hn
  have hlt := hW.size
  have hgl := h.lt
  clear hwc hWW h
  by_cases o1 : o = 1
  · subst o1
    obtain ⟨A, c, h0, h1, h2, h3, hrow, hre, hz⟩ := H1.cells
    rw [← hn] at h0 hk
    clear hrow hre hz h1 h2 h3 hn
    have HS : Hid (dsettle D.s ((k : Int), bb) 1 = D.s.set k (bb, false)) := Lib.hid (by unfold dsettle; rw [if_pos rfl]; rfl)
    have HBS := Lib.hid (run_secb bb)
    have TH := Lib.hid (H1.secs.there (k * 65) 65 (by rw [scs_len]; have := HN.out; have := Nat.mul_le_mul_right 65 (Nat.succ_le_of_lt hk); omega))
    have ON := all_oneCell_toArray (scell_one (bb, false))
    have HSL : Hid ((scell (bb, false)).length = 65) := Lib.hid (scell_len _)
    have HD := Lib.hid (H1.setSec k (by rw [← HN.out]; exact hk) (bb, false))
    have HTS := Lib.hid (Turn3.sets W b b b none (scell (bb, false)) (k * 65) (.inr rfl))
    obtain ⟨sc, hsc⟩ : ∃ sc, sc = scell (bb, false) := ⟨_, rfl⟩
    obtain ⟨bl, hbl⟩ : ∃ bl, bl = bvs bb.1 := ⟨_, rfl⟩
    have HBL : Hid (bl.length = 64) := Lib.hid (by rw [hbl, bvs_length, bb.2])
    rw [← hbl] at HBR HBS
    rw [← hsc] at HBS ON HSL HD HTS
    have IN : (Try.prog.info? 63).map (·.size) = some sc.toArray.size := by rw [(List.size_toArray).trans HSL.out]; exact info_sec
    have H1 := Lib.hid H1
    have HSC := Lib.hid hsc
    clear hsc hbl
    rw [HWW.out] at hat
    go_enter Try.func28, Try.ntmps28
    go_wp2_with fail
    rw [← HWW.out]
    rw [← HWW.out] at hat
    have c0 : ∀ kk : LW W, kk.val.cell? ⟨g, 0, none⟩ = some (.slice (some ⟨b, 0, none⟩) n n) := fun kk => (kk.le.cell (p := ⟨g, 0, none⟩) (H1.out.lt.1)).trans h0
    have c1 : ∀ kk : LW W, kk.val.cell? ⟨w.heap.size, 0, none⟩ = some (.int .i64 (k : Int)) := fun kk => (kk.le.cell (p := ⟨w.heap.size, 0, none⟩) BW.lt).trans hat
    clear h0 hat
    refine wp_region_tail [] 29 10 (by kernel_rfl) (by kernel_rfl) (by kernel_rfl) (by rfl) ?_
    simp only [List.take_succ_cons, List.take_zero, List.drop_succ_cons, List.drop_zero]
    iterate 4 (refine wpG_quiet (by rfl) (by rfl) (by rfl) (fun K hK => ?_); go_big_quiet_op; refine hK _ ?_; clear hK K)
    iterate 3 (refine wpG_quiet (by rfl) (by rfl) (by rfl) (fun K hK => ?_); go_big_quiet_op; refine hK _ ?_; clear hK K)
    refine wpG_run (by rfl) (by rfl) (.agg bl.toArray) (fun wx hl => exec_load 57 (.tmp 15) rfl w.heap.size 1 rfl bl _ ((BW.later hl.1).range 1 bl HBR.out) hub rfl (by rw [HBL.out]; exact info_bytes)) ?_
    simp only [Act.put, List.setIfInBounds_toArray, List.set_cons_zero, List.set_cons_succ]
    refine wpG_run (by rfl) (by rfl) (.agg sc.toArray) (fun wx hl => exec_build 63 (.tmp 16) rfl (.agg bl.toArray) (.agg sc.toArray) rfl (HBS.out wx)) ?_
    simp only [Act.put, List.setIfInBounds_toArray, List.set_cons_zero, List.set_cons_succ]
    iterate 1 (refine wpG_quiet (by rfl) (by rfl) (by rfl) (fun K hK => ?_); go_big_quiet_op; refine hK _ ?_; clear hK K)
    refine wpG_nil fun wx hl _ => ?_
    have H5 := Lib.hid (DkAt.setSec (H1.out.later hl) k (by rw [← HN.out]; exact hk) (bb, false))
    have HT5 := Lib.hid ((HT1.out.trans (Turn3.of_below hl b b none) (RowN.refl _ _)).trans (Turn3.sets wx b b b none (scell (bb, false)) (k * 65) (.inr rfl)) (RowN.refl _ _))
    have TH5 : wx.there b (k * 65) sc.toArray.size := by
      rw [(List.size_toArray).trans HSL.out]
      exact (H1.out.secs.later hl).there (k * 65) 65 (by rw [scs_len]; have := HN.out; have := Nat.mul_le_mul_right 65 (Nat.succ_le_of_lt hk); omega)
    rw [← HSC.out] at H5 HT5
    clear c0 c1 hl
    refine wpList_store_mid rfl 63 (.tmp 18) (.tmp 17) rfl b (k * 65) sc.toArray rfl rfl TH5 IN ON ?_
    simp only [Act.put]
    generalize hw6 : World.setCells _ b (k * 65) sc.toArray.toList = w6
    have H6 : DkAt w6 L g b r { D with s := D.s.set k (bb, false) } := by rw [← hw6]; exact H5.out
    have T6 : Turn3 w w6 b b none := by rw [← hw6]; exact HT5.out
    clear hw6 TH5 H5 HT5
    have H6 := Lib.hid H6
    have T6 := Lib.hid T6
    go_wp2_with fail
    go_end0
    exact ⟨rfl, by rw [HS.out]; exact H6.out, T6.out⟩
  · by_cases o2 : o = 2
    · subst o2
      obtain ⟨A, c, h0, h1, h2, h3, hrow, hre, hz⟩ := H1.cells
      rw [← hn] at h0 hk
      clear hrow hre hz h1 h2 h3 hn o1
      have HS : Hid (dsettle D.s ((k : Int), bb) 2 = D.s.set k ((D.s.getD k (z64, false)).1, true)) := Lib.hid (by unfold dsettle; rw [if_neg (by decide), if_pos rfl]; rfl)
      have H1 := Lib.hid H1
      rw [HWW.out] at hat
      go_enter Try.func28, Try.ntmps28
      go_wp2_with fail
      rw [← HWW.out]
      rw [← HWW.out] at hat
      have c0 : ∀ kk : LW W, kk.val.cell? ⟨g, 0, none⟩ = some (.slice (some ⟨b, 0, none⟩) n n) := fun kk => (kk.le.cell (p := ⟨g, 0, none⟩) (H1.out.lt.1)).trans h0
      have c1 : ∀ kk : LW W, kk.val.cell? ⟨w.heap.size, 0, none⟩ = some (.int .i64 (k : Int)) := fun kk => (kk.le.cell (p := ⟨w.heap.size, 0, none⟩) BW.lt).trans hat
      clear h0 hat
      refine wp_region_tail [] 29 8 (by kernel_rfl) (by kernel_rfl) (by kernel_rfl) (by rfl) ?_
      simp only [List.take_succ_cons, List.take_zero, List.drop_succ_cons, List.drop_zero]
      iterate 4 (refine wpG_quiet (by rfl) (by rfl) (by rfl) (fun K hK => ?_); go_big_quiet_op; refine hK _ ?_; clear hK K)
      iterate 2 (refine wpG_quiet (by rfl) (by rfl) (by rfl) (fun K hK => ?_); go_big_quiet_op; refine hK _ ?_; clear hK K)
      iterate 2 (refine wpG_quiet (by rfl) (by rfl) (by rfl) (fun K hK => ?_); go_big_quiet_op; refine hK _ ?_; clear hK K)
      refine wpG_nil fun wx hl _ => ?_
      have H2 := H1.out.later hl
      have fz := H2.secs.frozen (k * 65 + 64)
      have cz : ∃ v, wx.cell? ⟨b, k * 65 + 64, none⟩ = some v := by
        have hlen : k * 65 + 64 < (scs D.s).length := by rw [scs_len]; have := HN.out; have := Nat.mul_le_mul_right 65 (Nat.succ_le_of_lt hk); omega
        exact ⟨_, H2.secs.cell (List.getElem?_eq_getElem hlen)⟩
      obtain ⟨vz, cz⟩ := cz
      have H5 := Lib.hid (DkAt.setBad H2 k (by rw [← HN.out]; exact hk))
      have HT5 := Lib.hid ((HT1.out.trans (Turn3.of_below hl b b none) (RowN.refl _ _)).trans (Turn3.set wx b b b (k * 65 + 64) none (.bool true) (.inr rfl)) (RowN.refl _ _))
      clear c0 c1 hl H2
      trace_state
      go_wp2_with fail
      go_end0
      exact ⟨rfl, by rw [HS.out]; exact H5.out, HT5.out⟩
    · have e1 : (o == 1) = false := by rw [beq_eq_false_iff_ne]; exact o1
      have e2 : (o == 2) = false := by rw [beq_eq_false_iff_ne]; exact o2
      have HS : Hid (dsettle D.s ((k : Int), bb) o = D.s) := Lib.hid (by unfold dsettle; rw [if_neg o1, if_neg o2])
      have H1 := Lib.hid H1
      clear hat hn o1 o2
      go_enter Try.func28, Try.ntmps28
      go_wp2_with fail
      go_end0
      rw [← HWW.out]
      exact ⟨rfl, by rw [HS.out]; exact H1.out, HT1.out⟩
end Go.Proofs.Ytjnfdhjnfginpaa
