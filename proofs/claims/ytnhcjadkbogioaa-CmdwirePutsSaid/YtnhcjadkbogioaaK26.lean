/- Commands: CmdwirePuts' walk. -/
import Derived.Test.YtnhcjadkbogioaaK22
import Derived.Test.YtnhcjadkbogioaaK23
import Derived.Test.YtnhcjadkbogioaaK24
import Derived.Test.YtnhcjadkbogioaaK25
import Derived.Test.YtnhcjadkbogioaaK21
namespace Go.Proofs.Ytnhcjadkbogioaa
set_option linter.unusedVariables false
set_option linter.unusedSimpArgs false
open Go Go.RowKit OctM

theorem small_n33 {w : World} {x : Cm} (h : okCm w x) (hb : cbig x = false) : x.n ≤ 65536 := by
  unfold cbig at hb
  rw [Bool.or_eq_false_iff] at hb
  have hb := hb.2
  unfold lbig at hb
  rw [Bool.or_eq_false_iff] at hb
  have h1 := of_decide_eq_false hb.1
  rw [← h.len]
  omega
set_option maxRecDepth 100000 in
set_option maxHeartbeats 6400000 in
theorem walk_cputs (a o : Cm) (A : Option Addr) (n c : Nat) (l : List UInt8) (w : World) (hra : okCm w a) (hro : okCm w o) (hn : l.length = n) (hs : Sees w w.heap.size A (bvs l)) :
    Calls Try.prog 3 #[.agg (cmc a).toArray, .agg (cmc o).toArray, .slice A n c] w fun e w' => e = .returned (.bool true) ∧ Below w.heap.size w w' := by
  have hu := Try.underlying32
  have HAW := Lib.hid (fun wx : World => cm_awake wx)
  have HLA := Lib.hid (cmc_len hra.e8 hra.p8)
  have HLO := Lib.hid (cmc_len hro.e8 hro.p8)
  obtain ⟨W0, hW0⟩ : ∃ W0, W0 = (w.alloc (.cells (cmc a).toArray 32)).alloc (.cells (cmc o).toArray 32) := ⟨_, rfl⟩
  have HB0 : Hid (Below w.heap.size w W0) := Lib.hid (by rw [hW0]; exact (below_a1C _ _).alloc (below_a1C _ _).size _)
  have HKA : Hid (Blk W0 w.heap.size (cmc a)) := Lib.hid (by rw [hW0]; exact (Blk.new _ _ _).alloc _)
  have HKO : Hid (Blk W0 (w.heap.size + 1) (cmc o)) := Lib.hid (by
    have h2 := Blk.new (w.alloc (.cells (cmc a).toArray 32)) (cmc o) 32
    rw [show (w.alloc (.cells (cmc a).toArray 32)).heap.size = w.heap.size + 1 by simp] at h2
    rw [hW0]; exact h2)
  have HW0 := Lib.hid hW0
  have HBA := Lib.hid (fun W (hW : Below w.heap.size w W) => clarge_any a W (hra.later hW))
  have HBO := Lib.hid (fun W (hW : Below w.heap.size w W) => clarge_any o W (hro.later hW))
  have HSM := Lib.hid (fun (h : a.n ≤ 65536) W (hW : Below w.heap.size w W) => csame_any a o W (hra.later hW) (hro.later hW) h)
  have HRSM := Lib.hid (fun (h : a.n ≤ 65536) W (hW : Below w.heap.size w W) => rcsame_any a o W (hra.later hW) (hro.later hW) h)
  have HSA := Lib.hid (fun (h : a.n ≤ 65536) W (hW : Below w.heap.size w W) => csame_any a a W (hra.later hW) (hra.later hW) h)
  have HPU := Lib.hid (fun (h5 : n ≤ 500) W (hW : Below w.heap.size w W) => cput_any A n c l a W hn ((hs.below hW).more hW.size) (by omega) (hra.later hW))
  have HRPU := Lib.hid (fun W (hW : Below w.heap.size w W) => rcput_any a W (hra.later hW))
  have HSN := Lib.hid (fun (h : cbig a = false) => small_n33 hra h)
  have hpl := putC_len a
  rw [show decide (csm a a) = true from decide_eq_true (csm_self a)] at HSA
  obtain ⟨sm, hsm⟩ : ∃ b, b = decide (csm a o) := ⟨_, rfl⟩
  obtain ⟨pb, hpb⟩ : ∃ b, b = putC a := ⟨_, rfl⟩
  obtain ⟨ba, hba⟩ : ∃ b, b = cbig a := ⟨_, rfl⟩
  obtain ⟨bo, hbo⟩ : ∃ b, b = cbig o := ⟨_, rfl⟩
  obtain ⟨lp, hlp⟩ : ∃ z, z = l ++ pb := ⟨_, rfl⟩
  obtain ⟨rp, hrp⟩ : ∃ z, z = str pb := ⟨_, rfl⟩
  rw [← hsm] at HSM HRSM
  rw [← hpb] at HPU HRPU hpl
  rw [← hlp] at HPU
  rw [← hrp] at HRPU
  rw [← hba] at HBA HSN
  rw [← hbo] at HBO
  have hmm : (sm == sm) = true := by simp
  obtain ⟨kp, hkp⟩ : ∃ z, z = lp.length := ⟨_, rfl⟩
  obtain ⟨ss, hss⟩ : ∃ z, z = str l := ⟨_, rfl⟩
  obtain ⟨sp, hsp⟩ : ∃ z, z = str lp := ⟨_, rfl⟩
  have addp : ss ++ rp = sp := by rw [hss, hrp, str_append, hsp, hlp]
  have zs : ss.size = n := by rw [hss, str_size, hn]
  have zp : rp.size ≤ 2000 := by rw [hrp, str_size]; exact hpl
  have KP : Hid (lp.length = kp) := Lib.hid hkp.symm
  have CP : Hid (∀ (wx : World) (A' : Option Addr) (c' : Nat) (h : Sees wx wx.heap.size A' (bvs lp)), (convert 33 9 (.slice A' kp c')).run Try.prog wx = .ok (.string sp) wx) := Lib.hid (fun wx A' c' h => str_conv wx wx.heap.size A' kp c' lp sp hkp.symm h hsp)
  have HSS : Hid (∀ wx : World, Below w.heap.size w wx → (convert 33 9 (.slice A n c)).run Try.prog wx = .ok (.string ss) wx) := Lib.hid (fun wx hb => str_conv wx w.heap.size A n c l ss hn (hs.below hb) hss)
  obtain ⟨an, han⟩ : ∃ z, z = a.n := ⟨_, rfl⟩
  rw [← han] at HSM HRSM HSA HSN
  obtain ⟨ca, hca⟩ : ∃ ca, ca = cmc a := ⟨_, rfl⟩
  obtain ⟨co, hco⟩ : ∃ co, co = cmc o := ⟨_, rfl⟩
  rw [← hca] at HLA HKA HW0 HBA HSM HRSM HSA HPU HRPU ⊢
  rw [← hco] at HLO HKO HW0 HBO HSM HRSM ⊢
  clear hsm hpb hba hbo hlp hrp hkp hss hsp hn hs hra hro hca hco hW0 hpl han
  by_cases h5 : n ≤ 500
  · have d5 : decide ((500 : Int) < (n : Int)) = false := by simp; omega
    cases ba
    · have hnf := HSN.out rfl
      have HSM := Lib.hid (HSM.out hnf)
      have HRSM := Lib.hid (HRSM.out hnf)
      have HSA := Lib.hid (HSA.out hnf)
      clear hnf HSN
      cases bo
      · have RGA := HKA.out.range 0 ca (by rw [List.drop_zero, List.take_length])
        rw [HW0.out] at RGA
        go_enter Try.func3, Try.ntmps3
        go_wp2_with (first
          | (refine wpList_load_mid rfl 32 (.tmp 3) rfl w.heap.size 0 rfl ca _ RGA hu rfl (by rw [HLA.out]; exact info_cm) ?_; simp only [Act.put, List.setIfInBounds_toArray, List.set_cons_zero, List.set_cons_succ])
          | fail)
        rw [← HW0.out]
        refine (HBA.out _ HB0.out).mono ?_
        rintro e wa ⟨rfl, hba⟩
        clear RGA
        have HBX := Lib.hid (HB0.out.trans (hba.mono HB0.out.size))
        have HKA := Lib.hid (HKA.out.later hba)
        have HKO := Lib.hid (HKO.out.later hba)
        have RGA := HKA.out.range 0 ca (by rw [List.drop_zero, List.take_length])
        have RGO := HKO.out.range 0 co (by rw [List.drop_zero, List.take_length])
        clear hba
        go_wp2_with (first
          | (refine wpList_load_mid rfl 32 (.tmp 3) rfl w.heap.size 0 rfl ca _ RGA hu rfl (by rw [HLA.out]; exact info_cm) ?_; simp only [Act.put, List.setIfInBounds_toArray, List.set_cons_zero, List.set_cons_succ])
          | (refine wpList_load_g rfl 32 (.tmp 4) rfl (w.heap.size + 1) 0 rfl co _ RGO hu rfl (by rw [HLO.out]; exact info_cm) ?_; simp only [Act.put, List.setIfInBounds_toArray, List.set_cons_zero, List.set_cons_succ])
          | (refine wpList_load_mid rfl 32 (.tmp 4) rfl (w.heap.size + 1) 0 rfl co _ RGO hu rfl (by rw [HLO.out]; exact info_cm) ?_; simp only [Act.put, List.setIfInBounds_toArray, List.set_cons_zero, List.set_cons_succ])
          | fail)
        refine (HBO.out _ HBX.out).mono ?_
        rintro e W1 ⟨rfl, hba⟩
        have HB1 := Lib.hid (HBX.out.trans (hba.mono HBX.out.size))
        have HKA := Lib.hid (HKA.out.later hba)
        have HKO := Lib.hid (HKO.out.later hba)
        clear hba RGA RGO
        have RGA := HKA.out.range 0 ca (by rw [List.drop_zero, List.take_length])
        have RGO := HKO.out.range 0 co (by rw [List.drop_zero, List.take_length])
        have HBW : Hid (∀ W, Le W1 W → Below w.heap.size w W) := Lib.hid (fun W hl => HB1.out.trans (Below.mono hl HB1.out.size))
        have HRA : Hid (∀ W, Le W1 W → W.rangeAt w.heap.size 0 ca) := Lib.hid (fun W hl => (HKA.out.later hl).range 0 ca (by rw [List.drop_zero, List.take_length]))
        have HRO : Hid (∀ W, Le W1 W → W.rangeAt (w.heap.size + 1) 0 co) := Lib.hid (fun W hl => (HKO.out.later hl).range 0 co (by rw [List.drop_zero, List.take_length]))
        have HPU := Lib.hid (HPU.out h5)
        clear RGA RGO
        go_wp2_with (first
          | (refine wpList_load_mid rfl 32 (.tmp 3) rfl w.heap.size 0 rfl ca _ (HRA.out _ (Below.refl _ _)) hu rfl (by rw [HLA.out]; exact info_cm) ?_; simp only [Act.put, List.setIfInBounds_toArray, List.set_cons_zero, List.set_cons_succ])
          | (refine wpList_load_g rfl 32 (.tmp 4) rfl (w.heap.size + 1) 0 rfl co _ (HRO.out _ (Below.refl _ _)) hu rfl (by rw [HLO.out]; exact info_cm) ?_; simp only [Act.put, List.setIfInBounds_toArray, List.set_cons_zero, List.set_cons_succ])
          | (refine wpList_load_mid rfl 32 (.tmp 4) rfl (w.heap.size + 1) 0 rfl co _ (HRO.out _ (Below.refl _ _)) hu rfl (by rw [HLO.out]; exact info_cm) ?_; simp only [Act.put, List.setIfInBounds_toArray, List.set_cons_zero, List.set_cons_succ])
          | fail)
        refine wp_region_steady [(21, relSee kp lp)] 46 (by kernel_rfl) (by kernel_rfl) (by kernel_rfl) (by rfl) ?_
        iterate 1 (refine wpG_quiet (by rfl) (by rfl) (by rfl) (fun K hK => ?_); go_big_quiet_op; refine hK _ ?_; clear hK K)
        refine wpG_run (by rfl) (by rfl) (.agg ca.toArray) (fun wx hl => exec_load 32 (.tmp 3) rfl w.heap.size 0 rfl ca _ (HRA.out wx hl.1) hu rfl (by rw [HLA.out]; exact info_cm)) ?_
        simp only [Act.put, List.setIfInBounds_toArray, List.set_cons_zero, List.set_cons_succ]
        refine wpG_calls (relSee kp lp) (by rfl) (by rfl) 7 #[.slice A n c, .agg ca.toArray] (by intro _; simp [go_sem]) (fun w1 hl => (HPU.out w1 (HBW.out w1 hl.1)).mono fun e w' h => gives_see KP.out h) ?_
        rintro _ ⟨_, _, _, ⟨A1, c1, rfl, _⟩⟩
        simp only [Act.put, List.setIfInBounds_toArray, List.set_cons_zero, List.set_cons_succ]
        refine wpG_run (by rfl) (by rfl) (.string sp) (fun w1 hl => ?_) ?_
        · obtain ⟨A2, c2, h2, s2⟩ := hl.2 21 _ (by simp [Op.operands]) rfl (by intro h; cases h)
          cases h2
          exact exec_conv (.tmp 21) 33 9 rfl _ rfl _ (CP.out w1 A1 c1 s2)
        simp only [Act.put, List.setIfInBounds_toArray, List.set_cons_zero, List.set_cons_succ]
        iterate 1 (refine wpG_quiet (by rfl) (by rfl) (by rfl) (fun K hK => ?_); go_big_quiet_op; refine hK _ ?_; clear hK K)
        refine wpG_run (by rfl) (by rfl) (.string ss) (fun w1 hl => exec_conv (.tmp 23) 33 9 rfl _ rfl _ (HSS.out w1 (HBW.out w1 hl.1))) ?_
        simp only [Act.put, List.setIfInBounds_toArray, List.set_cons_zero, List.set_cons_succ]
        refine wpG_run (by rfl) (by rfl) (.agg ca.toArray) (fun wx hl => exec_load 32 (.tmp 3) rfl w.heap.size 0 rfl ca _ (HRA.out wx hl.1) hu rfl (by rw [HLA.out]; exact info_cm)) ?_
        simp only [Act.put, List.setIfInBounds_toArray, List.set_cons_zero, List.set_cons_succ]
        refine wpG_call (by rfl) (by rfl) 8 #[.agg ca.toArray] (.string rp) (by intro _; simp [go_sem]) (by kernel_rfl) (fun wx hl => HRPU.out wx (HBW.out wx hl.1)) ?_
        simp only [Act.put, List.setIfInBounds_toArray, List.set_cons_zero, List.set_cons_succ]
        iterate 3 (refine wpG_quiet (by rfl) (by rfl) (by rfl) (fun K hK => ?_); go_big_quiet_op; refine hK _ ?_; clear hK K)
        refine wpG_run (by rfl) (by rfl) (.agg ca.toArray) (fun wx hl => exec_load 32 (.tmp 3) rfl w.heap.size 0 rfl ca _ (HRA.out wx hl.1) hu rfl (by rw [HLA.out]; exact info_cm)) ?_
        simp only [Act.put, List.setIfInBounds_toArray, List.set_cons_zero, List.set_cons_succ]
        refine wpG_run (by rfl) (by rfl) (.agg co.toArray) (fun wx hl => exec_load 32 (.tmp 4) rfl (w.heap.size + 1) 0 rfl co _ (HRO.out wx hl.1) hu rfl (by rw [HLO.out]; exact info_cm)) ?_
        simp only [Act.put, List.setIfInBounds_toArray, List.set_cons_zero, List.set_cons_succ]
        refine wpG_call (by rfl) (by rfl) 9 #[.agg ca.toArray, .agg co.toArray] (.bool sm) (by intro _; simp [go_sem]) (by kernel_rfl) (fun wx hl => HSM.out wx (HBW.out wx hl.1)) ?_
        simp only [Act.put, List.setIfInBounds_toArray, List.set_cons_zero, List.set_cons_succ]
        refine wpG_run (by rfl) (by rfl) (.agg ca.toArray) (fun wx hl => exec_load 32 (.tmp 3) rfl w.heap.size 0 rfl ca _ (HRA.out wx hl.1) hu rfl (by rw [HLA.out]; exact info_cm)) ?_
        simp only [Act.put, List.setIfInBounds_toArray, List.set_cons_zero, List.set_cons_succ]
        refine wpG_run (by rfl) (by rfl) (.agg co.toArray) (fun wx hl => exec_load 32 (.tmp 4) rfl (w.heap.size + 1) 0 rfl co _ (HRO.out wx hl.1) hu rfl (by rw [HLO.out]; exact info_cm)) ?_
        simp only [Act.put, List.setIfInBounds_toArray, List.set_cons_zero, List.set_cons_succ]
        refine wpG_call (by rfl) (by rfl) 10 #[.agg ca.toArray, .agg co.toArray] (.bool sm) (by intro _; simp [go_sem]) (by kernel_rfl) (fun wx hl => HRSM.out wx (HBW.out wx hl.1)) ?_
        simp only [Act.put, List.setIfInBounds_toArray, List.set_cons_zero, List.set_cons_succ]
        iterate 3 (refine wpG_quiet (by rfl) (by rfl) (by rfl) (fun K hK => ?_); go_big_quiet_op; refine hK _ ?_; clear hK K)
        refine wpG_run (by rfl) (by rfl) (.agg ca.toArray) (fun wx hl => exec_load 32 (.tmp 3) rfl w.heap.size 0 rfl ca _ (HRA.out wx hl.1) hu rfl (by rw [HLA.out]; exact info_cm)) ?_
        simp only [Act.put, List.setIfInBounds_toArray, List.set_cons_zero, List.set_cons_succ]
        refine wpG_run (by rfl) (by rfl) (.agg ca.toArray) (fun wx hl => exec_load 32 (.tmp 3) rfl w.heap.size 0 rfl ca _ (HRA.out wx hl.1) hu rfl (by rw [HLA.out]; exact info_cm)) ?_
        simp only [Act.put, List.setIfInBounds_toArray, List.set_cons_zero, List.set_cons_succ]
        refine wpG_call (by rfl) (by rfl) 9 #[.agg ca.toArray, .agg ca.toArray] (.bool true) (by intro _; simp [go_sem]) (by kernel_rfl) (fun wx hl => HSA.out wx (HBW.out wx hl.1)) ?_
        simp only [Act.put, List.setIfInBounds_toArray, List.set_cons_zero, List.set_cons_succ]
        iterate 2 (refine wpG_quiet (by rfl) (by rfl) (by rfl) (fun K hK => ?_); go_big_quiet_op; refine hK _ ?_; clear hK K)
        refine wpG_call (by rfl) (by rfl) 6 #[] (.bool true) (by intro _; simp [go_sem]) (by kernel_rfl) (fun wx hl => HAW.out wx) ?_
        simp only [Act.put, List.setIfInBounds_toArray, List.set_cons_zero, List.set_cons_succ]
        iterate 2 (refine wpG_quiet (by rfl) (by rfl) (by rfl) (fun K hK => ?_); go_big_quiet_op; refine hK _ ?_; clear hK K)
        refine wpG_nil fun w3 hl3 _ => ?_
        have HB3 := Lib.hid (HBW.out w3 hl3)
        clear hl3
        go_wp2_with fail
        go_ret
        exact ⟨rfl, HB3.out⟩
      · have RGA := HKA.out.range 0 ca (by rw [List.drop_zero, List.take_length])
        rw [HW0.out] at RGA
        go_enter Try.func3, Try.ntmps3
        go_wp2_with (first
          | (refine wpList_load_mid rfl 32 (.tmp 3) rfl w.heap.size 0 rfl ca _ RGA hu rfl (by rw [HLA.out]; exact info_cm) ?_; simp only [Act.put, List.setIfInBounds_toArray, List.set_cons_zero, List.set_cons_succ])
          | fail)
        rw [← HW0.out]
        refine (HBA.out _ HB0.out).mono ?_
        rintro e wa ⟨rfl, hba⟩
        clear RGA
        have HBX := Lib.hid (HB0.out.trans (hba.mono HB0.out.size))
        have HKA := Lib.hid (HKA.out.later hba)
        have HKO := Lib.hid (HKO.out.later hba)
        have RGA := HKA.out.range 0 ca (by rw [List.drop_zero, List.take_length])
        have RGO := HKO.out.range 0 co (by rw [List.drop_zero, List.take_length])
        clear hba
        go_wp2_with (first
          | (refine wpList_load_mid rfl 32 (.tmp 3) rfl w.heap.size 0 rfl ca _ RGA hu rfl (by rw [HLA.out]; exact info_cm) ?_; simp only [Act.put, List.setIfInBounds_toArray, List.set_cons_zero, List.set_cons_succ])
          | (refine wpList_load_g rfl 32 (.tmp 4) rfl (w.heap.size + 1) 0 rfl co _ RGO hu rfl (by rw [HLO.out]; exact info_cm) ?_; simp only [Act.put, List.setIfInBounds_toArray, List.set_cons_zero, List.set_cons_succ])
          | (refine wpList_load_mid rfl 32 (.tmp 4) rfl (w.heap.size + 1) 0 rfl co _ RGO hu rfl (by rw [HLO.out]; exact info_cm) ?_; simp only [Act.put, List.setIfInBounds_toArray, List.set_cons_zero, List.set_cons_succ])
          | fail)
        refine (HBO.out _ HBX.out).mono ?_
        rintro e W1 ⟨rfl, hba⟩
        have HB1 := Lib.hid (HBX.out.trans (hba.mono HBX.out.size))
        have HKA := Lib.hid (HKA.out.later hba)
        have HKO := Lib.hid (HKO.out.later hba)
        clear hba RGA RGO
        have RGA := HKA.out.range 0 ca (by rw [List.drop_zero, List.take_length])
        have RGO := HKO.out.range 0 co (by rw [List.drop_zero, List.take_length])
        go_wp2_with fail
        refine (HAW.out _).mono ?_
        rintro e wa ⟨rfl, hba⟩
        have HBA := Lib.hid (HB1.out.trans (hba.mono HB1.out.size))
        clear hba
        go_wp2_with fail
        go_ret
        exact ⟨rfl, HBA.out⟩
    · have RGA := HKA.out.range 0 ca (by rw [List.drop_zero, List.take_length])
      rw [HW0.out] at RGA
      go_enter Try.func3, Try.ntmps3
      go_wp2_with (first
        | (refine wpList_load_mid rfl 32 (.tmp 3) rfl w.heap.size 0 rfl ca _ RGA hu rfl (by rw [HLA.out]; exact info_cm) ?_; simp only [Act.put, List.setIfInBounds_toArray, List.set_cons_zero, List.set_cons_succ])
        | fail)
      rw [← HW0.out]
      refine (HBA.out _ HB0.out).mono ?_
      rintro e wa ⟨rfl, hba⟩
      clear RGA
      have HBX := Lib.hid (HB0.out.trans (hba.mono HB0.out.size))
      have HKA := Lib.hid (HKA.out.later hba)
      have HKO := Lib.hid (HKO.out.later hba)
      have RGA := HKA.out.range 0 ca (by rw [List.drop_zero, List.take_length])
      have RGO := HKO.out.range 0 co (by rw [List.drop_zero, List.take_length])
      clear hba
      go_wp2_with fail
      refine (HAW.out _).mono ?_
      rintro e wa ⟨rfl, hba⟩
      have HBA := Lib.hid (HBX.out.trans (hba.mono HBX.out.size))
      clear hba
      go_wp2_with fail
      go_ret
      exact ⟨rfl, HBA.out⟩
  · have d5 : decide ((500 : Int) < (n : Int)) = true := by simp; omega
    clear HPU HSS HSN
    cases ba
    · cases bo
      · have RGA := HKA.out.range 0 ca (by rw [List.drop_zero, List.take_length])
        rw [HW0.out] at RGA
        go_enter Try.func3, Try.ntmps3
        go_wp2_with (first
          | (refine wpList_load_mid rfl 32 (.tmp 3) rfl w.heap.size 0 rfl ca _ RGA hu rfl (by rw [HLA.out]; exact info_cm) ?_; simp only [Act.put, List.setIfInBounds_toArray, List.set_cons_zero, List.set_cons_succ])
          | fail)
        rw [← HW0.out]
        refine (HBA.out _ HB0.out).mono ?_
        rintro e wa ⟨rfl, hba⟩
        clear RGA
        have HBX := Lib.hid (HB0.out.trans (hba.mono HB0.out.size))
        have HKA := Lib.hid (HKA.out.later hba)
        have HKO := Lib.hid (HKO.out.later hba)
        have RGA := HKA.out.range 0 ca (by rw [List.drop_zero, List.take_length])
        have RGO := HKO.out.range 0 co (by rw [List.drop_zero, List.take_length])
        clear hba
        go_wp2_with (first
          | (refine wpList_load_mid rfl 32 (.tmp 3) rfl w.heap.size 0 rfl ca _ RGA hu rfl (by rw [HLA.out]; exact info_cm) ?_; simp only [Act.put, List.setIfInBounds_toArray, List.set_cons_zero, List.set_cons_succ])
          | (refine wpList_load_g rfl 32 (.tmp 4) rfl (w.heap.size + 1) 0 rfl co _ RGO hu rfl (by rw [HLO.out]; exact info_cm) ?_; simp only [Act.put, List.setIfInBounds_toArray, List.set_cons_zero, List.set_cons_succ])
          | (refine wpList_load_mid rfl 32 (.tmp 4) rfl (w.heap.size + 1) 0 rfl co _ RGO hu rfl (by rw [HLO.out]; exact info_cm) ?_; simp only [Act.put, List.setIfInBounds_toArray, List.set_cons_zero, List.set_cons_succ])
          | fail)
        refine (HBO.out _ HBX.out).mono ?_
        rintro e W1 ⟨rfl, hba⟩
        have HB1 := Lib.hid (HBX.out.trans (hba.mono HBX.out.size))
        have HKA := Lib.hid (HKA.out.later hba)
        have HKO := Lib.hid (HKO.out.later hba)
        clear hba RGA RGO
        have RGA := HKA.out.range 0 ca (by rw [List.drop_zero, List.take_length])
        have RGO := HKO.out.range 0 co (by rw [List.drop_zero, List.take_length])
        go_wp2_with fail
        refine (HAW.out _).mono ?_
        rintro e wa ⟨rfl, hba⟩
        have HBA := Lib.hid (HB1.out.trans (hba.mono HB1.out.size))
        clear hba
        go_wp2_with fail
        go_ret
        exact ⟨rfl, HBA.out⟩
      · have RGA := HKA.out.range 0 ca (by rw [List.drop_zero, List.take_length])
        rw [HW0.out] at RGA
        go_enter Try.func3, Try.ntmps3
        go_wp2_with (first
          | (refine wpList_load_mid rfl 32 (.tmp 3) rfl w.heap.size 0 rfl ca _ RGA hu rfl (by rw [HLA.out]; exact info_cm) ?_; simp only [Act.put, List.setIfInBounds_toArray, List.set_cons_zero, List.set_cons_succ])
          | fail)
        rw [← HW0.out]
        refine (HBA.out _ HB0.out).mono ?_
        rintro e wa ⟨rfl, hba⟩
        clear RGA
        have HBX := Lib.hid (HB0.out.trans (hba.mono HB0.out.size))
        have HKA := Lib.hid (HKA.out.later hba)
        have HKO := Lib.hid (HKO.out.later hba)
        have RGA := HKA.out.range 0 ca (by rw [List.drop_zero, List.take_length])
        have RGO := HKO.out.range 0 co (by rw [List.drop_zero, List.take_length])
        clear hba
        go_wp2_with (first
          | (refine wpList_load_mid rfl 32 (.tmp 3) rfl w.heap.size 0 rfl ca _ RGA hu rfl (by rw [HLA.out]; exact info_cm) ?_; simp only [Act.put, List.setIfInBounds_toArray, List.set_cons_zero, List.set_cons_succ])
          | (refine wpList_load_g rfl 32 (.tmp 4) rfl (w.heap.size + 1) 0 rfl co _ RGO hu rfl (by rw [HLO.out]; exact info_cm) ?_; simp only [Act.put, List.setIfInBounds_toArray, List.set_cons_zero, List.set_cons_succ])
          | (refine wpList_load_mid rfl 32 (.tmp 4) rfl (w.heap.size + 1) 0 rfl co _ RGO hu rfl (by rw [HLO.out]; exact info_cm) ?_; simp only [Act.put, List.setIfInBounds_toArray, List.set_cons_zero, List.set_cons_succ])
          | fail)
        refine (HBO.out _ HBX.out).mono ?_
        rintro e W1 ⟨rfl, hba⟩
        have HB1 := Lib.hid (HBX.out.trans (hba.mono HBX.out.size))
        have HKA := Lib.hid (HKA.out.later hba)
        have HKO := Lib.hid (HKO.out.later hba)
        clear hba RGA RGO
        have RGA := HKA.out.range 0 ca (by rw [List.drop_zero, List.take_length])
        have RGO := HKO.out.range 0 co (by rw [List.drop_zero, List.take_length])
        go_wp2_with fail
        refine (HAW.out _).mono ?_
        rintro e wa ⟨rfl, hba⟩
        have HBA := Lib.hid (HB1.out.trans (hba.mono HB1.out.size))
        clear hba
        go_wp2_with fail
        go_ret
        exact ⟨rfl, HBA.out⟩
    · have RGA := HKA.out.range 0 ca (by rw [List.drop_zero, List.take_length])
      rw [HW0.out] at RGA
      go_enter Try.func3, Try.ntmps3
      go_wp2_with (first
        | (refine wpList_load_mid rfl 32 (.tmp 3) rfl w.heap.size 0 rfl ca _ RGA hu rfl (by rw [HLA.out]; exact info_cm) ?_; simp only [Act.put, List.setIfInBounds_toArray, List.set_cons_zero, List.set_cons_succ])
        | fail)
      rw [← HW0.out]
      refine (HBA.out _ HB0.out).mono ?_
      rintro e wa ⟨rfl, hba⟩
      clear RGA
      have HBX := Lib.hid (HB0.out.trans (hba.mono HB0.out.size))
      have HKA := Lib.hid (HKA.out.later hba)
      have HKO := Lib.hid (HKO.out.later hba)
      have RGA := HKA.out.range 0 ca (by rw [List.drop_zero, List.take_length])
      have RGO := HKO.out.range 0 co (by rw [List.drop_zero, List.take_length])
      clear hba
      go_wp2_with fail
      refine (HAW.out _).mono ?_
      rintro e wa ⟨rfl, hba⟩
      have HBA := Lib.hid (HBX.out.trans (hba.mono HBX.out.size))
      clear hba
      go_wp2_with fail
      go_ret
      exact ⟨rfl, HBA.out⟩
end Go.Proofs.Ytnhcjadkbogioaa
