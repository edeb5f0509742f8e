/- CardwirePuts: the walk. -/
import Derived.Test.YticdpfjajkfheaaWirH
namespace Go.Proofs.Yticdpfjajkfheaa
set_option linter.unusedVariables false
open Go Go.RowKit BitM OctM

theorem pbs_len (x : BitVec 32) (lab : Int) (f : List V3) : (pbs x lab f).length ≤ 400 := by
  unfold pbs
  split
  · simp
  · simp only [List.length_append]
    have h1 := held_len (x.toNat : Int)
    have h2 := held_len lab
    have h5 := fbs_len (lst x 8) f
    have h6 := lst_len x 8
    rw [flds_lst]
    split <;> first | omega | (simp only [List.length_nil]; omega)

set_option maxRecDepth 100000 in
set_option maxHeartbeats 6400000 in
theorem walk_wputs (id ver lab pl : Int) (x : BitVec 32) (C P : List V3) (A : Option Addr) (n c : Nat) (l : List UInt8) (w : World) (hC : C.length = 8) (hP : P.length = 8) (hlb : 0 ≤ lab) (hpl : 0 ≤ pl) (hn : l.length = n) (hs : Sees w w.heap.size A (bvs l)) :
    Calls Try.prog 3 #[.agg (ccells id ver lab C).toArray, .agg (pcells (x.toNat : Int) pl P).toArray, .slice A n c] w fun e w' => e = .returned (.bool true) ∧ Below w.heap.size w w' := by
  have HCL : Hid ((ccells id ver lab C).length = 27) := Lib.hid (ccells_len id ver lab hC)
  have HPL : Hid ((pcells (x.toNat : Int) pl P).length = 26) := Lib.hid (pcells_len (x.toNat : Int) pl hP)
  have HFC : Hid ((fcells C).length = 24) := Lib.hid (by rw [fcells_len, hC])
  have HFP : Hid ((fcells P).length = 24) := Lib.hid (by rw [fcells_len, hP])
  have HA := Lib.hid (fun wx : World => large_any C wx hC)
  have HB := Lib.hid (fun wx : World => large_any P wx hP)
  have B0 := Blk.new w (ccells id ver lab C) 27
  have B1 := Blk.new (w.alloc (.cells (ccells id ver lab C).toArray 27)) (pcells (x.toNat : Int) pl P) 29
  have hw0 := ((Below.refl w.heap.size w).alloc (Nat.le_refl _) (.cells (ccells id ver lab C).toArray 27)).alloc (by simp) (.cells (pcells (x.toNat : Int) pl P).toArray 29)
  replace B0 := B0.alloc (.cells (pcells (x.toNat : Int) pl P).toArray 29)
  have hs1 : (w.alloc (.cells (ccells id ver lab C).toArray 27)).heap.size = w.heap.size + 1 := by simp
  rw [hs1] at B1
  obtain ⟨v, hv⟩ : ∃ v, v = C[0]'(by omega) := ⟨_, rfl⟩
  have HLV0 : Hid (∀ wx : World, Blk wx w.heap.size (ccells id ver lab C) → wx.rangeAt w.heap.size 3 (vcells v)) := Lib.hid (fun wx h => range3 (v := v) (by rw [hv]; exact Blk.field (o := 3) h 0 rfl (by omega)))
  obtain ⟨ss, hss'⟩ : ∃ z, z = str l := ⟨_, rfl⟩
  have hss := hss'
  have zs : ss.size = n := by rw [hss, str_size, hn]
  obtain ⟨lv, hlv⟩ : ∃ z, z = l ++ vbs v := ⟨_, rfl⟩
  obtain ⟨kv, hkv⟩ : ∃ z, z = lv.length := ⟨_, rfl⟩
  obtain ⟨rv, hrv⟩ : ∃ z, z = str (vbs v) := ⟨_, rfl⟩
  obtain ⟨sv, hsv⟩ : ∃ z, z = str lv := ⟨_, rfl⟩
  have addv : ss ++ rv = sv := by rw [hss, hrv, str_append, hsv, hlv]
  have zv : rv.size ≤ 40 := by rw [hrv, str_size]; exact vbs_len v
  have KV : Hid (lv.length = kv) := Lib.hid hkv.symm
  have CV : Hid (∀ (wx : World) (A' : Option Addr) (c' : Nat) (h : Sees wx wx.heap.size A' (bvs lv)), (convert 30 9 (.slice A' kv c')).run Try.prog wx = .ok (.string sv) wx) := Lib.hid (fun wx A' c' h => str_conv wx wx.heap.size A' kv c' lv sv hkv.symm h hsv)
  obtain ⟨lc, hlc⟩ : ∃ z, z = l ++ cbs id ver lab C := ⟨_, rfl⟩
  obtain ⟨kc, hkc⟩ : ∃ z, z = lc.length := ⟨_, rfl⟩
  obtain ⟨rc, hrc⟩ : ∃ z, z = str (cbs id ver lab C) := ⟨_, rfl⟩
  obtain ⟨sc, hsc⟩ : ∃ z, z = str lc := ⟨_, rfl⟩
  have addc : ss ++ rc = sc := by rw [hss, hrc, str_append, hsc, hlc]
  have zc : rc.size ≤ 400 := by rw [hrc, str_size]; exact cbs_len id ver lab C
  have KC : Hid (lc.length = kc) := Lib.hid hkc.symm
  have CC : Hid (∀ (wx : World) (A' : Option Addr) (c' : Nat) (h : Sees wx wx.heap.size A' (bvs lc)), (convert 30 9 (.slice A' kc c')).run Try.prog wx = .ok (.string sc) wx) := Lib.hid (fun wx A' c' h => str_conv wx wx.heap.size A' kc c' lc sc hkc.symm h hsc)
  obtain ⟨lp, hlp⟩ : ∃ z, z = l ++ pbs x pl P := ⟨_, rfl⟩
  obtain ⟨kp, hkp⟩ : ∃ z, z = lp.length := ⟨_, rfl⟩
  obtain ⟨rp, hrp⟩ : ∃ z, z = str (pbs x pl P) := ⟨_, rfl⟩
  obtain ⟨sp, hsp⟩ : ∃ z, z = str lp := ⟨_, rfl⟩
  have addp : ss ++ rp = sp := by rw [hss, hrp, str_append, hsp, hlp]
  have zp : rp.size ≤ 400 := by rw [hrp, str_size]; exact pbs_len x pl P
  have KP : Hid (lp.length = kp) := Lib.hid hkp.symm
  have CP : Hid (∀ (wx : World) (A' : Option Addr) (c' : Nat) (h : Sees wx wx.heap.size A' (bvs lp)), (convert 30 9 (.slice A' kp c')).run Try.prog wx = .ok (.string sp) wx) := Lib.hid (fun wx A' c' h => str_conv wx wx.heap.size A' kp c' lp sp hkp.symm h hsp)
  have HV : Hid (n ≤ 500 → ∀ wx : World, Le w wx → Calls Try.prog 9 #[.slice A n c, .agg (vcells v).toArray] wx (GivesBytes wx lv)) := Lib.hid (fun h5 wx hb => by rw [hlv]; exact putval_any v.1 v.2.1 v.2.2 A n c l wx hn ((hs.below hb).more hb.size) (by omega))
  have HC : Hid (n ≤ 500 → ∀ wx : World, Le w wx → Calls Try.prog 11 #[.slice A n c, .agg (ccells id ver lab C).toArray] wx (GivesBytes wx lc)) := Lib.hid (fun h5 wx hb => by rw [hlc]; exact putcard_any id ver lab C A n c l wx hC hlb hn ((hs.below hb).more hb.size) (by omega))
  have HP : Hid (n ≤ 500 → ∀ wx : World, Le w wx → Calls Try.prog 13 #[.slice A n c, .agg (pcells (x.toNat : Int) pl P).toArray] wx (GivesBytes wx lp)) := Lib.hid (fun h5 wx hb => by rw [hlp]; exact putpatch_any x pl P A n c l wx hP hpl hn ((hs.below hb).more hb.size) (by omega))
  have RV : Hid (∀ wx : World, Calls Try.prog 10 #[.agg (vcells v).toArray] wx fun e w' => e = .returned (.string rv) ∧ Below wx.heap.size wx w') := Lib.hid (fun wx => by rw [hrv]; exact rputval_any v.1 v.2.1 v.2.2 wx)
  have RC : Hid (∀ wx : World, Calls Try.prog 12 #[.agg (ccells id ver lab C).toArray] wx fun e w' => e = .returned (.string rc) ∧ Below wx.heap.size wx w') := Lib.hid (fun wx => by rw [hrc]; exact rputcard_any id ver lab C wx hC hlb)
  have RP : Hid (∀ wx : World, Calls Try.prog 14 #[.agg (pcells (x.toNat : Int) pl P).toArray] wx fun e w' => e = .returned (.string rp) ∧ Below wx.heap.size wx w') := Lib.hid (fun wx => by rw [hrp]; exact rputpatch_any x pl P wx hP hpl)
  have HSS : Hid (∀ wx : World, Le w wx → (convert 30 9 (.slice A n c)).run Try.prog wx = .ok (.string ss) wx) := Lib.hid (fun wx hb => str_conv wx w.heap.size A n c l ss hn (hs.below hb) hss)
  have RF := B0.fieldsC
  have D1 := Blk.fieldsP B1
  obtain ⟨cc, hcc⟩ : ∃ z, z = ccells id ver lab C := ⟨_, rfl⟩
  obtain ⟨pc, hpc⟩ : ∃ z, z = pcells (x.toNat : Int) pl P := ⟨_, rfl⟩
  have HFP2 : Hid (∀ wx : World, Blk wx (w.heap.size + 1) pc → wx.rangeAt (w.heap.size + 1) 2 (fcells P)) := Lib.hid (fun wx h => by rw [hpc] at h; exact h.fieldsP)
  rw [← hcc] at HLV0 HC RC B0 B1 RF hw0 HCL
  rw [← hpc] at B0 B1 RF hw0 HPL HP RP
  rw [← hcc, ← hpc]
  clear hcc hpc D1 hs1 hrv hrc hrp hsv hsc hsp hlv hlc hlp hkv hkc hkp hss hss' hv hs hn hC hP
  generalize hW : (w.alloc (.cells cc.toArray 27)).alloc (.cells pc.toArray 29) = W at *
  have HW := Lib.hid hW
  have HBW := Lib.hid hw0
  clear hW hw0
  have hu8 := Try.underlying25
  have hu24 := Try.underlying24
  have hu27 := Try.underlying27
  have hu29 := Try.underlying29
  rw [← HW.out] at RF
  obtain ⟨t1, ht1⟩ : ∃ t, t = tooLong C := ⟨_, rfl⟩
  obtain ⟨t2, ht2⟩ : ∃ t, t = tooLong P := ⟨_, rfl⟩
  rw [← ht1] at HA
  rw [← ht2] at HB
  clear ht1 ht2
  cases t1
  all_goals
    go_enter Try.func3, Try.ntmps3
    go_wp2_with (first
      | (refine wpList_load_mid rfl 25 (.tmp 8) rfl w.heap.size 3 rfl (fcells C) _ RF hu8 rfl (by rw [HFC.out]; exact info_fields) ?_)
      | fail)
    rw [HW.out]
    refine (HA.out W).mono ?_
    rintro e w1 ⟨rfl, hb⟩
    have hb1 := HBW.out.trans (hb.mono HBW.out.size)
    have C0 := B0.later hb
    have C1 := B1.later hb
    clear RF B0 B1 HA hb HBW HW
  · have RF := HFP2.out _ C1
    cases t2
    all_goals
      go_wp2_with (first
        | (refine wpList_load_g (by rfl) 25 (.tmp 12) rfl (w.heap.size + 1) 2 rfl (fcells P) _ RF hu8 rfl (by rw [HFP.out]; exact info_fields) ?_)
        | fail)
      refine (HB.out _).mono ?_
      rintro e w2 ⟨rfl, hb⟩
      have hb2 := hb1.trans (hb.mono hb1.size)
      have D0 := C0.later hb
      have D1 := C1.later hb
      clear RF C0 C1 HB hb hb1
    · by_cases h5 : n ≤ 500
      · have d5 : decide ((500 : Int) < (n : Int)) = false := by simp; omega
        replace HV : Hid (∀ wx : World, Le w2 wx → Calls Try.prog 9 #[.slice A n c, .agg (vcells v).toArray] wx (GivesBytes wx lv)) := Lib.hid (fun wx hl => HV.out h5 wx (hb2.trans (hl.mono hb2.size)))
        replace HC : Hid (∀ wx : World, Le w2 wx → Calls Try.prog 11 #[.slice A n c, .agg cc.toArray] wx (GivesBytes wx lc)) := Lib.hid (fun wx hl => HC.out h5 wx (hb2.trans (hl.mono hb2.size)))
        replace HP : Hid (∀ wx : World, Le w2 wx → Calls Try.prog 13 #[.slice A n c, .agg pc.toArray] wx (GivesBytes wx lp)) := Lib.hid (fun wx hl => HP.out h5 wx (hb2.trans (hl.mono hb2.size)))
        have hr := HSS.out w2 hb2
        have HLV : Hid (∀ wx, Le w2 wx → wx.rangeAt w.heap.size 3 (vcells v)) := Lib.hid (fun wx hl => HLV0.out wx (D0.later hl))
        have HLC : Hid (∀ wx, Le w2 wx → wx.rangeAt w.heap.size 0 cc) := Lib.hid (fun wx hl => (D0.later hl).wholeC)
        have HLP : Hid (∀ wx, Le w2 wx → wx.rangeAt (w.heap.size + 1) 0 pc) := Lib.hid (fun wx hl => (D1.later hl).wholeC)
        clear D0 D1 HLV0 HFP2 HSS
        go_wp2_with (first
          | (refine wpList_exec (by rfl) (.string ss) (exec_conv (.tmp 22) 30 9 rfl _ rfl _ hr) ?_)
          | fail)
        refine wp_region_steady [(28, relSee kv lv), (40, relSee kc lc), (51, relSee kp lp)] 62 (by kernel_rfl) (by kernel_rfl) (by kernel_rfl) (by rfl) ?_
        iterate 3 (refine wpG_quiet (by rfl) (by rfl) (by rfl) (fun K hK => ?_); go_big_quiet_op; refine hK _ ?_; clear hK K)
        refine wpG_run (by rfl) (by rfl) (.agg (vcells v).toArray) (fun w1 hl => exec_load 24 (.tmp 26) rfl w.heap.size 3 rfl (vcells v) _ (HLV.out w1 hl.1) hu24 rfl info_val) ?_
        simp only [Act.put, List.setIfInBounds_toArray, List.set_cons_zero, List.set_cons_succ]
        refine wpG_calls (relSee kv lv) (by rfl) (by rfl) 9 #[.slice A n c, .agg (vcells v).toArray] (by intro _; simp [go_sem]) (fun w1 hl => (HV.out w1 hl.1).mono ?_) ?_
        · intro e w2 h
          exact gives_see KV.out h
        rintro _ ⟨_, _, _, ⟨A1, c1, rfl, _⟩⟩
        simp only [Act.put, List.setIfInBounds_toArray, List.set_cons_zero, List.set_cons_succ]
        refine wpG_run (by rfl) (by rfl) (.string sv) (fun w1 hl => ?_) ?_
        · obtain ⟨A2, c2, h2, s2⟩ := hl.2 28 _ (by simp [Op.operands]) rfl (by intro h; cases h)
          cases h2
          exact exec_conv (.tmp 28) 30 9 rfl _ rfl _ (CV.out w1 A1 c1 s2)
        simp only [Act.put, List.setIfInBounds_toArray, List.set_cons_zero, List.set_cons_succ]
        iterate 3 (refine wpG_quiet (by rfl) (by rfl) (by rfl) (fun K hK => ?_); go_big_quiet_op; refine hK _ ?_; clear hK K)
        refine wpG_run (by rfl) (by rfl) (.agg (vcells v).toArray) (fun w1 hl => exec_load 24 (.tmp 32) rfl w.heap.size 3 rfl (vcells v) _ (HLV.out w1 hl.1) hu24 rfl info_val) ?_
        simp only [Act.put, List.setIfInBounds_toArray, List.set_cons_zero, List.set_cons_succ]
        refine wpG_call (by rfl) (by rfl) 10 #[.agg (vcells v).toArray] (.string rv) (by intro _; simp [go_sem]) (by kernel_rfl) (fun w1 hl => RV.out w1) ?_
        simp only [Act.put, List.setIfInBounds_toArray, List.set_cons_zero, List.set_cons_succ]
        iterate 4 (refine wpG_quiet (by rfl) (by rfl) (by rfl) (fun K hK => ?_); go_big_quiet_op; refine hK _ ?_; clear hK K)
        refine wpG_run (by rfl) (by rfl) (.agg cc.toArray) (fun w1 hl => exec_load 27 (.tmp 3) rfl w.heap.size 0 rfl cc _ (HLC.out w1 hl.1) hu27 rfl (by rw [HCL.out]; exact info_card)) ?_
        simp only [Act.put, List.setIfInBounds_toArray, List.set_cons_zero, List.set_cons_succ]
        refine wpG_calls (relSee kc lc) (by rfl) (by rfl) 11 #[.slice A n c, .agg cc.toArray] (by intro _; simp [go_sem]) (fun w1 hl => (HC.out w1 hl.1).mono ?_) ?_
        · intro e w2 h
          exact gives_see KC.out h
        rintro _ ⟨_, _, _, ⟨A3, c3, rfl, _⟩⟩
        simp only [Act.put, List.setIfInBounds_toArray, List.set_cons_zero, List.set_cons_succ]
        refine wpG_run (by rfl) (by rfl) (.string sc) (fun w1 hl => ?_) ?_
        · obtain ⟨A2, c2, h2, s2⟩ := hl.2 40 _ (by simp [Op.operands]) rfl (by intro h; cases h)
          cases h2
          exact exec_conv (.tmp 40) 30 9 rfl _ rfl _ (CC.out w1 A3 c3 s2)
        simp only [Act.put, List.setIfInBounds_toArray, List.set_cons_zero, List.set_cons_succ]
        iterate 1 (refine wpG_quiet (by rfl) (by rfl) (by rfl) (fun K hK => ?_); go_big_quiet_op; refine hK _ ?_; clear hK K)
        refine wpG_run (by rfl) (by rfl) (.agg cc.toArray) (fun w1 hl => exec_load 27 (.tmp 3) rfl w.heap.size 0 rfl cc _ (HLC.out w1 hl.1) hu27 rfl (by rw [HCL.out]; exact info_card)) ?_
        simp only [Act.put, List.setIfInBounds_toArray, List.set_cons_zero, List.set_cons_succ]
        refine wpG_call (by rfl) (by rfl) 12 #[.agg cc.toArray] (.string rc) (by intro _; simp [go_sem]) (by kernel_rfl) (fun w1 hl => RC.out w1) ?_
        simp only [Act.put, List.setIfInBounds_toArray, List.set_cons_zero, List.set_cons_succ]
        iterate 5 (refine wpG_quiet (by rfl) (by rfl) (by rfl) (fun K hK => ?_); go_big_quiet_op; refine hK _ ?_; clear hK K)
        refine wpG_run (by rfl) (by rfl) (.agg pc.toArray) (fun w1 hl => exec_load 29 (.tmp 4) rfl (w.heap.size + 1) 0 rfl pc _ (HLP.out w1 hl.1) hu29 rfl (by rw [HPL.out]; exact info_patch)) ?_
        simp only [Act.put, List.setIfInBounds_toArray, List.set_cons_zero, List.set_cons_succ]
        refine wpG_calls (relSee kp lp) (by rfl) (by rfl) 13 #[.slice A n c, .agg pc.toArray] (by intro _; simp [go_sem]) (fun w1 hl => (HP.out w1 hl.1).mono ?_) ?_
        · intro e w2 h
          exact gives_see KP.out h
        rintro _ ⟨_, _, _, ⟨A5, c5, rfl, _⟩⟩
        simp only [Act.put, List.setIfInBounds_toArray, List.set_cons_zero, List.set_cons_succ]
        refine wpG_run (by rfl) (by rfl) (.string sp) (fun w1 hl => ?_) ?_
        · obtain ⟨A2, c2, h2, s2⟩ := hl.2 51 _ (by simp [Op.operands]) rfl (by intro h; cases h)
          cases h2
          exact exec_conv (.tmp 51) 30 9 rfl _ rfl _ (CP.out w1 A5 c5 s2)
        simp only [Act.put, List.setIfInBounds_toArray, List.set_cons_zero, List.set_cons_succ]
        iterate 1 (refine wpG_quiet (by rfl) (by rfl) (by rfl) (fun K hK => ?_); go_big_quiet_op; refine hK _ ?_; clear hK K)
        refine wpG_run (by rfl) (by rfl) (.agg pc.toArray) (fun w1 hl => exec_load 29 (.tmp 4) rfl (w.heap.size + 1) 0 rfl pc _ (HLP.out w1 hl.1) hu29 rfl (by rw [HPL.out]; exact info_patch)) ?_
        simp only [Act.put, List.setIfInBounds_toArray, List.set_cons_zero, List.set_cons_succ]
        refine wpG_call (by rfl) (by rfl) 14 #[.agg pc.toArray] (.string rp) (by intro _; simp [go_sem]) (by kernel_rfl) (fun w1 hl => RP.out w1) ?_
        simp only [Act.put, List.setIfInBounds_toArray, List.set_cons_zero, List.set_cons_succ]
        iterate 4 (refine wpG_quiet (by rfl) (by rfl) (by rfl) (fun K hK => ?_); go_big_quiet_op; refine hK _ ?_; clear hK K)
        refine wpG_call (by rfl) (by rfl) 8 #[] (.bool true) (by intro _; simp [go_sem]) (by kernel_rfl) (fun w1 hl => wire_awake w1) ?_
        simp only [Act.put, List.setIfInBounds_toArray, List.set_cons_zero, List.set_cons_succ]
        iterate 2 (refine wpG_quiet (by rfl) (by rfl) (by rfl) (fun K hK => ?_); go_big_quiet_op; refine hK _ ?_; clear hK K)
        refine wpG_nil fun w1 hl _ => ?_
        have hb3 := hb2.trans (hl.mono hb2.size)
        go_wp2_with fail
        go_ret
        exact ⟨rfl, hb3⟩
      · have d5 : decide ((500 : Int) < (n : Int)) = true := by simp; omega
        clear HV HC HP CV CC CP addv addc addp
        go_wp2_with fail
        refine (wire_awake _).mono ?_
        rintro e w9 ⟨rfl, b9⟩
        go_wp2_with fail
        go_ret
        exact ⟨rfl, hb2.trans (b9.mono hb2.size)⟩
    · clear HV HC HP CV CC CP addv addc addp
      go_wp2_with fail
      refine (wire_awake _).mono ?_
      rintro e w9 ⟨rfl, b9⟩
      go_wp2_with fail
      go_ret
      exact ⟨rfl, hb2.trans (b9.mono hb2.size)⟩
  · clear HV HC HP CV CC CP addv addc addp C0 C1
    go_wp2_with fail
    refine (wire_awake _).mono ?_
    rintro e w9 ⟨rfl, b9⟩
    go_wp2_with fail
    go_ret
    exact ⟨rfl, hb1.trans (b9.mono hb1.size)⟩
end Go.Proofs.Yticdpfjajkfheaa
