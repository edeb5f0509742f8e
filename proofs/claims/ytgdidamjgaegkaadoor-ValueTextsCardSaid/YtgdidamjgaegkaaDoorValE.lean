/- Layer 4's examples; the walk of ValueChain. -/
import Derived.Test.YtgdidamjgaegkaaDoorValD
import Derived.Test.YtgdidamjgaegkaaDoorLoadG
namespace Go.Proofs.YtgdidamjgaegkaaDoor
set_option linter.unusedVariables false
open Go Go.RowKit BitM ValM

theorem vchk_text (s : ByteArray) (h : s.size ≤ 24) : vchk (2, 0, s) = true := by
  rw [vchk_2]; simp [h]
set_option maxRecDepth 100000 in
set_option maxHeartbeats 1600000 in
theorem show_plain (s : ByteArray) (w : World) (hs : s.size ≤ 24) (hp : ∀ c ∈ s.data.toList, 32 ≤ c.toNat ∧ c.toNat ≤ 126) :
    Calls Tryd.prog 49 #[.agg (vcells (2, 0, s)).toArray] w fun e w' => e = .returned (.string (str ([34] ++ qpl s.data.toList ++ [34]))) ∧ Below w.heap.size w w' := by
  have HQ := Lib.hid (fun wx : World => quote_plain s wx (by omega) hp)
  have HK := Lib.hid (fun wx : World => (show Calls Tryd.prog 35 #[.agg (vcells (2, 0, s)).toArray] wx fun e w' => e = .returned (.bool true) ∧ Below wx.heap.size wx w' from by
    have := vcheck_any 2 0 s wx
    rw [vchk_text s hs] at this
    exact this))
  have hu := Tryd.underlying43
  obtain ⟨u, hu2⟩ : ∃ u, u = str ([34] ++ qpl s.data.toList ++ [34]) := ⟨_, rfl⟩
  rw [← hu2] at HQ ⊢
  have B0 := Blk.new w (vcells (2, 0, s)) 43
  have hb := (Below.refl w.heap.size w).alloc (Nat.le_refl _) (.cells (vcells (2, 0, s)).toArray 43)
  have R0 := B0.valR
  clear hu2 hs hp
  obtain ⟨ca, hca⟩ : ∃ ca, ca = (vcells (2, 0, s)).toArray := ⟨_, rfl⟩
  rw [← hca] at R0 B0 hb ⊢
  clear hca
  go_enter Tryd.func49, Tryd.ntmps49
  go_wp2_with (first
    | (refine wpList_load_mid rfl 43 (.tmp 1) rfl w.heap.size 0 rfl (vcells (2, 0, s)) _ R0 hu rfl info_val ?_))
  refine (HK.out _).mono ?_
  rintro e w1 ⟨rfl, hb1⟩
  have B1 := B0.later hb1
  obtain ⟨p0, p1, p2⟩ := B1.val
  have hb2 := hb.trans (hb1.mono hb.size)
  clear B0 R0 hb1 hb
  go_wp2_with fail
  refine (HQ.out _).mono ?_
  rintro e w2 ⟨rfl, hb3⟩
  have hb4 := hb2.trans (hb3.mono hb2.size)
  clear p0 p1 p2 hb2
  go_wp2_with fail
  go_ret
  exact ⟨rfl, hb4⟩

set_option maxRecDepth 100000 in
set_option maxHeartbeats 1600000 in
theorem vaw_any (mm : Int) (w : World) (hmm : MaxV mm w) : Calls Tryd.prog 34 #[] w fun e w' => e = .returned (.bool true) ∧ Below w.heap.size w w' := by
  have HS := Lib.hid (fun wx : World => (show Calls Tryd.prog 49 #[.agg #[.int .i64 2, .int .i64 0, .string { data := #[97, 34, 98] }]] wx fun e w' => e = .returned (.string { data := #[34, 97, 92, 34, 98, 34] }) ∧ Below wx.heap.size wx w' from by
    have := show_plain { data := #[97, 34, 98] } wx (by decide) (by decide)
    exact this))
  have HH := Lib.hid (fun (wx : World) (hm : MaxV mm wx) => (show Calls Tryd.prog 43 #[.agg #[.int .i64 2, .int .i64 0, .string { data := #[65, 98, 99] }], .agg #[.int .i64 2, .int .i64 0, .string { data := #[66, 67] }]] wx fun e w' => e = .returned (.bool true) ∧ Below wx.heap.size wx w' from by
    have := vholds_any (2, 0, { data := #[65, 98, 99] }) (2, 0, { data := #[66, 67] }) mm wx (by decide) (by decide) hm
    have h2 : vholds (2, 0, { data := #[65, 98, 99] }) (2, 0, { data := #[66, 67] }) = true := by decide +kernel
    rw [h2] at this
    exact this))
  go_enter Tryd.func34, Tryd.ntmps34
  go_wp2_with fail
  refine (HS.out _).mono ?_
  rintro e w1 ⟨rfl, hb1⟩
  have HX := Lib.hid (HH.out w1 (hmm.later hb1))
  clear hmm
  go_wp2_with fail
  refine HX.out.mono ?_
  rintro e w2 ⟨rfl, hb2⟩
  have hb3 := hb1.trans (hb2.mono hb1.size)
  go_wp2_with fail
  go_ret
  exact ⟨rfl, hb3⟩

theorem vcmp_wrap (a b : V3) : IntKind.i64.wrap (-vcmp a b) = -vcmp a b := by
  have hI : ∀ x y : Int, cmpI x y = -1 ∨ cmpI x y = 0 ∨ cmpI x y = 1 := by
    intro x y; unfold cmpI; split
    · simp
    · split <;> simp
  have hS : ∀ x y : List UInt8, cmpS x y = -1 ∨ cmpS x y = 0 ∨ cmpS x y = 1 := by
    intro x y; unfold cmpS; split
    · simp
    · split <;> simp
  have h : vcmp a b = -1 ∨ vcmp a b = 0 ∨ vcmp a b = 1 := by
    unfold vcmp
    split
    · exact hI _ _
    · split
      · exact hI _ _
      · exact hS _ _
  rcases h with h | h | h <;> rw [h] <;> decide +kernel
set_option maxRecDepth 100000 in
set_option maxHeartbeats 6400000 in
theorem walk_chain (a b c : V3) (mm : Int) (w : World) (hmm : MaxV mm w) (hsa : a.2.2.size ≤ maxLen) (hsb : b.2.2.size ≤ maxLen) :
    Calls Tryd.prog 9 #[.agg (fcells [a, b, c]).toArray] w fun e w' => e = .returned (.bool true) ∧ Below w.heap.size w w' := by
  unfold maxLen at hsa hsb
  have hu := Tryd.underlying43
  have B0 := Blk.new w (fcells [a, b, c]) 52
  have HB := Lib.hid ((Below.refl w.heap.size w).alloc (Nat.le_refl _) (.cells (fcells [a, b, c]).toArray 52))
  have HAB := Lib.hid (fun wx : World => vless_any a b wx)
  have HBC := Lib.hid (fun wx : World => vless_any b c wx)
  have HAC := Lib.hid (fun wx : World => vless_any a c wx)
  have HAA := Lib.hid (fun wx : World => vless_any a a wx)
  rw [vless_irrefl] at HAA
  have HBA := Lib.hid (fun wx : World => vless_any b a wx)
  have HT := Lib.hid (@vless_trans a b c)
  have HAS := Lib.hid (@vless_asymm a b)
  obtain ⟨AB, hAB⟩ : ∃ x, x = vless a b := ⟨_, rfl⟩
  obtain ⟨BC, hBC⟩ : ∃ x, x = vless b c := ⟨_, rfl⟩
  obtain ⟨AC, hAC⟩ : ∃ x, x = vless a c := ⟨_, rfl⟩
  obtain ⟨BA, hBA⟩ : ∃ x, x = vless b a := ⟨_, rfl⟩
  rw [← hAB] at HAB HT HAS
  rw [← hBC] at HBC HT
  rw [← hAC] at HAC HT
  rw [← hBA] at HBA HAS
  have HC1 := Lib.hid (fun wx : World => vcompare_any a b wx)
  have HC2 := Lib.hid (fun wx : World => vcompare_any b a wx)
  have hneg := vcmp_neg a b
  have HZ : Hid ((vcmp a b == 0) = decide (a = b)) := Lib.hid (by rw [Bool.eq_iff_iff, beq_iff_eq, decide_eq_true_eq]; exact vcmp_zero a b)
  have HE := Lib.hid (fun wx : World => eq_val 9998 a b wx)
  obtain ⟨ez, hez⟩ : ∃ x, x = decide (a = b) := ⟨_, rfl⟩
  rw [← hez] at HZ HE
  obtain ⟨cab, hcab⟩ : ∃ x, x = vcmp a b := ⟨_, rfl⟩
  have HW := Lib.hid (vcmp_wrap b a)
  obtain ⟨cba, hcba⟩ : ∃ x, x = vcmp b a := ⟨_, rfl⟩
  rw [← hcab] at HC1 HZ hneg
  rw [← hcba] at HC2 hneg HW
  subst hneg
  have H0 := Lib.hid (fun (wx : World) (hl : Le (w.alloc (.cells (fcells [a, b, c]).toArray 52)) wx) => (B0.later hl).range 0 (vcells a) rfl)
  have H1 := Lib.hid (fun (wx : World) (hl : Le (w.alloc (.cells (fcells [a, b, c]).toArray 52)) wx) => (B0.later hl).range 3 (vcells b) rfl)
  have H2 := Lib.hid (fun (wx : World) (hl : Le (w.alloc (.cells (fcells [a, b, c]).toArray 52)) wx) => (B0.later hl).range 6 (vcells c) rfl)
  have s0 : (w.alloc (.cells (fcells [a, b, c]).toArray 52)).cell? ⟨w.heap.size, 2, none⟩ = some (.string a.2.2) := B0.cell rfl
  have s1 : (w.alloc (.cells (fcells [a, b, c]).toArray 52)).cell? ⟨w.heap.size, 5, none⟩ = some (.string b.2.2) := B0.cell rfl
  have s2 : (w.alloc (.cells (fcells [a, b, c]).toArray 52)).cell? ⟨w.heap.size, 8, none⟩ = some (.string c.2.2) := B0.cell rfl
  obtain ⟨ca, hca⟩ : ∃ ca, ca = (fcells [a, b, c]).toArray := ⟨_, rfl⟩
  rw [← hca] at H0 H1 H2 s0 s1 s2 HB ⊢
  have HAW := Lib.hid (fun (wx : World) (hb : Below w.heap.size w wx) => vaw_any mm wx (hmm.later hb))
  have HMM := Lib.hid hmm
  clear hAB hBC hAC hBA hez hcab hcba hca B0 hmm
  obtain ⟨g1, hg1⟩ : ∃ x, decide (500 < wrap64 ((a.2.2.size : Int) + (b.2.2.size : Int))) = x := ⟨_, rfl⟩
  obtain ⟨g2, hg2⟩ : ∃ x, decide (500 < (c.2.2.size : Int)) = x := ⟨_, rfl⟩
  cases g1
  · cases g2
    · go_enter Tryd.func9, Tryd.ntmps9
      go_wp2_with fail
      refine wp_region_steady [] 91 (by kernel_rfl) (by kernel_rfl) (by kernel_rfl) (by rfl) ?_
      iterate 1 (refine wpG_quiet (by rfl) (by rfl) (by rfl) (fun K hK => ?_); go_big_quiet_op; refine hK _ ?_; clear hK K)
      refine wpG_run (by rfl) (by rfl) (.agg (vcells a).toArray) (fun w1 hl => exec_load 43 (.tmp 23) rfl w.heap.size 0 rfl (vcells a) _ (H0.out w1 hl.1) hu rfl info_val) ?_
      simp only [Act.put, List.setIfInBounds_toArray, List.set_cons_zero, List.set_cons_succ]
      iterate 1 (refine wpG_quiet (by rfl) (by rfl) (by rfl) (fun K hK => ?_); go_big_quiet_op; refine hK _ ?_; clear hK K)
      refine wpG_run (by rfl) (by rfl) (.agg (vcells b).toArray) (fun w1 hl => exec_load 43 (.tmp 25) rfl w.heap.size 3 rfl (vcells b) _ (H1.out w1 hl.1) hu rfl info_val) ?_
      simp only [Act.put, List.setIfInBounds_toArray, List.set_cons_zero, List.set_cons_succ]
      refine wpG_call (by rfl) (by rfl) 39 #[.agg (vcells a).toArray, .agg (vcells b).toArray] (.bool AB) (by intro _; simp [go_sem]) (by kernel_rfl) (fun w1 hl => (HAB.out w1)) ?_
      simp only [Act.put, List.setIfInBounds_toArray, List.set_cons_zero, List.set_cons_succ]
      iterate 1 (refine wpG_quiet (by rfl) (by rfl) (by rfl) (fun K hK => ?_); go_big_quiet_op; refine hK _ ?_; clear hK K)
      refine wpG_run (by rfl) (by rfl) (.agg (vcells b).toArray) (fun w1 hl => exec_load 43 (.tmp 28) rfl w.heap.size 3 rfl (vcells b) _ (H1.out w1 hl.1) hu rfl info_val) ?_
      simp only [Act.put, List.setIfInBounds_toArray, List.set_cons_zero, List.set_cons_succ]
      iterate 1 (refine wpG_quiet (by rfl) (by rfl) (by rfl) (fun K hK => ?_); go_big_quiet_op; refine hK _ ?_; clear hK K)
      refine wpG_run (by rfl) (by rfl) (.agg (vcells c).toArray) (fun w1 hl => exec_load 43 (.tmp 30) rfl w.heap.size 6 rfl (vcells c) _ (H2.out w1 hl.1) hu rfl info_val) ?_
      simp only [Act.put, List.setIfInBounds_toArray, List.set_cons_zero, List.set_cons_succ]
      refine wpG_call (by rfl) (by rfl) 39 #[.agg (vcells b).toArray, .agg (vcells c).toArray] (.bool BC) (by intro _; simp [go_sem]) (by kernel_rfl) (fun w1 hl => (HBC.out w1)) ?_
      simp only [Act.put, List.setIfInBounds_toArray, List.set_cons_zero, List.set_cons_succ]
      iterate 2 (refine wpG_quiet (by rfl) (by rfl) (by rfl) (fun K hK => ?_); go_big_quiet_op; refine hK _ ?_; clear hK K)
      refine wpG_nil fun w1 hl _ => ?_
      replace HB := Lib.hid (HB.out.trans (hl.mono HB.out.size))
      replace H0 := Lib.hid (fun (wx : World) (h2 : Le _ wx) => H0.out wx (Le.trans hl h2))
      replace H1 := Lib.hid (fun (wx : World) (h2 : Le _ wx) => H1.out wx (Le.trans hl h2))
      replace H2 := Lib.hid (fun (wx : World) (h2 : Le _ wx) => H2.out wx (Le.trans hl h2))
      clear hl hg1 hg2 s0 s1 s2 hsa hsb HAW
      cases AB
      · cases BC
        · have G0 : World.rangeAt _ w.heap.size 0 (vcells a) := H0.out _ (Le.refl _)
          go_wp2_with (first
            | (refine wpList_load_g (by rfl) 43 (.tmp 46) rfl w.heap.size 0 rfl (vcells a) _ G0 hu rfl info_val ?_)
            | (refine wpList_load_g (by rfl) 43 (.tmp 48) rfl w.heap.size 0 rfl (vcells a) _ G0 hu rfl info_val ?_))
          refine (HAA.out _).mono ?_
          rintro e w20 ⟨rfl, hbx⟩
          replace HB := Lib.hid (HB.out.trans (hbx.mono HB.out.size))
          replace H0 := Lib.hid (fun (wx : World) (hl : Le w20 wx) => H0.out wx (Le.trans hbx hl))
          replace H1 := Lib.hid (fun (wx : World) (hl : Le w20 wx) => H1.out wx (Le.trans hbx hl))
          replace H2 := Lib.hid (fun (wx : World) (hl : Le w20 wx) => H2.out wx (Le.trans hbx hl))
          clear hbx G0
          go_wp2_with fail
          refine wp_region_steady [] 91 (by kernel_rfl) (by kernel_rfl) (by kernel_rfl) (by rfl) ?_
          iterate 1 (refine wpG_quiet (by rfl) (by rfl) (by rfl) (fun K hK => ?_); go_big_quiet_op; refine hK _ ?_; clear hK K)
          refine wpG_run (by rfl) (by rfl) (.agg (vcells a).toArray) (fun w1 hl => exec_load 43 (.tmp 62) rfl w.heap.size 0 rfl (vcells a) _ (H0.out w1 hl.1) hu rfl info_val) ?_
          simp only [Act.put, List.setIfInBounds_toArray, List.set_cons_zero, List.set_cons_succ]
          iterate 1 (refine wpG_quiet (by rfl) (by rfl) (by rfl) (fun K hK => ?_); go_big_quiet_op; refine hK _ ?_; clear hK K)
          refine wpG_run (by rfl) (by rfl) (.agg (vcells b).toArray) (fun w1 hl => exec_load 43 (.tmp 64) rfl w.heap.size 3 rfl (vcells b) _ (H1.out w1 hl.1) hu rfl info_val) ?_
          simp only [Act.put, List.setIfInBounds_toArray, List.set_cons_zero, List.set_cons_succ]
          refine wpG_call (by rfl) (by rfl) 37 #[.agg (vcells a).toArray, .agg (vcells b).toArray] (.int .i64 (-cba)) (by intro _; simp [go_sem]) (by kernel_rfl) (fun w1 hl => (HC1.out w1)) ?_
          simp only [Act.put, List.setIfInBounds_toArray, List.set_cons_zero, List.set_cons_succ]
          iterate 1 (refine wpG_quiet (by rfl) (by rfl) (by rfl) (fun K hK => ?_); go_big_quiet_op; refine hK _ ?_; clear hK K)
          refine wpG_run (by rfl) (by rfl) (.agg (vcells b).toArray) (fun w1 hl => exec_load 43 (.tmp 67) rfl w.heap.size 3 rfl (vcells b) _ (H1.out w1 hl.1) hu rfl info_val) ?_
          simp only [Act.put, List.setIfInBounds_toArray, List.set_cons_zero, List.set_cons_succ]
          iterate 1 (refine wpG_quiet (by rfl) (by rfl) (by rfl) (fun K hK => ?_); go_big_quiet_op; refine hK _ ?_; clear hK K)
          refine wpG_run (by rfl) (by rfl) (.agg (vcells a).toArray) (fun w1 hl => exec_load 43 (.tmp 69) rfl w.heap.size 0 rfl (vcells a) _ (H0.out w1 hl.1) hu rfl info_val) ?_
          simp only [Act.put, List.setIfInBounds_toArray, List.set_cons_zero, List.set_cons_succ]
          refine wpG_call (by rfl) (by rfl) 37 #[.agg (vcells b).toArray, .agg (vcells a).toArray] (.int .i64 cba) (by intro _; simp [go_sem]) (by kernel_rfl) (fun w1 hl => (HC2.out w1)) ?_
          simp only [Act.put, List.setIfInBounds_toArray, List.set_cons_zero, List.set_cons_succ]
          refine wpG_run (by rfl) (by rfl) (.int .i64 (-cba)) (fun w1 hl => by simp [go_sem, HW.out]) ?_
          simp only [Act.put, List.setIfInBounds_toArray, List.set_cons_zero, List.set_cons_succ]
          refine wpG_run (by rfl) (by rfl) (.bool true) (fun w1 hl => by simp [go_sem]) ?_
          simp only [Act.put, List.setIfInBounds_toArray, List.set_cons_zero, List.set_cons_succ]
          iterate 1 (refine wpG_quiet (by rfl) (by rfl) (by rfl) (fun K hK => ?_); go_big_quiet_op; refine hK _ ?_; clear hK K)
          iterate 1 (refine wpG_quiet (by rfl) (by rfl) (by rfl) (fun K hK => ?_); go_big_quiet_op; refine hK _ ?_; clear hK K)
          refine wpG_run (by rfl) (by rfl) (.agg (vcells a).toArray) (fun w1 hl => exec_load 43 (.tmp 75) rfl w.heap.size 0 rfl (vcells a) _ (H0.out w1 hl.1) hu rfl info_val) ?_
          simp only [Act.put, List.setIfInBounds_toArray, List.set_cons_zero, List.set_cons_succ]
          iterate 1 (refine wpG_quiet (by rfl) (by rfl) (by rfl) (fun K hK => ?_); go_big_quiet_op; refine hK _ ?_; clear hK K)
          refine wpG_run (by rfl) (by rfl) (.agg (vcells b).toArray) (fun w1 hl => exec_load 43 (.tmp 77) rfl w.heap.size 3 rfl (vcells b) _ (H1.out w1 hl.1) hu rfl info_val) ?_
          simp only [Act.put, List.setIfInBounds_toArray, List.set_cons_zero, List.set_cons_succ]
          refine wpG_call (by rfl) (by rfl) 37 #[.agg (vcells a).toArray, .agg (vcells b).toArray] (.int .i64 (-cba)) (by intro _; simp [go_sem]) (by kernel_rfl) (fun w1 hl => (HC1.out w1)) ?_
          simp only [Act.put, List.setIfInBounds_toArray, List.set_cons_zero, List.set_cons_succ]
          refine wpG_run (by rfl) (by rfl) (.bool ez) (fun w1 hl => by simp [go_sem, HZ.out]) ?_
          simp only [Act.put, List.setIfInBounds_toArray, List.set_cons_zero, List.set_cons_succ]
          iterate 1 (refine wpG_quiet (by rfl) (by rfl) (by rfl) (fun K hK => ?_); go_big_quiet_op; refine hK _ ?_; clear hK K)
          refine wpG_run (by rfl) (by rfl) (.agg (vcells a).toArray) (fun w1 hl => exec_load 43 (.tmp 81) rfl w.heap.size 0 rfl (vcells a) _ (H0.out w1 hl.1) hu rfl info_val) ?_
          simp only [Act.put, List.setIfInBounds_toArray, List.set_cons_zero, List.set_cons_succ]
          iterate 1 (refine wpG_quiet (by rfl) (by rfl) (by rfl) (fun K hK => ?_); go_big_quiet_op; refine hK _ ?_; clear hK K)
          refine wpG_run (by rfl) (by rfl) (.agg (vcells b).toArray) (fun w1 hl => exec_load 43 (.tmp 83) rfl w.heap.size 3 rfl (vcells b) _ (H1.out w1 hl.1) hu rfl info_val) ?_
          simp only [Act.put, List.setIfInBounds_toArray, List.set_cons_zero, List.set_cons_succ]
          refine wpG_run (by rfl) (by rfl) (.bool ez) (fun w1 hl => exec_eql 43 _ (.tmp 82) (.tmp 84) rfl _ _ rfl rfl guard_val ez (HE.out w1)) ?_
          simp only [Act.put, List.setIfInBounds_toArray, List.set_cons_zero, List.set_cons_succ]
          refine wpG_run (by rfl) (by rfl) (.bool true) (fun w1 hl => by simp [go_sem]) ?_
          simp only [Act.put, List.setIfInBounds_toArray, List.set_cons_zero, List.set_cons_succ]
          iterate 2 (refine wpG_quiet (by rfl) (by rfl) (by rfl) (fun K hK => ?_); go_big_quiet_op; refine hK _ ?_; clear hK K)
          refine wpG_call (by rfl) (by rfl) 34 #[] (.bool true) (by intro _; simp [go_sem]) (by kernel_rfl) (fun w1 hl => (vaw_any mm w1 (HMM.out.later (HB.out.trans (hl.1.mono HB.out.size))))) ?_
          simp only [Act.put, List.setIfInBounds_toArray, List.set_cons_zero, List.set_cons_succ]
          iterate 2 (refine wpG_quiet (by rfl) (by rfl) (by rfl) (fun K hK => ?_); go_big_quiet_op; refine hK _ ?_; clear hK K)
          refine wpG_nil fun w1 hl _ => ?_
          have hb9 := HB.out.trans (hl.mono HB.out.size)
          clear HB
          go_wp2_with fail
          go_ret
          exact ⟨rfl, hb9⟩
        · have G0 : World.rangeAt _ w.heap.size 0 (vcells a) := H0.out _ (Le.refl _)
          go_wp2_with (first
            | (refine wpList_load_g (by rfl) 43 (.tmp 46) rfl w.heap.size 0 rfl (vcells a) _ G0 hu rfl info_val ?_)
            | (refine wpList_load_g (by rfl) 43 (.tmp 48) rfl w.heap.size 0 rfl (vcells a) _ G0 hu rfl info_val ?_))
          refine (HAA.out _).mono ?_
          rintro e w20 ⟨rfl, hbx⟩
          replace HB := Lib.hid (HB.out.trans (hbx.mono HB.out.size))
          replace H0 := Lib.hid (fun (wx : World) (hl : Le w20 wx) => H0.out wx (Le.trans hbx hl))
          replace H1 := Lib.hid (fun (wx : World) (hl : Le w20 wx) => H1.out wx (Le.trans hbx hl))
          replace H2 := Lib.hid (fun (wx : World) (hl : Le w20 wx) => H2.out wx (Le.trans hbx hl))
          clear hbx G0
          go_wp2_with fail
          refine wp_region_steady [] 91 (by kernel_rfl) (by kernel_rfl) (by kernel_rfl) (by rfl) ?_
          iterate 1 (refine wpG_quiet (by rfl) (by rfl) (by rfl) (fun K hK => ?_); go_big_quiet_op; refine hK _ ?_; clear hK K)
          refine wpG_run (by rfl) (by rfl) (.agg (vcells a).toArray) (fun w1 hl => exec_load 43 (.tmp 62) rfl w.heap.size 0 rfl (vcells a) _ (H0.out w1 hl.1) hu rfl info_val) ?_
          simp only [Act.put, List.setIfInBounds_toArray, List.set_cons_zero, List.set_cons_succ]
          iterate 1 (refine wpG_quiet (by rfl) (by rfl) (by rfl) (fun K hK => ?_); go_big_quiet_op; refine hK _ ?_; clear hK K)
          refine wpG_run (by rfl) (by rfl) (.agg (vcells b).toArray) (fun w1 hl => exec_load 43 (.tmp 64) rfl w.heap.size 3 rfl (vcells b) _ (H1.out w1 hl.1) hu rfl info_val) ?_
          simp only [Act.put, List.setIfInBounds_toArray, List.set_cons_zero, List.set_cons_succ]
          refine wpG_call (by rfl) (by rfl) 37 #[.agg (vcells a).toArray, .agg (vcells b).toArray] (.int .i64 (-cba)) (by intro _; simp [go_sem]) (by kernel_rfl) (fun w1 hl => (HC1.out w1)) ?_
          simp only [Act.put, List.setIfInBounds_toArray, List.set_cons_zero, List.set_cons_succ]
          iterate 1 (refine wpG_quiet (by rfl) (by rfl) (by rfl) (fun K hK => ?_); go_big_quiet_op; refine hK _ ?_; clear hK K)
          refine wpG_run (by rfl) (by rfl) (.agg (vcells b).toArray) (fun w1 hl => exec_load 43 (.tmp 67) rfl w.heap.size 3 rfl (vcells b) _ (H1.out w1 hl.1) hu rfl info_val) ?_
          simp only [Act.put, List.setIfInBounds_toArray, List.set_cons_zero, List.set_cons_succ]
          iterate 1 (refine wpG_quiet (by rfl) (by rfl) (by rfl) (fun K hK => ?_); go_big_quiet_op; refine hK _ ?_; clear hK K)
          refine wpG_run (by rfl) (by rfl) (.agg (vcells a).toArray) (fun w1 hl => exec_load 43 (.tmp 69) rfl w.heap.size 0 rfl (vcells a) _ (H0.out w1 hl.1) hu rfl info_val) ?_
          simp only [Act.put, List.setIfInBounds_toArray, List.set_cons_zero, List.set_cons_succ]
          refine wpG_call (by rfl) (by rfl) 37 #[.agg (vcells b).toArray, .agg (vcells a).toArray] (.int .i64 cba) (by intro _; simp [go_sem]) (by kernel_rfl) (fun w1 hl => (HC2.out w1)) ?_
          simp only [Act.put, List.setIfInBounds_toArray, List.set_cons_zero, List.set_cons_succ]
          refine wpG_run (by rfl) (by rfl) (.int .i64 (-cba)) (fun w1 hl => by simp [go_sem, HW.out]) ?_
          simp only [Act.put, List.setIfInBounds_toArray, List.set_cons_zero, List.set_cons_succ]
          refine wpG_run (by rfl) (by rfl) (.bool true) (fun w1 hl => by simp [go_sem]) ?_
          simp only [Act.put, List.setIfInBounds_toArray, List.set_cons_zero, List.set_cons_succ]
          iterate 1 (refine wpG_quiet (by rfl) (by rfl) (by rfl) (fun K hK => ?_); go_big_quiet_op; refine hK _ ?_; clear hK K)
          iterate 1 (refine wpG_quiet (by rfl) (by rfl) (by rfl) (fun K hK => ?_); go_big_quiet_op; refine hK _ ?_; clear hK K)
          refine wpG_run (by rfl) (by rfl) (.agg (vcells a).toArray) (fun w1 hl => exec_load 43 (.tmp 75) rfl w.heap.size 0 rfl (vcells a) _ (H0.out w1 hl.1) hu rfl info_val) ?_
          simp only [Act.put, List.setIfInBounds_toArray, List.set_cons_zero, List.set_cons_succ]
          iterate 1 (refine wpG_quiet (by rfl) (by rfl) (by rfl) (fun K hK => ?_); go_big_quiet_op; refine hK _ ?_; clear hK K)
          refine wpG_run (by rfl) (by rfl) (.agg (vcells b).toArray) (fun w1 hl => exec_load 43 (.tmp 77) rfl w.heap.size 3 rfl (vcells b) _ (H1.out w1 hl.1) hu rfl info_val) ?_
          simp only [Act.put, List.setIfInBounds_toArray, List.set_cons_zero, List.set_cons_succ]
          refine wpG_call (by rfl) (by rfl) 37 #[.agg (vcells a).toArray, .agg (vcells b).toArray] (.int .i64 (-cba)) (by intro _; simp [go_sem]) (by kernel_rfl) (fun w1 hl => (HC1.out w1)) ?_
          simp only [Act.put, List.setIfInBounds_toArray, List.set_cons_zero, List.set_cons_succ]
          refine wpG_run (by rfl) (by rfl) (.bool ez) (fun w1 hl => by simp [go_sem, HZ.out]) ?_
          simp only [Act.put, List.setIfInBounds_toArray, List.set_cons_zero, List.set_cons_succ]
          iterate 1 (refine wpG_quiet (by rfl) (by rfl) (by rfl) (fun K hK => ?_); go_big_quiet_op; refine hK _ ?_; clear hK K)
          refine wpG_run (by rfl) (by rfl) (.agg (vcells a).toArray) (fun w1 hl => exec_load 43 (.tmp 81) rfl w.heap.size 0 rfl (vcells a) _ (H0.out w1 hl.1) hu rfl info_val) ?_
          simp only [Act.put, List.setIfInBounds_toArray, List.set_cons_zero, List.set_cons_succ]
          iterate 1 (refine wpG_quiet (by rfl) (by rfl) (by rfl) (fun K hK => ?_); go_big_quiet_op; refine hK _ ?_; clear hK K)
          refine wpG_run (by rfl) (by rfl) (.agg (vcells b).toArray) (fun w1 hl => exec_load 43 (.tmp 83) rfl w.heap.size 3 rfl (vcells b) _ (H1.out w1 hl.1) hu rfl info_val) ?_
          simp only [Act.put, List.setIfInBounds_toArray, List.set_cons_zero, List.set_cons_succ]
          refine wpG_run (by rfl) (by rfl) (.bool ez) (fun w1 hl => exec_eql 43 _ (.tmp 82) (.tmp 84) rfl _ _ rfl rfl guard_val ez (HE.out w1)) ?_
          simp only [Act.put, List.setIfInBounds_toArray, List.set_cons_zero, List.set_cons_succ]
          refine wpG_run (by rfl) (by rfl) (.bool true) (fun w1 hl => by simp [go_sem]) ?_
          simp only [Act.put, List.setIfInBounds_toArray, List.set_cons_zero, List.set_cons_succ]
          iterate 2 (refine wpG_quiet (by rfl) (by rfl) (by rfl) (fun K hK => ?_); go_big_quiet_op; refine hK _ ?_; clear hK K)
          refine wpG_call (by rfl) (by rfl) 34 #[] (.bool true) (by intro _; simp [go_sem]) (by kernel_rfl) (fun w1 hl => (vaw_any mm w1 (HMM.out.later (HB.out.trans (hl.1.mono HB.out.size))))) ?_
          simp only [Act.put, List.setIfInBounds_toArray, List.set_cons_zero, List.set_cons_succ]
          iterate 2 (refine wpG_quiet (by rfl) (by rfl) (by rfl) (fun K hK => ?_); go_big_quiet_op; refine hK _ ?_; clear hK K)
          refine wpG_nil fun w1 hl _ => ?_
          have hb9 := HB.out.trans (hl.mono HB.out.size)
          clear HB
          go_wp2_with fail
          go_ret
          exact ⟨rfl, hb9⟩
      · have hba := HAS.out rfl
        subst hba
        cases BC
        · have G0 : World.rangeAt _ w.heap.size 0 (vcells a) := H0.out _ (Le.refl _)
          go_wp2_with (first
            | (refine wpList_load_g (by rfl) 43 (.tmp 46) rfl w.heap.size 0 rfl (vcells a) _ G0 hu rfl info_val ?_)
            | (refine wpList_load_g (by rfl) 43 (.tmp 48) rfl w.heap.size 0 rfl (vcells a) _ G0 hu rfl info_val ?_))
          refine (HAA.out _).mono ?_
          rintro e w20 ⟨rfl, hbx⟩
          replace HB := Lib.hid (HB.out.trans (hbx.mono HB.out.size))
          replace H0 := Lib.hid (fun (wx : World) (hl : Le w20 wx) => H0.out wx (Le.trans hbx hl))
          replace H1 := Lib.hid (fun (wx : World) (hl : Le w20 wx) => H1.out wx (Le.trans hbx hl))
          replace H2 := Lib.hid (fun (wx : World) (hl : Le w20 wx) => H2.out wx (Le.trans hbx hl))
          clear hbx G0
          have G1 : World.rangeAt _ w.heap.size 3 (vcells b) := H1.out _ (Le.refl _)
          have G0 : World.rangeAt _ w.heap.size 0 (vcells a) := H0.out _ (Le.refl _)
          go_wp2_with (first
            | (refine wpList_load_g (by rfl) 43 (.tmp 55) rfl w.heap.size 3 rfl (vcells b) _ G1 hu rfl info_val ?_)
            | (refine wpList_load_g (by rfl) 43 (.tmp 57) rfl w.heap.size 0 rfl (vcells a) _ G0 hu rfl info_val ?_))
          refine (HBA.out _).mono ?_
          rintro e w21 ⟨rfl, hbx⟩
          replace HB := Lib.hid (HB.out.trans (hbx.mono HB.out.size))
          replace H0 := Lib.hid (fun (wx : World) (hl : Le w21 wx) => H0.out wx (Le.trans hbx hl))
          replace H1 := Lib.hid (fun (wx : World) (hl : Le w21 wx) => H1.out wx (Le.trans hbx hl))
          replace H2 := Lib.hid (fun (wx : World) (hl : Le w21 wx) => H2.out wx (Le.trans hbx hl))
          clear hbx G1 G0
          go_wp2_with fail
          refine wp_region_steady [] 91 (by kernel_rfl) (by kernel_rfl) (by kernel_rfl) (by rfl) ?_
          iterate 1 (refine wpG_quiet (by rfl) (by rfl) (by rfl) (fun K hK => ?_); go_big_quiet_op; refine hK _ ?_; clear hK K)
          refine wpG_run (by rfl) (by rfl) (.agg (vcells a).toArray) (fun w1 hl => exec_load 43 (.tmp 62) rfl w.heap.size 0 rfl (vcells a) _ (H0.out w1 hl.1) hu rfl info_val) ?_
          simp only [Act.put, List.setIfInBounds_toArray, List.set_cons_zero, List.set_cons_succ]
          iterate 1 (refine wpG_quiet (by rfl) (by rfl) (by rfl) (fun K hK => ?_); go_big_quiet_op; refine hK _ ?_; clear hK K)
          refine wpG_run (by rfl) (by rfl) (.agg (vcells b).toArray) (fun w1 hl => exec_load 43 (.tmp 64) rfl w.heap.size 3 rfl (vcells b) _ (H1.out w1 hl.1) hu rfl info_val) ?_
          simp only [Act.put, List.setIfInBounds_toArray, List.set_cons_zero, List.set_cons_succ]
          refine wpG_call (by rfl) (by rfl) 37 #[.agg (vcells a).toArray, .agg (vcells b).toArray] (.int .i64 (-cba)) (by intro _; simp [go_sem]) (by kernel_rfl) (fun w1 hl => (HC1.out w1)) ?_
          simp only [Act.put, List.setIfInBounds_toArray, List.set_cons_zero, List.set_cons_succ]
          iterate 1 (refine wpG_quiet (by rfl) (by rfl) (by rfl) (fun K hK => ?_); go_big_quiet_op; refine hK _ ?_; clear hK K)
          refine wpG_run (by rfl) (by rfl) (.agg (vcells b).toArray) (fun w1 hl => exec_load 43 (.tmp 67) rfl w.heap.size 3 rfl (vcells b) _ (H1.out w1 hl.1) hu rfl info_val) ?_
          simp only [Act.put, List.setIfInBounds_toArray, List.set_cons_zero, List.set_cons_succ]
          iterate 1 (refine wpG_quiet (by rfl) (by rfl) (by rfl) (fun K hK => ?_); go_big_quiet_op; refine hK _ ?_; clear hK K)
          refine wpG_run (by rfl) (by rfl) (.agg (vcells a).toArray) (fun w1 hl => exec_load 43 (.tmp 69) rfl w.heap.size 0 rfl (vcells a) _ (H0.out w1 hl.1) hu rfl info_val) ?_
          simp only [Act.put, List.setIfInBounds_toArray, List.set_cons_zero, List.set_cons_succ]
          refine wpG_call (by rfl) (by rfl) 37 #[.agg (vcells b).toArray, .agg (vcells a).toArray] (.int .i64 cba) (by intro _; simp [go_sem]) (by kernel_rfl) (fun w1 hl => (HC2.out w1)) ?_
          simp only [Act.put, List.setIfInBounds_toArray, List.set_cons_zero, List.set_cons_succ]
          refine wpG_run (by rfl) (by rfl) (.int .i64 (-cba)) (fun w1 hl => by simp [go_sem, HW.out]) ?_
          simp only [Act.put, List.setIfInBounds_toArray, List.set_cons_zero, List.set_cons_succ]
          refine wpG_run (by rfl) (by rfl) (.bool true) (fun w1 hl => by simp [go_sem]) ?_
          simp only [Act.put, List.setIfInBounds_toArray, List.set_cons_zero, List.set_cons_succ]
          iterate 1 (refine wpG_quiet (by rfl) (by rfl) (by rfl) (fun K hK => ?_); go_big_quiet_op; refine hK _ ?_; clear hK K)
          iterate 1 (refine wpG_quiet (by rfl) (by rfl) (by rfl) (fun K hK => ?_); go_big_quiet_op; refine hK _ ?_; clear hK K)
          refine wpG_run (by rfl) (by rfl) (.agg (vcells a).toArray) (fun w1 hl => exec_load 43 (.tmp 75) rfl w.heap.size 0 rfl (vcells a) _ (H0.out w1 hl.1) hu rfl info_val) ?_
          simp only [Act.put, List.setIfInBounds_toArray, List.set_cons_zero, List.set_cons_succ]
          iterate 1 (refine wpG_quiet (by rfl) (by rfl) (by rfl) (fun K hK => ?_); go_big_quiet_op; refine hK _ ?_; clear hK K)
          refine wpG_run (by rfl) (by rfl) (.agg (vcells b).toArray) (fun w1 hl => exec_load 43 (.tmp 77) rfl w.heap.size 3 rfl (vcells b) _ (H1.out w1 hl.1) hu rfl info_val) ?_
          simp only [Act.put, List.setIfInBounds_toArray, List.set_cons_zero, List.set_cons_succ]
          refine wpG_call (by rfl) (by rfl) 37 #[.agg (vcells a).toArray, .agg (vcells b).toArray] (.int .i64 (-cba)) (by intro _; simp [go_sem]) (by kernel_rfl) (fun w1 hl => (HC1.out w1)) ?_
          simp only [Act.put, List.setIfInBounds_toArray, List.set_cons_zero, List.set_cons_succ]
          refine wpG_run (by rfl) (by rfl) (.bool ez) (fun w1 hl => by simp [go_sem, HZ.out]) ?_
          simp only [Act.put, List.setIfInBounds_toArray, List.set_cons_zero, List.set_cons_succ]
          iterate 1 (refine wpG_quiet (by rfl) (by rfl) (by rfl) (fun K hK => ?_); go_big_quiet_op; refine hK _ ?_; clear hK K)
          refine wpG_run (by rfl) (by rfl) (.agg (vcells a).toArray) (fun w1 hl => exec_load 43 (.tmp 81) rfl w.heap.size 0 rfl (vcells a) _ (H0.out w1 hl.1) hu rfl info_val) ?_
          simp only [Act.put, List.setIfInBounds_toArray, List.set_cons_zero, List.set_cons_succ]
          iterate 1 (refine wpG_quiet (by rfl) (by rfl) (by rfl) (fun K hK => ?_); go_big_quiet_op; refine hK _ ?_; clear hK K)
          refine wpG_run (by rfl) (by rfl) (.agg (vcells b).toArray) (fun w1 hl => exec_load 43 (.tmp 83) rfl w.heap.size 3 rfl (vcells b) _ (H1.out w1 hl.1) hu rfl info_val) ?_
          simp only [Act.put, List.setIfInBounds_toArray, List.set_cons_zero, List.set_cons_succ]
          refine wpG_run (by rfl) (by rfl) (.bool ez) (fun w1 hl => exec_eql 43 _ (.tmp 82) (.tmp 84) rfl _ _ rfl rfl guard_val ez (HE.out w1)) ?_
          simp only [Act.put, List.setIfInBounds_toArray, List.set_cons_zero, List.set_cons_succ]
          refine wpG_run (by rfl) (by rfl) (.bool true) (fun w1 hl => by simp [go_sem]) ?_
          simp only [Act.put, List.setIfInBounds_toArray, List.set_cons_zero, List.set_cons_succ]
          iterate 2 (refine wpG_quiet (by rfl) (by rfl) (by rfl) (fun K hK => ?_); go_big_quiet_op; refine hK _ ?_; clear hK K)
          refine wpG_call (by rfl) (by rfl) 34 #[] (.bool true) (by intro _; simp [go_sem]) (by kernel_rfl) (fun w1 hl => (vaw_any mm w1 (HMM.out.later (HB.out.trans (hl.1.mono HB.out.size))))) ?_
          simp only [Act.put, List.setIfInBounds_toArray, List.set_cons_zero, List.set_cons_succ]
          iterate 2 (refine wpG_quiet (by rfl) (by rfl) (by rfl) (fun K hK => ?_); go_big_quiet_op; refine hK _ ?_; clear hK K)
          refine wpG_nil fun w1 hl _ => ?_
          have hb9 := HB.out.trans (hl.mono HB.out.size)
          clear HB
          go_wp2_with fail
          go_ret
          exact ⟨rfl, hb9⟩
        · have hac := HT.out rfl rfl
          subst hac
          have G0 : World.rangeAt _ w.heap.size 0 (vcells a) := H0.out _ (Le.refl _)
          have G2 : World.rangeAt _ w.heap.size 6 (vcells c) := H2.out _ (Le.refl _)
          go_wp2_with (first
            | (refine wpList_load_g (by rfl) 43 (.tmp 38) rfl w.heap.size 0 rfl (vcells a) _ G0 hu rfl info_val ?_)
            | (refine wpList_load_g (by rfl) 43 (.tmp 40) rfl w.heap.size 6 rfl (vcells c) _ G2 hu rfl info_val ?_))
          refine (HAC.out _).mono ?_
          rintro e w20 ⟨rfl, hbx⟩
          replace HB := Lib.hid (HB.out.trans (hbx.mono HB.out.size))
          replace H0 := Lib.hid (fun (wx : World) (hl : Le w20 wx) => H0.out wx (Le.trans hbx hl))
          replace H1 := Lib.hid (fun (wx : World) (hl : Le w20 wx) => H1.out wx (Le.trans hbx hl))
          replace H2 := Lib.hid (fun (wx : World) (hl : Le w20 wx) => H2.out wx (Le.trans hbx hl))
          clear hbx G0 G2
          have G0 : World.rangeAt _ w.heap.size 0 (vcells a) := H0.out _ (Le.refl _)
          go_wp2_with (first
            | (refine wpList_load_g (by rfl) 43 (.tmp 46) rfl w.heap.size 0 rfl (vcells a) _ G0 hu rfl info_val ?_)
            | (refine wpList_load_g (by rfl) 43 (.tmp 48) rfl w.heap.size 0 rfl (vcells a) _ G0 hu rfl info_val ?_))
          refine (HAA.out _).mono ?_
          rintro e w21 ⟨rfl, hbx⟩
          replace HB := Lib.hid (HB.out.trans (hbx.mono HB.out.size))
          replace H0 := Lib.hid (fun (wx : World) (hl : Le w21 wx) => H0.out wx (Le.trans hbx hl))
          replace H1 := Lib.hid (fun (wx : World) (hl : Le w21 wx) => H1.out wx (Le.trans hbx hl))
          replace H2 := Lib.hid (fun (wx : World) (hl : Le w21 wx) => H2.out wx (Le.trans hbx hl))
          clear hbx G0
          have G1 : World.rangeAt _ w.heap.size 3 (vcells b) := H1.out _ (Le.refl _)
          have G0 : World.rangeAt _ w.heap.size 0 (vcells a) := H0.out _ (Le.refl _)
          go_wp2_with (first
            | (refine wpList_load_g (by rfl) 43 (.tmp 55) rfl w.heap.size 3 rfl (vcells b) _ G1 hu rfl info_val ?_)
            | (refine wpList_load_g (by rfl) 43 (.tmp 57) rfl w.heap.size 0 rfl (vcells a) _ G0 hu rfl info_val ?_))
          refine (HBA.out _).mono ?_
          rintro e w22 ⟨rfl, hbx⟩
          replace HB := Lib.hid (HB.out.trans (hbx.mono HB.out.size))
          replace H0 := Lib.hid (fun (wx : World) (hl : Le w22 wx) => H0.out wx (Le.trans hbx hl))
          replace H1 := Lib.hid (fun (wx : World) (hl : Le w22 wx) => H1.out wx (Le.trans hbx hl))
          replace H2 := Lib.hid (fun (wx : World) (hl : Le w22 wx) => H2.out wx (Le.trans hbx hl))
          clear hbx G1 G0
          go_wp2_with fail
          refine wp_region_steady [] 91 (by kernel_rfl) (by kernel_rfl) (by kernel_rfl) (by rfl) ?_
          iterate 1 (refine wpG_quiet (by rfl) (by rfl) (by rfl) (fun K hK => ?_); go_big_quiet_op; refine hK _ ?_; clear hK K)
          refine wpG_run (by rfl) (by rfl) (.agg (vcells a).toArray) (fun w1 hl => exec_load 43 (.tmp 62) rfl w.heap.size 0 rfl (vcells a) _ (H0.out w1 hl.1) hu rfl info_val) ?_
          simp only [Act.put, List.setIfInBounds_toArray, List.set_cons_zero, List.set_cons_succ]
          iterate 1 (refine wpG_quiet (by rfl) (by rfl) (by rfl) (fun K hK => ?_); go_big_quiet_op; refine hK _ ?_; clear hK K)
          refine wpG_run (by rfl) (by rfl) (.agg (vcells b).toArray) (fun w1 hl => exec_load 43 (.tmp 64) rfl w.heap.size 3 rfl (vcells b) _ (H1.out w1 hl.1) hu rfl info_val) ?_
          simp only [Act.put, List.setIfInBounds_toArray, List.set_cons_zero, List.set_cons_succ]
          refine wpG_call (by rfl) (by rfl) 37 #[.agg (vcells a).toArray, .agg (vcells b).toArray] (.int .i64 (-cba)) (by intro _; simp [go_sem]) (by kernel_rfl) (fun w1 hl => (HC1.out w1)) ?_
          simp only [Act.put, List.setIfInBounds_toArray, List.set_cons_zero, List.set_cons_succ]
          iterate 1 (refine wpG_quiet (by rfl) (by rfl) (by rfl) (fun K hK => ?_); go_big_quiet_op; refine hK _ ?_; clear hK K)
          refine wpG_run (by rfl) (by rfl) (.agg (vcells b).toArray) (fun w1 hl => exec_load 43 (.tmp 67) rfl w.heap.size 3 rfl (vcells b) _ (H1.out w1 hl.1) hu rfl info_val) ?_
          simp only [Act.put, List.setIfInBounds_toArray, List.set_cons_zero, List.set_cons_succ]
          iterate 1 (refine wpG_quiet (by rfl) (by rfl) (by rfl) (fun K hK => ?_); go_big_quiet_op; refine hK _ ?_; clear hK K)
          refine wpG_run (by rfl) (by rfl) (.agg (vcells a).toArray) (fun w1 hl => exec_load 43 (.tmp 69) rfl w.heap.size 0 rfl (vcells a) _ (H0.out w1 hl.1) hu rfl info_val) ?_
          simp only [Act.put, List.setIfInBounds_toArray, List.set_cons_zero, List.set_cons_succ]
          refine wpG_call (by rfl) (by rfl) 37 #[.agg (vcells b).toArray, .agg (vcells a).toArray] (.int .i64 cba) (by intro _; simp [go_sem]) (by kernel_rfl) (fun w1 hl => (HC2.out w1)) ?_
          simp only [Act.put, List.setIfInBounds_toArray, List.set_cons_zero, List.set_cons_succ]
          refine wpG_run (by rfl) (by rfl) (.int .i64 (-cba)) (fun w1 hl => by simp [go_sem, HW.out]) ?_
          simp only [Act.put, List.setIfInBounds_toArray, List.set_cons_zero, List.set_cons_succ]
          refine wpG_run (by rfl) (by rfl) (.bool true) (fun w1 hl => by simp [go_sem]) ?_
          simp only [Act.put, List.setIfInBounds_toArray, List.set_cons_zero, List.set_cons_succ]
          iterate 1 (refine wpG_quiet (by rfl) (by rfl) (by rfl) (fun K hK => ?_); go_big_quiet_op; refine hK _ ?_; clear hK K)
          iterate 1 (refine wpG_quiet (by rfl) (by rfl) (by rfl) (fun K hK => ?_); go_big_quiet_op; refine hK _ ?_; clear hK K)
          refine wpG_run (by rfl) (by rfl) (.agg (vcells a).toArray) (fun w1 hl => exec_load 43 (.tmp 75) rfl w.heap.size 0 rfl (vcells a) _ (H0.out w1 hl.1) hu rfl info_val) ?_
          simp only [Act.put, List.setIfInBounds_toArray, List.set_cons_zero, List.set_cons_succ]
          iterate 1 (refine wpG_quiet (by rfl) (by rfl) (by rfl) (fun K hK => ?_); go_big_quiet_op; refine hK _ ?_; clear hK K)
          refine wpG_run (by rfl) (by rfl) (.agg (vcells b).toArray) (fun w1 hl => exec_load 43 (.tmp 77) rfl w.heap.size 3 rfl (vcells b) _ (H1.out w1 hl.1) hu rfl info_val) ?_
          simp only [Act.put, List.setIfInBounds_toArray, List.set_cons_zero, List.set_cons_succ]
          refine wpG_call (by rfl) (by rfl) 37 #[.agg (vcells a).toArray, .agg (vcells b).toArray] (.int .i64 (-cba)) (by intro _; simp [go_sem]) (by kernel_rfl) (fun w1 hl => (HC1.out w1)) ?_
          simp only [Act.put, List.setIfInBounds_toArray, List.set_cons_zero, List.set_cons_succ]
          refine wpG_run (by rfl) (by rfl) (.bool ez) (fun w1 hl => by simp [go_sem, HZ.out]) ?_
          simp only [Act.put, List.setIfInBounds_toArray, List.set_cons_zero, List.set_cons_succ]
          iterate 1 (refine wpG_quiet (by rfl) (by rfl) (by rfl) (fun K hK => ?_); go_big_quiet_op; refine hK _ ?_; clear hK K)
          refine wpG_run (by rfl) (by rfl) (.agg (vcells a).toArray) (fun w1 hl => exec_load 43 (.tmp 81) rfl w.heap.size 0 rfl (vcells a) _ (H0.out w1 hl.1) hu rfl info_val) ?_
          simp only [Act.put, List.setIfInBounds_toArray, List.set_cons_zero, List.set_cons_succ]
          iterate 1 (refine wpG_quiet (by rfl) (by rfl) (by rfl) (fun K hK => ?_); go_big_quiet_op; refine hK _ ?_; clear hK K)
          refine wpG_run (by rfl) (by rfl) (.agg (vcells b).toArray) (fun w1 hl => exec_load 43 (.tmp 83) rfl w.heap.size 3 rfl (vcells b) _ (H1.out w1 hl.1) hu rfl info_val) ?_
          simp only [Act.put, List.setIfInBounds_toArray, List.set_cons_zero, List.set_cons_succ]
          refine wpG_run (by rfl) (by rfl) (.bool ez) (fun w1 hl => exec_eql 43 _ (.tmp 82) (.tmp 84) rfl _ _ rfl rfl guard_val ez (HE.out w1)) ?_
          simp only [Act.put, List.setIfInBounds_toArray, List.set_cons_zero, List.set_cons_succ]
          refine wpG_run (by rfl) (by rfl) (.bool true) (fun w1 hl => by simp [go_sem]) ?_
          simp only [Act.put, List.setIfInBounds_toArray, List.set_cons_zero, List.set_cons_succ]
          iterate 2 (refine wpG_quiet (by rfl) (by rfl) (by rfl) (fun K hK => ?_); go_big_quiet_op; refine hK _ ?_; clear hK K)
          refine wpG_call (by rfl) (by rfl) 34 #[] (.bool true) (by intro _; simp [go_sem]) (by kernel_rfl) (fun w1 hl => (vaw_any mm w1 (HMM.out.later (HB.out.trans (hl.1.mono HB.out.size))))) ?_
          simp only [Act.put, List.setIfInBounds_toArray, List.set_cons_zero, List.set_cons_succ]
          iterate 2 (refine wpG_quiet (by rfl) (by rfl) (by rfl) (fun K hK => ?_); go_big_quiet_op; refine hK _ ?_; clear hK K)
          refine wpG_nil fun w1 hl _ => ?_
          have hb9 := HB.out.trans (hl.mono HB.out.size)
          clear HB
          go_wp2_with fail
          go_ret
          exact ⟨rfl, hb9⟩
    · go_enter Tryd.func9, Tryd.ntmps9
      go_wp2_with fail
      refine (HAW.out _ HB.out).mono ?_
      rintro e w1 ⟨rfl, hb1⟩
      replace HB := Lib.hid (HB.out.trans (hb1.mono HB.out.size))
      go_wp2_with fail
      go_ret
      exact ⟨rfl, HB.out⟩
  · go_enter Tryd.func9, Tryd.ntmps9
    go_wp2_with fail
    refine (HAW.out _ HB.out).mono ?_
    rintro e w1 ⟨rfl, hb1⟩
    replace HB := Lib.hid (HB.out.trans (hb1.mono HB.out.size))
    go_wp2_with fail
    go_ret
    exact ⟨rfl, HB.out⟩
end Go.Proofs.YtgdidamjgaegkaaDoor
